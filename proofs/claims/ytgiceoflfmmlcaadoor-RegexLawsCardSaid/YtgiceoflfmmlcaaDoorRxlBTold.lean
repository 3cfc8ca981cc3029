/-
  What functions do, told by pure functions. No condition.
-/
import Derived.Test.YtgiceoflfmmlcaaDoorRxlATold
set_option linter.unusedSimpArgs false
set_option linter.unusedVariables false
set_option linter.unusedSectionVars false
set_option linter.unnecessarySimpa false
set_option maxRecDepth 100000
noncomputable section
namespace Go.Proofs.YtgiceoflfmmlcaaDoor.rxl02
open Go Go.Proofs.YtgiceoflfmmlcaaDoor Ax
variable [Args]
def qof_ (a0 : WL rw_iuuuuL) (a1 : List (Bool)) (a2 : Nat) (a3 : Nat) (a4 : List (Bool)) (a5 : Nat) (a6 : Nat) (a7 : Int) (r : List (Bool)) : Value := match r with
 | o0 => (sN 2 0 (((((a0).l.length : Nat) : Int)).toNat) (((((a0).l.length : Nat) : Int)).toNat))
def qog_ (a0 : WL rw_iuuuuL) (a1 : List (Bool)) (a2 : Nat) (a3 : Nat) (a4 : List (Bool)) (a5 : Nat) (a6 : Nat) (a7 : Int) (r : List (Bool)) : AH := match r with
 | o0 => ⟨sB [(2, (cB (rows rw_b o0) 4))], 3, 2⟩
abbrev G_regexreadq1 (a0 : WL rw_iuuuuL) (a1 : List (Bool)) (a2 : Nat) (a3 : Nat) (a4 : List (Bool)) (a5 : Nat) (a6 : Nat) (a7 : Int) (r : List (Bool)) : Prop := Gv P (.func 19) [(wlV a0), (sN 0 0 a2 a3), (sN 1 0 a5 a6), (Value.int .u8 a7)] ⟨sB [(0, (cB (rows rw_b a1) 4)), (1, (cB (rows rw_b a4) 4))], 2, 2⟩ (qof_ a0 a1 a2 a3 a4 a5 a6 a7 r) (qog_ a0 a1 a2 a3 a4 a5 a6 a7 r)
abbrev C_regexreadq1 (a0 : WL rw_iuuuuL) (a1 : List (Bool)) (a2 : Nat) (a3 : Nat) (a4 : List (Bool)) (a5 : Nat) (a6 : Nat) (a7 : Int) (r : List (Bool)) (ins outs : BL) : CallA := ⟨2, ins, qof_ a0 a1 a2 a3 a4 a5 a6 a7 r, qog_ a0 a1 a2 a3 a4 a5 a6 a7 r, outs⟩
def qgn_ (x0 : List (Bool)) (x1 : List (Bool)) (x2 : Nat) (x3 : Nat) (x4 : Nat) (x5 : Nat) (x6 : Int) (x8 : Nat) (x9 : Int) (x10 : Int) (x11 : Int) (x12 : Int) (x13 : Int) (x14 : Int) (x15 : NL) (x16 : WL rw_iuuuuL) (x17 : Int) (x18 : Int) (st : List (Bool) × Int) : XSt := match st with
 | (x7, x19) => (sT 74 [(1, (sN 0 0 x2 x3)), (2, (sN 1 0 x4 x5)), (3, (Value.int .u8 x6)), (9, (sN 2 0 x8 x8)), (10, (i6 x9)), (11, (pN 3 0)), (17, (wlV x16)), (18, (i6 x17)), (19, (i6 x9)), (41, (nlV x15)), (42, (i6 x18)), (43, (i6 x19))], [], ⟨sB [(0, (cB (rows rw_b x0) 4)), (1, (cB (rows rw_b x1) 4)), (2, (cB (rows rw_b x7) 4)), (3, (cB [(i6 x10), (Value.int .u64 x11), (Value.int .u64 x12), (Value.int .u64 x13), (Value.int .u64 x14), (nlV x15)] 37))], 4, 2⟩)
def qe9_ (x0 : List (Bool)) (x1 : List (Bool)) (x2 : Nat) (x3 : Nat) (x4 : Nat) (x5 : Nat) (x6 : Int) (x8 : Nat) (x9 : Int) (x10 : Int) (x11 : Int) (x12 : Int) (x13 : Int) (x14 : Int) (x15 : NL) (x16 : WL rw_iuuuuL) (x17 : Int) (x18 : Int) (r : List (Bool)) : Ex × XSt := match r with
 | z0 => (.exit 2, (sT 74 [(1, (sN 0 0 x2 x3)), (2, (sN 1 0 x4 x5)), (3, (Value.int .u8 x6)), (9, (sN 2 0 x8 x8)), (17, (wlV x16)), (18, (i6 x17)), (19, (i6 x9))], [], ⟨sB [(0, (cB (rows rw_b x0) 4)), (1, (cB (rows rw_b x1) 4)), (2, (cB (rows rw_b z0) 4))], 3, 2⟩))
abbrev qqp_ (rnd : Option Nat) (x0 : List (Bool)) (x1 : List (Bool)) (x2 : Nat) (x3 : Nat) (x4 : Nat) (x5 : Nat) (x6 : Int) (x8 : Nat) (x9 : Int) (x10 : Int) (x11 : Int) (x12 : Int) (x13 : Int) (x14 : Int) (x15 : NL) (x16 : WL rw_iuuuuL) (x17 : Int) (x18 : Int) (st : List (Bool) × Int) (c : Ex × XSt) : Prop := CG P rnd (fnN P 19) 2 (qbi_ P 19 [false, false, true, true, true, false, false, true, true, false, false, true, false, true, true]) (qgn_ x0 x1 x2 x3 x4 x5 x6 x8 x9 x10 x11 x12 x13 x14 x15 x16 x17 x18 st) c
abbrev qqq_ (rd : Option Nat) (x0 : List (Bool)) (x1 : List (Bool)) (x2 : Nat) (x3 : Nat) (x4 : Nat) (x5 : Nat) (x6 : Int) (x8 : Nat) (x9 : Int) (x10 : Int) (x11 : Int) (x12 : Int) (x13 : Int) (x14 : Int) (x15 : NL) (x16 : WL rw_iuuuuL) (x17 : Int) (x18 : Int) (st : List (Bool) × Int) (r : List (Bool)) : Prop := CG P rd (fnN P 19) 2 (qbi_ P 19 [false, true, true, true, false, false, true, true, false, false, true, false, true, true]) (qgn_ x0 x1 x2 x3 x4 x5 x6 x8 x9 x10 x11 x12 x13 x14 x15 x16 x17 x18 st) (qe9_ x0 x1 x2 x3 x4 x5 x6 x8 x9 x10 x11 x12 x13 x14 x15 x16 x17 x18 r)
def qc6_ (n : Nat) (x0 : List (Bool)) (x1 : List (Bool)) (x2 : Nat) (x3 : Nat) (x4 : Nat) (x5 : Nat) (x6 : Int) (x8 : Nat) (x9 : Int) (x10 : Int) (x11 : Int) (x12 : Int) (x13 : Int) (x14 : Int) (x15 : NL) (x16 : WL rw_iuuuuL) (x17 : Int) (x18 : Int) (st : List (Bool) × Int) : Option ((List (Bool) × Int) ⊕ (List (Bool))) := match st with
 | (x7, x19) =>
  if x19 < x18 then
   if 0 ≤ x19 ∧ x19 < (((x15).l.length : Nat) : Int) then
    if (x19).toNat < ((x15).l).length then
     ((some (((x15).l).getD (x19).toNat 0))).bind fun y4_ =>
     if 0 ≤ y4_ ∧ y4_ < ((x8 : Nat) : Int) then
      if (y4_).toNat < (x7).length then
       ((some ((x7).getD (y4_).toNat (false)))).bind fun y7_ =>
       if y7_ = true then
        if 0 ≤ x9 ∧ x9 < ((x8 : Nat) : Int) then
         if (x9).toNat < (x7).length then
          some (.inl (((x7).set (x9).toNat true), (w64 (x19 + 1))))
         else none
        else none
       else
        if 0 ≤ x9 ∧ x9 < ((x8 : Nat) : Int) then
         if (x9).toNat < (x7).length then
          ((some ((x7).getD (x9).toNat (false)))).bind fun y11_ =>
          if y11_ = true then
           if x10 = 3 then
            if 0 ≤ y4_ ∧ y4_ < ((x2 : Nat) : Int) then
             if (y4_).toNat < (x0).length then
              ((some ((x0).getD (y4_).toNat (false)))).bind fun y16_ =>
              some (.inl (((x7).set (x9).toNat y16_), (w64 (x19 + 1))))
             else none
            else none
           else
            some (.inl (((x7).set (x9).toNat true), (w64 (x19 + 1))))
          else
           some (.inl (((x7).set (x9).toNat false), (w64 (x19 + 1))))
         else none
        else none
      else none
     else none
    else none
   else none
  else
   some (.inr x7)
def qit_ (n : Nat) (x0 : List (Bool)) (x1 : List (Bool)) (x2 : Nat) (x3 : Nat) (x4 : Nat) (x5 : Nat) (x6 : Int) (x8 : Nat) (x9 : Int) (x10 : Int) (x11 : Int) (x12 : Int) (x13 : Int) (x14 : Int) (x15 : NL) (x16 : WL rw_iuuuuL) (x17 : Int) (x18 : Int) (st : List (Bool) × Int) : Option (List (Bool)) := iterM (qc6_ n x0 x1 x2 x3 x4 x5 x6 x8 x9 x10 x11 x12 x13 x14 x15 x16 x17 x18) n st
theorem ql5_ (n : Nat) {rnd : Option Nat} (x0 : List (Bool)) (x1 : List (Bool)) (x2 : Nat) (x3 : Nat) (x4 : Nat) (x5 : Nat) (x6 : Int) (x8 : Nat) (x9 : Int) (x10 : Int) (x11 : Int) (x12 : Int) (x13 : Int) (x14 : Int) (x15 : NL) (x16 : WL rw_iuuuuL) (x17 : Int) (x18 : Int) (st : List (Bool) × Int) (o : (List (Bool) × Int) ⊕ (List (Bool))) (h : qc6_ n x0 x1 x2 x3 x4 x5 x6 x8 x9 x10 x11 x12 x13 x14 x15 x16 x17 x18 st = some o) : qqp_ rnd x0 x1 x2 x3 x4 x5 x6 x8 x9 x10 x11 x12 x13 x14 x15 x16 x17 x18 st (Sum.elim (fun s => (.normal, qgn_ x0 x1 x2 x3 x4 x5 x6 x8 x9 x10 x11 x12 x13 x14 x15 x16 x17 x18 s)) (fun r => qe9_ x0 x1 x2 x3 x4 x5 x6 x8 x9 x10 x11 x12 x13 x14 x15 x16 x17 x18 r) o) := by
 obtain ⟨x7, x19⟩ := st
 unfold qc6_ at h
 dsimp only at h
 by_cases hy1 : x19 < x18
 ·rw [if_pos hy1] at h
  obtain ⟨hy2, h⟩ := gd h
  obtain ⟨hy3, h⟩ := gd h
  obtain ⟨y4_, hy4, h⟩ := oB h
  obtain ⟨hy5, h⟩ := gd h
  obtain ⟨hy6, h⟩ := gd h
  obtain ⟨y7_, hy7, h⟩ := oB h
  have k0 := fun {A L l} (k : PL A L l) => zz 1 (xdT hy1) <|
   zz 7 (xk5 (Nat.add (x15).num 64) (x15).off (x15).cap hy2) <|
   zz 8 (nk6 hy4 hy3) <|
   zz 14 (xk7 2 x8 hy5) <|
   zz 15 (ok8 hy7 (hy6)) <|
   k
  by_cases hy8 : y7_ = true
  ·rw [if_pos hy8] at h
   obtain ⟨hy9, h⟩ := gd h
   obtain ⟨hy10, h⟩ := gd h
   obtain rfl := oI h
   exact runC2 hm (kW [1, 2, 3, 9, 10, 11, 17, 18, 19, 41, 42, 43] [(0, 0, true), (1, 1, true), (2, 2, true), (3, 3, false)] 4 2) (k0 <|
    zz 16 (xbT hy8) <|
    zz 33 (xk7 2 x8 hy9) <|
    yy 34 (.sto (layT (rows rw_b ((x7).set (x9).toNat true)))) <|
    ww (p := ∃ old, rdT (layT (rows rw_b x7)) 1 ((x9).toNat * 1) = some old) (Exists.elim (qbf_ rwf_b (false) (i := (x9).toNat) (j := 0) (l := [(bO true)]) true ((x9).toNat * 1) rfl (hy10) (Nat.le_of_ble_eq_true rfl) rfl) fun o h => ⟨o, h.1⟩) <|
    ww (p := layL [(bO true)] ((x9).toNat * 1) (layT (rows rw_b x7)) = layT (rows rw_b ((x7).set (x9).toNat true))) (Exists.elim (qbf_ rwf_b (false) (i := (x9).toNat) (j := 0) (l := [(bO true)]) true ((x9).toNat * 1) rfl (hy10) (Nat.le_of_ble_eq_true rfl) rfl) fun o h => h.2) <|
    ww (qa_ rwf_b x0 4) <|
    ww (qa_ rwf_b x1 4) <|
    ww (qa_ rwf_b ((x7).set (x9).toNat true) 4) <|
    ee) (by kernel_rfl)
  ·rw [if_neg hy8] at h
   obtain ⟨hy9, h⟩ := gd h
   obtain ⟨hy10, h⟩ := gd h
   obtain ⟨y11_, hy11, h⟩ := oB h
   have k5 := fun {A L l} (k : PL A L l) => zz 16 (xbF hy8) <|
    zz 19 (xk7 2 x8 hy9) <|
    zz 20 (ok8 hy11 (hy10)) <|
    k
   by_cases hy12 : y11_ = true
   ·rw [if_pos hy12] at h
    have k8 := fun {A L l} (k : PL A L l) => zz 21 (xbT hy12) <|
     k
    by_cases hy13 : x10 = 3
    ·rw [if_pos hy13] at h
     obtain ⟨hy14, h⟩ := gd h
     obtain ⟨hy15, h⟩ := gd h
     obtain ⟨y16_, hy16, h⟩ := oB h
     obtain rfl := oI h
     exact runC2 hm (kW [1, 2, 3, 9, 10, 11, 17, 18, 19, 41, 42, 43] [(0, 0, true), (1, 1, true), (2, 2, true), (3, 3, false)] 4 2) (k0 <|
      k5 <|
      k8 <|
      zz 24 (xnF hy13) <|
      zz 28 (xk7 0 x3 hy14) <|
      zz 29 (ok8 hy16 (hy15)) <|
      zz 33 (xk7 2 x8 hy9) <|
      yy 34 (.sto (layT (rows rw_b ((x7).set (x9).toNat y16_)))) <|
      ww (p := ∃ old, rdT (layT (rows rw_b x7)) 1 ((x9).toNat * 1) = some old) (Exists.elim (qbf_ rwf_b (false) (i := (x9).toNat) (j := 0) (l := [(bO y16_)]) y16_ ((x9).toNat * 1) rfl (hy10) (Nat.le_of_ble_eq_true rfl) rfl) fun o h => ⟨o, h.1⟩) <|
      ww (p := layL [(bO y16_)] ((x9).toNat * 1) (layT (rows rw_b x7)) = layT (rows rw_b ((x7).set (x9).toNat y16_))) (Exists.elim (qbf_ rwf_b (false) (i := (x9).toNat) (j := 0) (l := [(bO y16_)]) y16_ ((x9).toNat * 1) rfl (hy10) (Nat.le_of_ble_eq_true rfl) rfl) fun o h => h.2) <|
      ww (qa_ rwf_b x0 4) <|
      ww (qa_ rwf_b x1 4) <|
      ww (qa_ rwf_b ((x7).set (x9).toNat y16_) 4) <|
      ee) (by kernel_rfl)
    ·rw [if_neg hy13] at h
     obtain rfl := oI h
     exact runC2 hm (kW [1, 2, 3, 9, 10, 11, 17, 18, 19, 41, 42, 43] [(0, 0, true), (1, 1, true), (2, 2, true), (3, 3, false)] 4 2) (k0 <|
      k5 <|
      k8 <|
      zz 24 (xnT hy13) <|
      zz 33 (xk7 2 x8 hy9) <|
      yy 34 (.sto (layT (rows rw_b ((x7).set (x9).toNat true)))) <|
      ww (p := ∃ old, rdT (layT (rows rw_b x7)) 1 ((x9).toNat * 1) = some old) (Exists.elim (qbf_ rwf_b (false) (i := (x9).toNat) (j := 0) (l := [(bO true)]) true ((x9).toNat * 1) rfl (hy10) (Nat.le_of_ble_eq_true rfl) rfl) fun o h => ⟨o, h.1⟩) <|
      ww (p := layL [(bO true)] ((x9).toNat * 1) (layT (rows rw_b x7)) = layT (rows rw_b ((x7).set (x9).toNat true))) (Exists.elim (qbf_ rwf_b (false) (i := (x9).toNat) (j := 0) (l := [(bO true)]) true ((x9).toNat * 1) rfl (hy10) (Nat.le_of_ble_eq_true rfl) rfl) fun o h => h.2) <|
      ww (qa_ rwf_b x0 4) <|
      ww (qa_ rwf_b x1 4) <|
      ww (qa_ rwf_b ((x7).set (x9).toNat true) 4) <|
      ee) (by kernel_rfl)
   ·rw [if_neg hy12] at h
    obtain rfl := oI h
    exact runC2 hm (kW [1, 2, 3, 9, 10, 11, 17, 18, 19, 41, 42, 43] [(0, 0, true), (1, 1, true), (2, 2, true), (3, 3, false)] 4 2) (k0 <|
     k5 <|
     zz 21 (xbF hy12) <|
     zz 33 (xk7 2 x8 hy9) <|
     yy 34 (.sto (layT (rows rw_b ((x7).set (x9).toNat false)))) <|
     ww (p := ∃ old, rdT (layT (rows rw_b x7)) 1 ((x9).toNat * 1) = some old) (Exists.elim (qbf_ rwf_b (false) (i := (x9).toNat) (j := 0) (l := [(bO false)]) false ((x9).toNat * 1) rfl (hy10) (Nat.le_of_ble_eq_true rfl) rfl) fun o h => ⟨o, h.1⟩) <|
     ww (p := layL [(bO false)] ((x9).toNat * 1) (layT (rows rw_b x7)) = layT (rows rw_b ((x7).set (x9).toNat false))) (Exists.elim (qbf_ rwf_b (false) (i := (x9).toNat) (j := 0) (l := [(bO false)]) false ((x9).toNat * 1) rfl (hy10) (Nat.le_of_ble_eq_true rfl) rfl) fun o h => h.2) <|
     ww (qa_ rwf_b x0 4) <|
     ww (qa_ rwf_b x1 4) <|
     ww (qa_ rwf_b ((x7).set (x9).toNat false) 4) <|
     ee) (by kernel_rfl)
 ·rw [if_neg hy1] at h
  obtain rfl := oI h
  exact runC2 hm (kW [1, 2, 3, 9, 17, 18, 19] [(0, 0, true), (1, 1, true), (2, 2, true)] 3 2) (zz 1 (xdF hy1) <|
   ww (qa_ rwf_b x0 4) <|
   ww (qa_ rwf_b x1 4) <|
   ww (qa_ rwf_b x7 4) <|
   ee) (by kernel_rfl)
theorem qnu_ (n : Nat) {rnd : Option Nat} (x0 : List (Bool)) (x1 : List (Bool)) (x2 : Nat) (x3 : Nat) (x4 : Nat) (x5 : Nat) (x6 : Int) (x8 : Nat) (x9 : Int) (x10 : Int) (x11 : Int) (x12 : Int) (x13 : Int) (x14 : Int) (x15 : NL) (x16 : WL rw_iuuuuL) (x17 : Int) (x18 : Int) (st : List (Bool) × Int) (r : List (Bool)) (h : qit_ n x0 x1 x2 x3 x4 x5 x6 x8 x9 x10 x11 x12 x13 x14 x15 x16 x17 x18 st = some r) : qqq_ rnd x0 x1 x2 x3 x4 x5 x6 x8 x9 x10 x11 x12 x13 x14 x15 x16 x17 x18 st r :=
 CG.iter (b := qbi_ P 19 [false, false, true, true, true, false, false, true, true, false, false, true, false, true, true]) (by kernel_rfl) (body := qc6_ n x0 x1 x2 x3 x4 x5 x6 x8 x9 x10 x11 x12 x13 x14 x15 x16 x17 x18) (S := qgn_ x0 x1 x2 x3 x4 x5 x6 x8 x9 x10 x11 x12 x13 x14 x15 x16 x17 x18) (X := qe9_ x0 x1 x2 x3 x4 x5 x6 x8 x9 x10 x11 x12 x13 x14 x15 x16 x17 x18)
  (fun s s' h => ql5_ n x0 x1 x2 x3 x4 x5 x6 x8 x9 x10 x11 x12 x13 x14 x15 x16 x17 x18 s (.inl s') h)
  (fun s r h => ql5_ n x0 x1 x2 x3 x4 x5 x6 x8 x9 x10 x11 x12 x13 x14 x15 x16 x17 x18 s (.inr r) h)
  (fun r => by intro hx; cases hx) h
def qgo_ (x0 : List (Bool)) (x1 : List (Bool)) (x2 : Nat) (x3 : Nat) (x4 : Nat) (x5 : Nat) (x6 : Int) (x8 : Nat) (x9 : WL rw_iuuuuL) (x10 : Int) (st : List (Bool) × Int) : XSt := match st with
 | (x7, x11) => (sT 74 [(1, (sN 0 0 x2 x3)), (2, (sN 1 0 x4 x5)), (3, (Value.int .u8 x6)), (9, (sN 2 0 x8 x8)), (17, (wlV x9)), (18, (i6 x10)), (19, (i6 x11))], [], ⟨sB [(0, (cB (rows rw_b x0) 4)), (1, (cB (rows rw_b x1) 4)), (2, (cB (rows rw_b x7) 4))], 3, 2⟩)
def qfa_ (x0 : List (Bool)) (x1 : List (Bool)) (x2 : Nat) (x3 : Nat) (x4 : Nat) (x5 : Nat) (x6 : Int) (x8 : Nat) (x9 : WL rw_iuuuuL) (x10 : Int) (r : List (Bool)) : Ex × XSt := match r with
 | z0 => (.exit 0, (sT 74 [(9, (sN 2 0 x8 x8))], [], ⟨sB [(0, (cB (rows rw_b x0) 4)), (1, (cB (rows rw_b x1) 4)), (2, (cB (rows rw_b z0) 4))], 3, 2⟩))
abbrev qqr_ (rnd : Option Nat) (x0 : List (Bool)) (x1 : List (Bool)) (x2 : Nat) (x3 : Nat) (x4 : Nat) (x5 : Nat) (x6 : Int) (x8 : Nat) (x9 : WL rw_iuuuuL) (x10 : Int) (st : List (Bool) × Int) (c : Ex × XSt) : Prop := CG P rnd (fnN P 19) 2 (qbi_ P 19 [false, false, true, false, true, true]) (qgo_ x0 x1 x2 x3 x4 x5 x6 x8 x9 x10 st) c
abbrev qqs_ (rd : Option Nat) (x0 : List (Bool)) (x1 : List (Bool)) (x2 : Nat) (x3 : Nat) (x4 : Nat) (x5 : Nat) (x6 : Int) (x8 : Nat) (x9 : WL rw_iuuuuL) (x10 : Int) (st : List (Bool) × Int) (r : List (Bool)) : Prop := CG P rd (fnN P 19) 2 (qbi_ P 19 [false, true, false, true, true]) (qgo_ x0 x1 x2 x3 x4 x5 x6 x8 x9 x10 st) (qfa_ x0 x1 x2 x3 x4 x5 x6 x8 x9 x10 r)
def qc7_ (n : Nat) (x0 : List (Bool)) (x1 : List (Bool)) (x2 : Nat) (x3 : Nat) (x4 : Nat) (x5 : Nat) (x6 : Int) (x8 : Nat) (x9 : WL rw_iuuuuL) (x10 : Int) (st : List (Bool) × Int) : Option ((List (Bool) × Int) ⊕ (List (Bool))) := match st with
 | (x7, x11) =>
  if x11 < x10 then
   if 0 ≤ x11 ∧ x11 < (((x9).l.length : Nat) : Int) then
    ((some (((x9).l).getD (x11).toNat (0, 0, 0, 0, 0, nl0)))).bind fun y3_ =>
    if (y3_.1) = 2 then
     if 0 ≤ x11 ∧ x11 < ((x4 : Nat) : Int) then
      if (x11).toNat < (x1).length then
       ((some ((x1).getD (x11).toNat (false)))).bind fun y7_ =>
       if y7_ = true then
        (qhx_ n (y3_.2.1) (y3_.2.2.1) (y3_.2.2.2.1) (y3_.2.2.2.2.1) x6).bind fun y9_ =>
        if 0 ≤ x11 ∧ x11 < ((x8 : Nat) : Int) then
         if (x11).toNat < (x7).length then
          some (.inl (((x7).set (x11).toNat y9_), (w64 (x11 + 1))))
         else none
        else none
       else
        if 0 ≤ x11 ∧ x11 < ((x8 : Nat) : Int) then
         if (x11).toNat < (x7).length then
          some (.inl (((x7).set (x11).toNat false), (w64 (x11 + 1))))
         else none
        else none
      else none
     else none
    else
     (qit_ n x0 x1 x2 x3 x4 x5 x6 x8 x11 (y3_.1) (y3_.2.1) (y3_.2.2.1) (y3_.2.2.2.1) (y3_.2.2.2.2.1) (y3_.2.2.2.2.2) x9 x10 ((((y3_.2.2.2.2.2)).l.length : Nat) : Int) (x7, 0)).bind fun y5_ =>
     some (.inl (y5_, (w64 (x11 + 1))))
   else none
  else
   some (.inr x7)
def qiu_ (n : Nat) (x0 : List (Bool)) (x1 : List (Bool)) (x2 : Nat) (x3 : Nat) (x4 : Nat) (x5 : Nat) (x6 : Int) (x8 : Nat) (x9 : WL rw_iuuuuL) (x10 : Int) (st : List (Bool) × Int) : Option (List (Bool)) := iterM (qc7_ n x0 x1 x2 x3 x4 x5 x6 x8 x9 x10) n st
theorem ql6_ (n : Nat) {rnd : Option Nat} (x0 : List (Bool)) (x1 : List (Bool)) (x2 : Nat) (x3 : Nat) (x4 : Nat) (x5 : Nat) (x6 : Int) (x8 : Nat) (x9 : WL rw_iuuuuL) (x10 : Int) (st : List (Bool) × Int) (o : (List (Bool) × Int) ⊕ (List (Bool))) (h : qc7_ n x0 x1 x2 x3 x4 x5 x6 x8 x9 x10 st = some o) : qqr_ rnd x0 x1 x2 x3 x4 x5 x6 x8 x9 x10 st (Sum.elim (fun s => (.normal, qgo_ x0 x1 x2 x3 x4 x5 x6 x8 x9 x10 s)) (fun r => qfa_ x0 x1 x2 x3 x4 x5 x6 x8 x9 x10 r) o) := by
 obtain ⟨x7, x11⟩ := st
 unfold qc7_ at h
 dsimp only at h
 by_cases hy1 : x11 < x10
 ·rw [if_pos hy1] at h
  obtain ⟨hy2, h⟩ := gd h
  obtain ⟨y3_, hy3, h⟩ := oB h
  have k0 := fun {A L l} (k : PL A L l) => zz 1 (xdT hy1) <|
   zz 8 (xk1 (x9).num (x9).off (x9).cap hy2) <|
   zz 9 (lk4 hy3 (qkg_ hy2)) <|
   k
  by_cases hy4 : (y3_.1) = 2
  ·rw [if_pos hy4] at h
   obtain ⟨hy5, h⟩ := gd h
   obtain ⟨hy6, h⟩ := gd h
   obtain ⟨y7_, hy7, h⟩ := oB h
   have k3 := fun {A L l} (k : PL A L l) => zz 17 (xeT hy4) <|
    zz 24 (xk7 1 x5 hy5) <|
    zz 25 (ok8 hy7 (hy6)) <|
    k
   by_cases hy8 : y7_ = true
   ·rw [if_pos hy8] at h
    obtain ⟨y9_, hy9, h⟩ := oB h
    obtain ⟨hy10, h⟩ := gd h
    obtain ⟨hy11, h⟩ := gd h
    obtain rfl := oI h
    exact runC2 hm (kW [1, 2, 3, 9, 17, 18, 19] [(0, 0, true), (1, 1, true), (2, 2, true)] 3 2) (k0 <|
     k3 <|
     zz 26 (xbT hy8) <|
     yy 30 (.call (C_classHasq1 (y3_.2.1) (y3_.2.2.1) (y3_.2.2.2.1) (y3_.2.2.2.2.1) x6 y9_ [] [])) <|
     ww (qqo_ n (y3_.2.1) (y3_.2.2.1) (y3_.2.2.2.1) (y3_.2.2.2.2.1) x6 y9_ hy9) <|
     zz 32 (xk7 2 x8 hy10) <|
     yy 33 (.sto (layT (rows rw_b ((x7).set (x11).toNat y9_)))) <|
     ww (p := ∃ old, rdT (layT (rows rw_b x7)) 1 ((x11).toNat * 1) = some old) (Exists.elim (qbf_ rwf_b (false) (i := (x11).toNat) (j := 0) (l := [(bO y9_)]) y9_ ((x11).toNat * 1) rfl (hy11) (Nat.le_of_ble_eq_true rfl) rfl) fun o h => ⟨o, h.1⟩) <|
     ww (p := layL [(bO y9_)] ((x11).toNat * 1) (layT (rows rw_b x7)) = layT (rows rw_b ((x7).set (x11).toNat y9_))) (Exists.elim (qbf_ rwf_b (false) (i := (x11).toNat) (j := 0) (l := [(bO y9_)]) y9_ ((x11).toNat * 1) rfl (hy11) (Nat.le_of_ble_eq_true rfl) rfl) fun o h => h.2) <|
     ww (qa_ rwf_b x0 4) <|
     ww (qa_ rwf_b x1 4) <|
     ww (qa_ rwf_b ((x7).set (x11).toNat y9_) 4) <|
     ee) (by kernel_rfl)
   ·rw [if_neg hy8] at h
    obtain ⟨hy9, h⟩ := gd h
    obtain ⟨hy10, h⟩ := gd h
    obtain rfl := oI h
    exact runC2 hm (kW [1, 2, 3, 9, 17, 18, 19] [(0, 0, true), (1, 1, true), (2, 2, true)] 3 2) (k0 <|
     k3 <|
     zz 26 (xbF hy8) <|
     zz 32 (xk7 2 x8 hy9) <|
     yy 33 (.sto (layT (rows rw_b ((x7).set (x11).toNat false)))) <|
     ww (p := ∃ old, rdT (layT (rows rw_b x7)) 1 ((x11).toNat * 1) = some old) (Exists.elim (qbf_ rwf_b (false) (i := (x11).toNat) (j := 0) (l := [(bO false)]) false ((x11).toNat * 1) rfl (hy10) (Nat.le_of_ble_eq_true rfl) rfl) fun o h => ⟨o, h.1⟩) <|
     ww (p := layL [(bO false)] ((x11).toNat * 1) (layT (rows rw_b x7)) = layT (rows rw_b ((x7).set (x11).toNat false))) (Exists.elim (qbf_ rwf_b (false) (i := (x11).toNat) (j := 0) (l := [(bO false)]) false ((x11).toNat * 1) rfl (hy10) (Nat.le_of_ble_eq_true rfl) rfl) fun o h => h.2) <|
     ww (qa_ rwf_b x0 4) <|
     ww (qa_ rwf_b x1 4) <|
     ww (qa_ rwf_b ((x7).set (x11).toNat false) 4) <|
     ee) (by kernel_rfl)
  ·rw [if_neg hy4] at h
   obtain ⟨y5_, hy5, h⟩ := oB h
   obtain rfl := oI h
   exact runC2 hm (kW [1, 2, 3, 9, 17, 18, 19] [(0, 0, true), (1, 1, true), (2, 2, true)] 3 2) (k0 <|
    zz 17 (xeF hy4) <|
    ww (qnu_ n (rnd := rnd) x0 x1 x2 x3 x4 x5 x6 x8 x11 (y3_.1) (y3_.2.1) (y3_.2.2.1) (y3_.2.2.2.1) (y3_.2.2.2.2.1) (y3_.2.2.2.2.2) x9 x10 ((((y3_.2.2.2.2.2)).l.length : Nat) : Int) (x7, 0) y5_ hy5) <|
    ww (qa_ rwf_b x0 4) <|
    ww (qa_ rwf_b x1 4) <|
    ww (qa_ rwf_b x7 4) <|
    ll 25 ⟨(kW [1, 2, 3, 9, 10, 11, 17, 18, 19, 41, 42, 43] [(0, 0, true), (1, 1, true), (2, 2, true), (3, 3, false)] 4 2), (qe9_ x0 x1 x2 x3 x4 x5 x6 x8 x11 (y3_.1) (y3_.2.1) (y3_.2.2.1) (y3_.2.2.2.1) (y3_.2.2.2.2.1) (y3_.2.2.2.2.2) x9 x10 ((((y3_.2.2.2.2.2)).l.length : Nat) : Int) y5_).1, (qe9_ x0 x1 x2 x3 x4 x5 x6 x8 x11 (y3_.1) (y3_.2.1) (y3_.2.2.1) (y3_.2.2.2.1) (y3_.2.2.2.2.1) (y3_.2.2.2.2.2) x9 x10 ((((y3_.2.2.2.2.2)).l.length : Nat) : Int) y5_).2⟩ <|
    ww (qa_ rwf_b x0 4) <|
    ww (qa_ rwf_b x1 4) <|
    ww (qa_ rwf_b y5_ 4) <|
    ee) (by kernel_rfl)
 ·rw [if_neg hy1] at h
  obtain rfl := oI h
  exact runC2 hm (kW [9] [(0, 0, true), (1, 1, true), (2, 2, true)] 3 2) (zz 1 (xdF hy1) <|
   ww (qa_ rwf_b x0 4) <|
   ww (qa_ rwf_b x1 4) <|
   ww (qa_ rwf_b x7 4) <|
   ee) (by kernel_rfl)
theorem qnv_ (n : Nat) {rnd : Option Nat} (x0 : List (Bool)) (x1 : List (Bool)) (x2 : Nat) (x3 : Nat) (x4 : Nat) (x5 : Nat) (x6 : Int) (x8 : Nat) (x9 : WL rw_iuuuuL) (x10 : Int) (st : List (Bool) × Int) (r : List (Bool)) (h : qiu_ n x0 x1 x2 x3 x4 x5 x6 x8 x9 x10 st = some r) : qqs_ rnd x0 x1 x2 x3 x4 x5 x6 x8 x9 x10 st r :=
 CG.iter (b := qbi_ P 19 [false, false, true, false, true, true]) (by kernel_rfl) (body := qc7_ n x0 x1 x2 x3 x4 x5 x6 x8 x9 x10) (S := qgo_ x0 x1 x2 x3 x4 x5 x6 x8 x9 x10) (X := qfa_ x0 x1 x2 x3 x4 x5 x6 x8 x9 x10)
  (fun s s' h => ql6_ n x0 x1 x2 x3 x4 x5 x6 x8 x9 x10 s (.inl s') h)
  (fun s r h => ql6_ n x0 x1 x2 x3 x4 x5 x6 x8 x9 x10 s (.inr r) h)
  (fun r => by intro hx; cases hx) h
def qgv_ (n : Nat) (a0 : WL rw_iuuuuL) (a1 : List (Bool)) (a2 : Nat) (a3 : Nat) (a4 : List (Bool)) (a5 : Nat) (a6 : Nat) (a7 : Int) : Option (List (Bool)) :=
 if 0 ≤ (((a0).l.length : Nat) : Int) then
  if ((((a0).l.length : Nat) : Int)).toNat * 1 ≤ 140737488355328 then
   (qiu_ n a1 a4 a2 a3 a5 a6 a7 (((((a0).l.length : Nat) : Int)).toNat) a0 (((a0).l.length : Nat) : Int) ((List.replicate ((((a0).l.length : Nat) : Int)).toNat (false)), 0)).bind fun c3_ =>
   some c3_
  else none
 else none
theorem qqf_ (n : Nat) (a0 : WL rw_iuuuuL) (a1 : List (Bool)) (a2 : Nat) (a3 : Nat) (a4 : List (Bool)) (a5 : Nat) (a6 : Nat) (a7 : Int) (r : List (Bool)) (h : qgv_ n a0 a1 a2 a3 a4 a5 a6 a7 = some r) : G_regexreadq1 a0 a1 a2 a3 a4 a5 a6 a7 r := by
 unfold qgv_ at h
 obtain ⟨hc1, h⟩ := gd h
 obtain ⟨hc2, h⟩ := gd h
 obtain ⟨c3_, hc3, h⟩ := oB h
 obtain rfl := oI h
 exact runF2 hm (kW [8] [(2, 2, true)] 3 2) (yy 5 (.mk ((((a0).l.length : Nat) : Int)).toNat (rows rw_b (List.replicate ((((a0).l.length : Nat) : Int)).toNat (false)))) <|
  ww (p := natOf (i6 (((a0).l.length : Nat) : Int)) = some ((((a0).l.length : Nat) : Int)).toNat) (qci_ hc1) <|
  ww (p := natOf (i6 (((a0).l.length : Nat) : Int)) = some ((((a0).l.length : Nat) : Int)).toNat) (qci_ hc1) <|
  ww (p := fits ((((a0).l.length : Nat) : Int)).toNat 1 = true) (fits_ok hc2 (by omega)) <|
  ww (p := isZ8 [(bO false)] = false) (rfl) <|
  ww (p := reps [(bO false)] ((((a0).l.length : Nat) : Int)).toNat = (rows rw_b (List.replicate ((((a0).l.length : Nat) : Int)).toNat (false)))) (qig_ rw_b (false) _ rfl _) <|
  ww (qnv_ n (rnd := none) a1 a4 a2 a3 a5 a6 a7 (((((a0).l.length : Nat) : Int)).toNat) a0 (((a0).l.length : Nat) : Int) ((List.replicate ((((a0).l.length : Nat) : Int)).toNat (false)), 0) c3_ hc3) <|
  ww (qa_ rwf_b a1 4) <|
  ww (qa_ rwf_b a4 4) <|
  ww (qa_ rwf_b (List.replicate ((((a0).l.length : Nat) : Int)).toNat (false)) 4) <|
  ll 13 ⟨(kW [1, 2, 3, 9, 17, 18, 19] [(0, 0, true), (1, 1, true), (2, 2, true)] 3 2), (qfa_ a1 a4 a2 a3 a5 a6 a7 (((((a0).l.length : Nat) : Int)).toNat) a0 (((a0).l.length : Nat) : Int) c3_).1, (qfa_ a1 a4 a2 a3 a5 a6 a7 (((((a0).l.length : Nat) : Int)).toNat) a0 (((a0).l.length : Nat) : Int) c3_).2⟩ <|
  ww (qa_ rwf_b c3_ 4) <|
  ee) (by kernel_rfl)

def qld_ (a0 : WL rw_iuuuuL) (a1 : ByteArray) (r : Bool) : Value := match r with
 | o0 => (bO o0)
def qle_ (a0 : WL rw_iuuuuL) (a1 : ByteArray) (r : Bool) : AH := match r with
 | o0 => ⟨sB [], 0, 0⟩
abbrev qqg_ (a0 : WL rw_iuuuuL) (a1 : ByteArray) (r : Bool) : Prop := Gv P (.func 8) [(wlV a0), (Value.string a1)] ⟨sB [], 0, 0⟩ (qld_ a0 a1 r) (qle_ a0 a1 r)
abbrev qe_ (a0 : WL rw_iuuuuL) (a1 : ByteArray) (r : Bool) (ins outs : BL) : CallA := ⟨0, ins, qld_ a0 a1 r, qle_ a0 a1 r, outs⟩
def qey_ (x0 : WL rw_iuuuuL) (x1 : ByteArray) (x2 : Int) (x3 : List (Bool)) (x4 : Nat) (x9 : Int) (st : List (Bool) × Nat × List (Bool) × Nat × Int) : XSt := match st with
 | (x5, x6, x7, x8, x10) => (sT 64 [(0, (wlV x0)), (1, (Value.string x1)), (5, (i6 x2)), (6, (sN 0 0 x4 x4)), (7, (sN 1 0 x6 x6)), (8, (sN 2 0 x8 x8)), (40, (i6 x9)), (41, (i6 x10))], [], ⟨sB [(0, (cB (rows rw_b x3) 4)), (1, (cB (rows rw_b x5) 4)), (2, (cB (rows rw_b x7) 4))], 3, 0⟩)
def qdr_ (x0 : WL rw_iuuuuL) (x1 : ByteArray) (x2 : Int) (x3 : List (Bool)) (x4 : Nat) (x9 : Int) (r : List (Bool) × Nat) : Ex × XSt := match r with
 | (z0, z1) => (.exit 0, (sT 64 [(5, (i6 x2)), (7, (sN 0 0 z1 z1))], [], ⟨sB [(0, (cB (rows rw_b z0) 4))], 1, 0⟩))
abbrev qnw_ (rnd : Option Nat) (x0 : WL rw_iuuuuL) (x1 : ByteArray) (x2 : Int) (x3 : List (Bool)) (x4 : Nat) (x9 : Int) (st : List (Bool) × Nat × List (Bool) × Nat × Int) (c : Ex × XSt) : Prop := CG P rnd (fnN P 8) 0 (qbi_ P 8 [false, false, true, false, true, true, true, true, true, true, true, true, true]) (qey_ x0 x1 x2 x3 x4 x9 st) c
abbrev qnx_ (rd : Option Nat) (x0 : WL rw_iuuuuL) (x1 : ByteArray) (x2 : Int) (x3 : List (Bool)) (x4 : Nat) (x9 : Int) (st : List (Bool) × Nat × List (Bool) × Nat × Int) (r : List (Bool) × Nat) : Prop := CG P rd (fnN P 8) 0 (qbi_ P 8 [false, true, false, true, true, true, true, true, true, true, true, true]) (qey_ x0 x1 x2 x3 x4 x9 st) (qdr_ x0 x1 x2 x3 x4 x9 r)
def qcd_ (n : Nat) (x0 : WL rw_iuuuuL) (x1 : ByteArray) (x2 : Int) (x3 : List (Bool)) (x4 : Nat) (x9 : Int) (st : List (Bool) × Nat × List (Bool) × Nat × Int) : Option ((List (Bool) × Nat × List (Bool) × Nat × Int) ⊕ (List (Bool) × Nat)) := match st with
 | (x5, x6, x7, x8, x10) =>
  if x10 < x9 then
   if 0 ≤ x10 ∧ x10 < (((x1).size : Nat) : Int) then
    (qgv_ n x0 x3 x4 x4 x7 x8 x8 (byteAt x1 (x10).toNat)).bind fun y3_ =>
    if 0 ≤ (((x0).l.length : Nat) : Int) then
     if ((((x0).l.length : Nat) : Int)).toNat * 1 ≤ 140737488355328 then
      (qed_ n x0 x3 x4 x4 (List.replicate ((((x0).l.length : Nat) : Int)).toNat (false)) (((((x0).l.length : Nat) : Int)).toNat) (((((x0).l.length : Nat) : Int)).toNat) y3_ (((((x0).l.length : Nat) : Int)).toNat) (((((x0).l.length : Nat) : Int)).toNat)).bind fun y6_ =>
      some (.inl (y3_, (((((x0).l.length : Nat) : Int)).toNat), y6_, (((((x0).l.length : Nat) : Int)).toNat), (w64 (x10 + 1))))
     else none
    else none
   else none
  else
   some (.inr (x5, x6))
def qgk_ (n : Nat) (x0 : WL rw_iuuuuL) (x1 : ByteArray) (x2 : Int) (x3 : List (Bool)) (x4 : Nat) (x9 : Int) (st : List (Bool) × Nat × List (Bool) × Nat × Int) : Option (List (Bool) × Nat) := iterM (qcd_ n x0 x1 x2 x3 x4 x9) n st
theorem qjk_ (n : Nat) {rnd : Option Nat} (x0 : WL rw_iuuuuL) (x1 : ByteArray) (x2 : Int) (x3 : List (Bool)) (x4 : Nat) (x9 : Int) (st : List (Bool) × Nat × List (Bool) × Nat × Int) (o : (List (Bool) × Nat × List (Bool) × Nat × Int) ⊕ (List (Bool) × Nat)) (h : qcd_ n x0 x1 x2 x3 x4 x9 st = some o) : qnw_ rnd x0 x1 x2 x3 x4 x9 st (Sum.elim (fun s => (.normal, qey_ x0 x1 x2 x3 x4 x9 s)) (fun r => qdr_ x0 x1 x2 x3 x4 x9 r) o) := by
 obtain ⟨x5, x6, x7, x8, x10⟩ := st
 unfold qcd_ at h
 dsimp only at h
 by_cases hy1 : x10 < x9
 ·rw [if_pos hy1] at h
  obtain ⟨hy2, h⟩ := gd h
  obtain ⟨y3_, hy3, h⟩ := oB h
  obtain ⟨hy4, h⟩ := gd h
  obtain ⟨hy5, h⟩ := gd h
  obtain ⟨y6_, hy6, h⟩ := oB h
  obtain rfl := oI h
  exact runC2 hm (kW [0, 1, 5, 6, 7, 8, 40, 41] [(0, 0, true), (1, 3, true), (2, 4, true)] 3 0) (zz 1 (xdT hy1) <|
   yy 15 (.pur (Value.int .u8 (byteAt x1 (x10).toNat))) <|
   ww (p := qn3_ P 9 (Value.string x1) (i6 x10) Ax.h0 = some ((Value.int .u8 (byteAt x1 (x10).toNat)), Ax.h0)) (ixStr (by kernel_rfl) hy2) <|
   yy 16 (.call (C_regexreadq1 x0 x3 x4 x4 x7 x8 x8 (byteAt x1 (x10).toNat) y3_ [(0, 0, true), (1, 2, true)] [(3, 2, true)])) <|
   ww (qqf_ n x0 x3 x4 x4 x7 x8 x8 (byteAt x1 (x10).toNat) y3_ hy3) <|
   ww (qa_ rwf_b x3 4) <|
   ww (qa_ rwf_b x7 4) <|
   ww (qa_ rwf_b y3_ 4) <|
   yy 21 (.mk ((((x0).l.length : Nat) : Int)).toNat (rows rw_b (List.replicate ((((x0).l.length : Nat) : Int)).toNat (false)))) <|
   ww (p := natOf (i6 (((x0).l.length : Nat) : Int)) = some ((((x0).l.length : Nat) : Int)).toNat) (qci_ hy4) <|
   ww (p := natOf (i6 (((x0).l.length : Nat) : Int)) = some ((((x0).l.length : Nat) : Int)).toNat) (qci_ hy4) <|
   ww (p := fits ((((x0).l.length : Nat) : Int)).toNat 1 = true) (fits_ok hy5 (by omega)) <|
   ww (p := isZ8 [(bO false)] = false) (rfl) <|
   ww (p := reps [(bO false)] ((((x0).l.length : Nat) : Int)).toNat = (rows rw_b (List.replicate ((((x0).l.length : Nat) : Int)).toNat (false)))) (qig_ rw_b (false) _ rfl _) <|
   yy 27 (.call (ql4_ x0 x3 x4 x4 (List.replicate ((((x0).l.length : Nat) : Int)).toNat (false)) (((((x0).l.length : Nat) : Int)).toNat) (((((x0).l.length : Nat) : Int)).toNat) y3_ (((((x0).l.length : Nat) : Int)).toNat) (((((x0).l.length : Nat) : Int)).toNat) y6_ [(0, 0, true), (1, 4, true), (2, 3, true)] [(0, 0, true), (4, 1, true), (3, 2, true)])) <|
   ww (qjj_ n x0 x3 x4 x4 (List.replicate ((((x0).l.length : Nat) : Int)).toNat (false)) (((((x0).l.length : Nat) : Int)).toNat) (((((x0).l.length : Nat) : Int)).toNat) y3_ (((((x0).l.length : Nat) : Int)).toNat) (((((x0).l.length : Nat) : Int)).toNat) y6_ hy6) <|
   ww (qa_ rwf_b x3 4) <|
   ww (qa_ rwf_b (List.replicate ((((x0).l.length : Nat) : Int)).toNat (false)) 4) <|
   ww (qa_ rwf_b y3_ 4) <|
   ww (qa_ rwf_b x3 4) <|
   ww (qa_ rwf_b y6_ 4) <|
   ww (qa_ rwf_b y3_ 4) <|
   ww (qa_ rwf_b x3 4) <|
   ww (qa_ rwf_b y3_ 4) <|
   ww (qa_ rwf_b y6_ 4) <|
   ee) (by kernel_rfl)
 ·rw [if_neg hy1] at h
  obtain rfl := oI h
  exact runC2 hm (kW [5, 7] [(0, 1, true)] 1 0) (zz 1 (xdF hy1) <|
   ww (qa_ rwf_b x5 4) <|
   ee) (by kernel_rfl)
theorem qlq_ (n : Nat) {rnd : Option Nat} (x0 : WL rw_iuuuuL) (x1 : ByteArray) (x2 : Int) (x3 : List (Bool)) (x4 : Nat) (x9 : Int) (st : List (Bool) × Nat × List (Bool) × Nat × Int) (r : List (Bool) × Nat) (h : qgk_ n x0 x1 x2 x3 x4 x9 st = some r) : qnx_ rnd x0 x1 x2 x3 x4 x9 st r :=
 CG.iter (b := qbi_ P 8 [false, false, true, false, true, true, true, true, true, true, true, true, true]) (by kernel_rfl) (body := qcd_ n x0 x1 x2 x3 x4 x9) (S := qey_ x0 x1 x2 x3 x4 x9) (X := qdr_ x0 x1 x2 x3 x4 x9)
  (fun s s' h => qjk_ n x0 x1 x2 x3 x4 x9 s (.inl s') h)
  (fun s r h => qjk_ n x0 x1 x2 x3 x4 x9 s (.inr r) h)
  (fun r => by intro hx; cases hx) h
def qd_ (n : Nat) (a0 : WL rw_iuuuuL) (a1 : ByteArray) : Option (Bool) :=
 (qd5_ n a0).bind fun c1_ =>
 if c1_ = 0 then
  ((some (w64 ((((a0).l.length : Nat) : Int) - 1)))).bind fun c3_ =>
  (qdq_ n a0).bind fun c4_ =>
  if 0 ≤ (((a0).l.length : Nat) : Int) then
   if ((((a0).l.length : Nat) : Int)).toNat * 1 ≤ 140737488355328 then
    if 0 ≤ c3_ ∧ c3_ < ((((((a0).l.length : Nat) : Int)).toNat : Nat) : Int) then
     if (c3_).toNat < ((List.replicate ((((a0).l.length : Nat) : Int)).toNat (false))).length then
      (qed_ n a0 c4_ (((((a0).l.length : Nat) : Int)).toNat) (((((a0).l.length : Nat) : Int)).toNat) (((List.replicate ((((a0).l.length : Nat) : Int)).toNat (false))).set (c3_).toNat true) (((((a0).l.length : Nat) : Int)).toNat) (((((a0).l.length : Nat) : Int)).toNat) (List.replicate ((((a0).l.length : Nat) : Int)).toNat (false)) (((((a0).l.length : Nat) : Int)).toNat) (((((a0).l.length : Nat) : Int)).toNat)).bind fun c9_ =>
      if 0 ≤ c3_ ∧ c3_ < (((((((a0).l.length : Nat) : Int)).toNat) : Nat) : Int) then
       if (c3_).toNat < (c4_).length then
        ((some ((c4_).getD (c3_).toNat (false)))).bind fun c12_ =>
        (qgk_ n a0 a1 c3_ c4_ (((((a0).l.length : Nat) : Int)).toNat) (((a1).size : Nat) : Int) ((((List.replicate ((((a0).l.length : Nat) : Int)).toNat (false))).set (c3_).toNat c12_), (((((a0).l.length : Nat) : Int)).toNat), c9_, (((((a0).l.length : Nat) : Int)).toNat), 0)).bind fun t => match t with
        | (c13_0, c13_1) =>
         if 0 ≤ c3_ ∧ c3_ < ((c13_1 : Nat) : Int) then
          if (c3_).toNat < (c13_0).length then
           ((some ((c13_0).getD (c3_).toNat (false)))).bind fun c16_ =>
           some c16_
          else none
         else none
       else none
      else none
     else none
    else none
   else none
  else none
 else
  some false
theorem qb_ (n : Nat) (a0 : WL rw_iuuuuL) (a1 : ByteArray) (r : Bool) (h : qd_ n a0 a1 = some r) : qqg_ a0 a1 r := by
 unfold qd_ at h
 obtain ⟨c1_, hc1, h⟩ := oB h
 have k0 := fun {A L l} (k : PL A L l) => yy 5 (.call (qj8_ a0 c1_ [] [])) <|
  ww (qg1_ n a0 c1_ hc1) <|
  k
 by_cases hc2 : c1_ = 0
 ·rw [if_pos hc2] at h
  obtain ⟨c3_, hc3, h⟩ := oB h
  obtain ⟨c4_, hc4, h⟩ := oB h
  obtain ⟨hc5, h⟩ := gd h
  obtain ⟨hc6, h⟩ := gd h
  obtain ⟨hc7, h⟩ := gd h
  obtain ⟨hc8, h⟩ := gd h
  obtain ⟨c9_, hc9, h⟩ := oB h
  obtain ⟨hc10, h⟩ := gd h
  obtain ⟨hc11, h⟩ := gd h
  obtain ⟨c12_, hc12, h⟩ := oB h
  obtain ⟨⟨c13_0, c13_1⟩, hc13, h⟩ := oB h
  dsimp only at h
  obtain ⟨hc14, h⟩ := gd h
  obtain ⟨hc15, h⟩ := gd h
  obtain ⟨c16_, hc16, h⟩ := oB h
  obtain rfl := oI h
  exact runF2 hm (kW [4] [] 0 0) (k0 <|
   zz 6 (xnF hc2) <|
   zz 11 (xnm hc3) <|
   yy 15 (.call (qnt_ a0 c4_ [] [(0, 0, true)])) <|
   ww (qln_ n a0 c4_ hc4) <|
   ww (qa_ rwf_b c4_ 4) <|
   yy 20 (.mk ((((a0).l.length : Nat) : Int)).toNat (rows rw_b (List.replicate ((((a0).l.length : Nat) : Int)).toNat (false)))) <|
   ww (p := natOf (i6 (((a0).l.length : Nat) : Int)) = some ((((a0).l.length : Nat) : Int)).toNat) (qci_ hc5) <|
   ww (p := natOf (i6 (((a0).l.length : Nat) : Int)) = some ((((a0).l.length : Nat) : Int)).toNat) (qci_ hc5) <|
   ww (p := fits ((((a0).l.length : Nat) : Int)).toNat 1 = true) (fits_ok hc6 (by omega)) <|
   ww (p := isZ8 [(bO false)] = false) (rfl) <|
   ww (p := reps [(bO false)] ((((a0).l.length : Nat) : Int)).toNat = (rows rw_b (List.replicate ((((a0).l.length : Nat) : Int)).toNat (false)))) (qig_ rw_b (false) _ rfl _) <|
   yy 25 (.mk ((((a0).l.length : Nat) : Int)).toNat (rows rw_b (List.replicate ((((a0).l.length : Nat) : Int)).toNat (false)))) <|
   ww (p := natOf (i6 (((a0).l.length : Nat) : Int)) = some ((((a0).l.length : Nat) : Int)).toNat) (qci_ hc5) <|
   ww (p := natOf (i6 (((a0).l.length : Nat) : Int)) = some ((((a0).l.length : Nat) : Int)).toNat) (qci_ hc5) <|
   ww (p := fits ((((a0).l.length : Nat) : Int)).toNat 1 = true) (fits_ok hc6 (by omega)) <|
   ww (p := isZ8 [(bO false)] = false) (rfl) <|
   ww (p := reps [(bO false)] ((((a0).l.length : Nat) : Int)).toNat = (rows rw_b (List.replicate ((((a0).l.length : Nat) : Int)).toNat (false)))) (qig_ rw_b (false) _ rfl _) <|
   zz 30 (xk7 2 ((((a0).l.length : Nat) : Int)).toNat hc7) <|
   yy 31 (.sto (layT (rows rw_b (((List.replicate ((((a0).l.length : Nat) : Int)).toNat (false))).set (c3_).toNat true)))) <|
   ww (p := ∃ old, rdT (layT (rows rw_b (List.replicate ((((a0).l.length : Nat) : Int)).toNat (false)))) 1 ((c3_).toNat * 1) = some old) (Exists.elim (qbf_ rwf_b (false) (i := (c3_).toNat) (j := 0) (l := [(bO true)]) true ((c3_).toNat * 1) rfl (hc8) (Nat.le_of_ble_eq_true rfl) rfl) fun o h => ⟨o, h.1⟩) <|
   ww (p := layL [(bO true)] ((c3_).toNat * 1) (layT (rows rw_b (List.replicate ((((a0).l.length : Nat) : Int)).toNat (false)))) = layT (rows rw_b (((List.replicate ((((a0).l.length : Nat) : Int)).toNat (false))).set (c3_).toNat true))) (Exists.elim (qbf_ rwf_b (false) (i := (c3_).toNat) (j := 0) (l := [(bO true)]) true ((c3_).toNat * 1) rfl (hc8) (Nat.le_of_ble_eq_true rfl) rfl) fun o h => h.2) <|
   yy 37 (.call (ql4_ a0 c4_ (((((a0).l.length : Nat) : Int)).toNat) (((((a0).l.length : Nat) : Int)).toNat) (((List.replicate ((((a0).l.length : Nat) : Int)).toNat (false))).set (c3_).toNat true) (((((a0).l.length : Nat) : Int)).toNat) (((((a0).l.length : Nat) : Int)).toNat) (List.replicate ((((a0).l.length : Nat) : Int)).toNat (false)) (((((a0).l.length : Nat) : Int)).toNat) (((((a0).l.length : Nat) : Int)).toNat) c9_ [(0, 0, true), (1, 2, true), (2, 1, true)] [(0, 0, true), (2, 1, true), (1, 2, true)])) <|
   ww (qjj_ n a0 c4_ (((((a0).l.length : Nat) : Int)).toNat) (((((a0).l.length : Nat) : Int)).toNat) (((List.replicate ((((a0).l.length : Nat) : Int)).toNat (false))).set (c3_).toNat true) (((((a0).l.length : Nat) : Int)).toNat) (((((a0).l.length : Nat) : Int)).toNat) (List.replicate ((((a0).l.length : Nat) : Int)).toNat (false)) (((((a0).l.length : Nat) : Int)).toNat) (((((a0).l.length : Nat) : Int)).toNat) c9_ hc9) <|
   ww (qa_ rwf_b c4_ 4) <|
   ww (qa_ rwf_b (((List.replicate ((((a0).l.length : Nat) : Int)).toNat (false))).set (c3_).toNat true) 4) <|
   ww (qa_ rwf_b (List.replicate ((((a0).l.length : Nat) : Int)).toNat (false)) 4) <|
   ww (qa_ rwf_b c4_ 4) <|
   ww (qa_ rwf_b c9_ 4) <|
   ww (qa_ rwf_b (List.replicate ((((a0).l.length : Nat) : Int)).toNat (false)) 4) <|
   zz 43 (xk7 0 (((((a0).l.length : Nat) : Int)).toNat) hc10) <|
   zz 44 (ok8 hc12 (hc11)) <|
   zz 45 (xk7 1 ((((a0).l.length : Nat) : Int)).toNat hc7) <|
   yy 46 (.sto (layT (rows rw_b (((List.replicate ((((a0).l.length : Nat) : Int)).toNat (false))).set (c3_).toNat c12_)))) <|
   ww (p := ∃ old, rdT (layT (rows rw_b (List.replicate ((((a0).l.length : Nat) : Int)).toNat (false)))) 1 ((c3_).toNat * 1) = some old) (Exists.elim (qbf_ rwf_b (false) (i := (c3_).toNat) (j := 0) (l := [(bO c12_)]) c12_ ((c3_).toNat * 1) rfl (hc8) (Nat.le_of_ble_eq_true rfl) rfl) fun o h => ⟨o, h.1⟩) <|
   ww (p := layL [(bO c12_)] ((c3_).toNat * 1) (layT (rows rw_b (List.replicate ((((a0).l.length : Nat) : Int)).toNat (false)))) = layT (rows rw_b (((List.replicate ((((a0).l.length : Nat) : Int)).toNat (false))).set (c3_).toNat c12_))) (Exists.elim (qbf_ rwf_b (false) (i := (c3_).toNat) (j := 0) (l := [(bO c12_)]) c12_ ((c3_).toNat * 1) rfl (hc8) (Nat.le_of_ble_eq_true rfl) rfl) fun o h => h.2) <|
   ww (qlq_ n (rnd := none) a0 a1 c3_ c4_ (((((a0).l.length : Nat) : Int)).toNat) (((a1).size : Nat) : Int) ((((List.replicate ((((a0).l.length : Nat) : Int)).toNat (false))).set (c3_).toNat c12_), (((((a0).l.length : Nat) : Int)).toNat), c9_, (((((a0).l.length : Nat) : Int)).toNat), 0) (c13_0, c13_1) hc13) <|
   ww (qa_ rwf_b c4_ 4) <|
   ww (qa_ rwf_b (((List.replicate ((((a0).l.length : Nat) : Int)).toNat (false))).set (c3_).toNat c12_) 4) <|
   ww (qa_ rwf_b c9_ 4) <|
   ll 53 ⟨(kW [0, 1, 5, 6, 7, 8, 40, 41] [(0, 0, true), (1, 1, true), (2, 2, true)] 3 0), (qdr_ a0 a1 c3_ c4_ (((((a0).l.length : Nat) : Int)).toNat) (((a1).size : Nat) : Int) (c13_0, c13_1)).1, (qdr_ a0 a1 c3_ c4_ (((((a0).l.length : Nat) : Int)).toNat) (((a1).size : Nat) : Int) (c13_0, c13_1)).2⟩ <|
   zz 57 (xk7 0 c13_1 hc14) <|
   zz 58 (ok8 hc16 (hc15)) <|
   ee) (by kernel_rfl)
 ·rw [if_neg hc2] at h
  obtain rfl := oI h
  exact runF2 hm (kW [4] [] 0 0) (k0 <|
   zz 6 (xnT hc2) <|
   ee) (by kernel_rfl)

def qkm_ (a0 : Int) (a1 : WL rw_iuuuuL) (a2 : WL rw_iuuuuL) : List Value := [(i6 a0), (sN 0 0 2 2)]
def qgc_ (a0 : Int) (a1 : WL rw_iuuuuL) (a2 : WL rw_iuuuuL) (r : WL rw_iuuuuL) : Value := match r with
 | o0 => (wlV o0)
def qgd_ (a0 : Int) (a1 : WL rw_iuuuuL) (a2 : WL rw_iuuuuL) (r : WL rw_iuuuuL) : AH := match r with
 | o0 => ⟨sB [], 1, 1⟩
abbrev qkn_ (a0 : Int) (a1 : WL rw_iuuuuL) (a2 : WL rw_iuuuuL) (r : WL rw_iuuuuL) : Prop := Gv P (.func 9) (qkm_ a0 a1 a2) ⟨sB [(0, (cB [(wlV a1), (wlV a2)] 23))], 1, 1⟩ (qgc_ a0 a1 a2 r) (qgd_ a0 a1 a2 r)
abbrev qu_ (a0 : Int) (a1 : WL rw_iuuuuL) (a2 : WL rw_iuuuuL) (r : WL rw_iuuuuL) (ins outs : BL) : CallA := ⟨1, ins, qgc_ a0 a1 a2 r, qgd_ a0 a1 a2 r, outs⟩
def qcp_ (x0 : WL rw_iuuuuL) (x1 : WL rw_iuuuuL) (x2 : Int) (x4 : Int) (x5 : Int) (x6 : Int) (x7 : Int) (x8 : Int) (x9 : Int) (x10 : NL) (st : List R6 × List Int × Int) : XSt := match st with
 | (x3, x11, x12) => (sT 72 [(0, (i6 x2)), (1, (sN 0 0 2 2)), (5, (slR x3 1 6)), (6, (Value.slice none 0 0)), (7, (i6 (0 : Int))), (8, (i6 (0 : Int))), (9, (i6 x4)), (10, (pN 2 0)), (11, (slN x11 3)), (12, (i6 x12))], [], ⟨sB [(0, (cB [(wlV x0), (wlV x1)] 23)), (1, (nblkR rw_iuuuuL x3 37)), (2, (cB [(i6 x5), (Value.int .u64 x6), (Value.int .u64 x7), (Value.int .u64 x8), (Value.int .u64 x9), (nlV x10)] 37)), (3, (nblk x11 3))], 4, 1⟩)
def qn_ (x0 : WL rw_iuuuuL) (x1 : WL rw_iuuuuL) (x2 : Int) (x4 : Int) (x5 : Int) (x6 : Int) (x7 : Int) (x8 : Int) (x9 : Int) (x10 : NL) (r : List R6 × NL) : Ex × XSt := match r with
 | (z0, z1) => (.exit 4, (sT 72 [(0, (i6 x2)), (1, (sN 0 0 2 2)), (5, (slR z0 1 6)), (6, (Value.slice none 0 0)), (7, (i6 (0 : Int))), (8, (i6 (0 : Int))), (9, (i6 x4)), (10, (pN 2 0)), (11, (nlV z1))], [], ⟨sB [(0, (cB [(wlV x0), (wlV x1)] 23)), (1, (nblkR rw_iuuuuL z0 37)), (2, (cB [(i6 x5), (Value.int .u64 x6), (Value.int .u64 x7), (Value.int .u64 x8), (Value.int .u64 x9), (nlV x10)] 37))], 3, 1⟩))
abbrev qjl_ (rnd : Option Nat) (x0 : WL rw_iuuuuL) (x1 : WL rw_iuuuuL) (x2 : Int) (x4 : Int) (x5 : Int) (x6 : Int) (x7 : Int) (x8 : Int) (x9 : Int) (x10 : NL) (st : List R6 × List Int × Int) (c : Ex × XSt) : Prop := CG P rnd (fnN P 9) 1 (qbi_ P 9 [false, false, true, false, true, true, false, false, true, false, false, true, false, true, false, false, true, false, false, true, false, true, true, true]) (qcp_ x0 x1 x2 x4 x5 x6 x7 x8 x9 x10 st) c
abbrev qjm_ (rd : Option Nat) (x0 : WL rw_iuuuuL) (x1 : WL rw_iuuuuL) (x2 : Int) (x4 : Int) (x5 : Int) (x6 : Int) (x7 : Int) (x8 : Int) (x9 : Int) (x10 : NL) (st : List R6 × List Int × Int) (r : List R6 × NL) : Prop := CG P rd (fnN P 9) 1 (qbi_ P 9 [false, true, false, true, true, false, false, true, false, false, true, false, true, false, false, true, false, false, true, false, true, true, true]) (qcp_ x0 x1 x2 x4 x5 x6 x7 x8 x9 x10 st) (qn_ x0 x1 x2 x4 x5 x6 x7 x8 x9 x10 r)
def q0_ (n : Nat) (x0 : WL rw_iuuuuL) (x1 : WL rw_iuuuuL) (x2 : Int) (x4 : Int) (x5 : Int) (x6 : Int) (x7 : Int) (x8 : Int) (x9 : Int) (x10 : NL) (st : List R6 × List Int × Int) : Option ((List R6 × List Int × Int) ⊕ (List R6 × NL)) := match st with
 | (x3, x11, x12) =>
  match x3 with
  | [] =>
   match x11 with
   | [] =>
    if x12 < (((x10).l.length : Nat) : Int) then
     if 0 ≤ x12 ∧ x12 < (((x10).l.length : Nat) : Int) then
      if (x12).toNat < ((x10).l).length then
       ((some (((x10).l).getD (x12).toNat 0))).bind fun y4_ =>
       some (.inl (([] : List R6), [(w64 (y4_ + 0))], (w64 (x12 + 1))))
      else none
     else none
    else
     some (.inr (([] : List R6), nl0))
   | x11a :: x11t =>
    if x12 < (((x10).l.length : Nat) : Int) then
     if 0 ≤ x12 ∧ x12 < (((x10).l.length : Nat) : Int) then
      if (x12).toNat < ((x10).l).length then
       ((some (((x10).l).getD (x12).toNat 0))).bind fun y4_ =>
       if (((x11a :: x11t)).length + 1) * 8 ≤ 140737488355328 then
        some (.inl (([] : List R6), ((x11a :: x11t) ++ [(w64 (y4_ + 0))]), (w64 (x12 + 1))))
       else none
      else none
     else none
    else
     if hy2 : (x11a :: x11t).length ≤ 140737488355328 then
      some (.inr (([] : List R6), (frzL (x11a :: x11t) hy2)))
     else none
  | x3a :: x3t =>
   match x11 with
   | [] =>
    if x12 < (((x10).l.length : Nat) : Int) then
     if 0 ≤ x12 ∧ x12 < (((x10).l.length : Nat) : Int) then
      if (x12).toNat < ((x10).l).length then
       ((some (((x10).l).getD (x12).toNat 0))).bind fun y4_ =>
       some (.inl ((x3a :: x3t), [(w64 (y4_ + 0))], (w64 (x12 + 1))))
      else none
     else none
    else
     some (.inr ((x3a :: x3t), nl0))
   | x11a :: x11t =>
    if x12 < (((x10).l.length : Nat) : Int) then
     if 0 ≤ x12 ∧ x12 < (((x10).l.length : Nat) : Int) then
      if (x12).toNat < ((x10).l).length then
       ((some (((x10).l).getD (x12).toNat 0))).bind fun y4_ =>
       if (((x11a :: x11t)).length + 1) * 8 ≤ 140737488355328 then
        some (.inl ((x3a :: x3t), ((x11a :: x11t) ++ [(w64 (y4_ + 0))]), (w64 (x12 + 1))))
       else none
      else none
     else none
    else
     if hy2 : (x11a :: x11t).length ≤ 140737488355328 then
      some (.inr ((x3a :: x3t), (frzL (x11a :: x11t) hy2)))
     else none
def qcq_ (n : Nat) (x0 : WL rw_iuuuuL) (x1 : WL rw_iuuuuL) (x2 : Int) (x4 : Int) (x5 : Int) (x6 : Int) (x7 : Int) (x8 : Int) (x9 : Int) (x10 : NL) (st : List R6 × List Int × Int) : Option (List R6 × NL) := iterM (q0_ n x0 x1 x2 x4 x5 x6 x7 x8 x9 x10) n st
theorem qfv_ (n : Nat) {rnd : Option Nat} (x0 : WL rw_iuuuuL) (x1 : WL rw_iuuuuL) (x2 : Int) (x4 : Int) (x5 : Int) (x6 : Int) (x7 : Int) (x8 : Int) (x9 : Int) (x10 : NL) (st : List R6 × List Int × Int) (o : (List R6 × List Int × Int) ⊕ (List R6 × NL)) (h : q0_ n x0 x1 x2 x4 x5 x6 x7 x8 x9 x10 st = some o) : qjl_ rnd x0 x1 x2 x4 x5 x6 x7 x8 x9 x10 st (Sum.elim (fun s => (.normal, qcp_ x0 x1 x2 x4 x5 x6 x7 x8 x9 x10 s)) (fun r => qn_ x0 x1 x2 x4 x5 x6 x7 x8 x9 x10 r) o) := by
 obtain ⟨x3, x11, x12⟩ := st
 unfold q0_ at h
 dsimp only at h
 cases x3 with
 | nil =>
  dsimp only at h
  cases x11 with
  | nil =>
   dsimp only at h
   by_cases hy1 : x12 < (((x10).l.length : Nat) : Int)
   ·rw [if_pos hy1] at h
    obtain ⟨hy2, h⟩ := gd h
    obtain ⟨hy3, h⟩ := gd h
    obtain ⟨y4_, hy4, h⟩ := oB h
    obtain rfl := oI h
    exact runC2 hm (kW [0, 1, 5, 6, 7, 8, 9, 10, 11, 12] [(0, 0, false), (2, 2, false), (3, 5, false)] 4 1) (zz 6 (xdT hy1) <|
     zz 14 (xk5 (Nat.add (x10).num 64) (x10).off (x10).cap hy2) <|
     zz 15 (nk6 hy4 hy3) <|
     ee) (by kernel_rfl)
   ·rw [if_neg hy1] at h
    obtain rfl := oI h
    exact runC2 hm ⟨[0, 1, 5, 6, 7, 8, 9, 10, 11], [(0, 0, false), (2, 2, false)], 3, 1, [], true, [], [], [11]⟩ (zz 6 (xdF hy1) <|
     ee) (by kernel_rfl)
  | cons x11a x11t =>
   dsimp only at h
   by_cases hy1 : x12 < (((x10).l.length : Nat) : Int)
   ·rw [if_pos hy1] at h
    obtain ⟨hy2, h⟩ := gd h
    obtain ⟨hy3, h⟩ := gd h
    obtain ⟨y4_, hy4, h⟩ := oB h
    obtain ⟨hy5, h⟩ := gd h
    obtain rfl := oI h
    exact runC2 hm (kW [0, 1, 5, 6, 7, 8, 9, 10, 11, 12] [(0, 0, false), (2, 2, false), (3, 5, true)] 4 1) (zz 6 (xdT hy1) <|
     zz 14 (xk5 (Nat.add (x10).num 64) (x10).off (x10).cap hy2) <|
     zz 15 (nk6 hy4 hy3) <|
     yy 19 (.app ⟨none, iv (x11a :: x11t), (iv ((x11a :: x11t) ++ [(w64 (y4_ + 0))])), (((x11a :: x11t) ++ [(w64 (y4_ + 0))])).length, false⟩) <|
     ww (p := 0 < 1) ((by decide)) <|
     ww (p := rdT (layT (iv (x11a :: x11t))) (Nat.mul ((x11a :: x11t)).length 1) 0 = some (iv (x11a :: x11t))) (iv_rd _) <|
     ww (p := fits (Nat.add ((x11a :: x11t)).length 1) 8 = true) (fits_ok hy5 (by have := hy5; show (_ : Nat) + _ ≤ _; omega)) <|
     ww (p := ql_ [(i6 (w64 (y4_ + 0)))] = true) (rfl) <|
     ww (p := ql_ (iv (x11a :: x11t)) = true) (qhm_ _) <|
     ww (p := iv (x11a :: x11t) ++ [(i6 (w64 (y4_ + 0)))] = (iv ((x11a :: x11t) ++ [(w64 (y4_ + 0))]))) (by simp [iv]) <|
     ww (p := Nat.add ((x11a :: x11t)).length 1 = (((x11a :: x11t) ++ [(w64 (y4_ + 0))])).length) (by simp) <|
     ww (qdh_ ((x11a :: x11t) ++ [(w64 (y4_ + 0))]) 3) <|
     ee) (by kernel_rfl)
   ·rw [if_neg hy1] at h
    obtain ⟨hy2, h⟩ := gdD h
    obtain rfl := oI h
    exact runC2 hm ⟨[0, 1, 5, 6, 7, 8, 9, 10, 11], [(0, 0, false), (2, 2, false)], 3, 1, [(3, Nat.add (2 * cod (x11a :: x11t) + 1) 64)], true, [], [], []⟩ (zz 6 (xdF hy1) <|
     ww (qmz_ qbx_ qd4_ (x11a :: x11t)) <|
     ee) (by kernel_rfl)
 | cons x3a x3t =>
  dsimp only at h
  cases x11 with
  | nil =>
   dsimp only at h
   by_cases hy1 : x12 < (((x10).l.length : Nat) : Int)
   ·rw [if_pos hy1] at h
    obtain ⟨hy2, h⟩ := gd h
    obtain ⟨hy3, h⟩ := gd h
    obtain ⟨y4_, hy4, h⟩ := oB h
    obtain rfl := oI h
    exact runC2 hm (kW [0, 1, 5, 6, 7, 8, 9, 10, 11, 12] [(0, 0, false), (1, 1, true), (2, 2, false), (3, 5, false)] 4 1) (zz 6 (xdT hy1) <|
     zz 14 (xk5 (Nat.add (x10).num 64) (x10).off (x10).cap hy2) <|
     zz 15 (nk6 hy4 hy3) <|
     ww (qa_ rwf_iuuuuL (x3a :: x3t) 37) <|
     ee) (by kernel_rfl)
   ·rw [if_neg hy1] at h
    obtain rfl := oI h
    exact runC2 hm ⟨[0, 1, 5, 6, 7, 8, 9, 10, 11], [(0, 0, false), (1, 1, true), (2, 2, false)], 3, 1, [], true, [], [], [11]⟩ (zz 6 (xdF hy1) <|
     ww (qa_ rwf_iuuuuL (x3a :: x3t) 37) <|
     ww (qa_ rwf_iuuuuL (x3a :: x3t) 37) <|
     ee) (by kernel_rfl)
  | cons x11a x11t =>
   dsimp only at h
   by_cases hy1 : x12 < (((x10).l.length : Nat) : Int)
   ·rw [if_pos hy1] at h
    obtain ⟨hy2, h⟩ := gd h
    obtain ⟨hy3, h⟩ := gd h
    obtain ⟨y4_, hy4, h⟩ := oB h
    obtain ⟨hy5, h⟩ := gd h
    obtain rfl := oI h
    exact runC2 hm (kW [0, 1, 5, 6, 7, 8, 9, 10, 11, 12] [(0, 0, false), (1, 1, true), (2, 2, false), (3, 5, true)] 4 1) (zz 6 (xdT hy1) <|
     zz 14 (xk5 (Nat.add (x10).num 64) (x10).off (x10).cap hy2) <|
     zz 15 (nk6 hy4 hy3) <|
     yy 19 (.app ⟨none, iv (x11a :: x11t), (iv ((x11a :: x11t) ++ [(w64 (y4_ + 0))])), (((x11a :: x11t) ++ [(w64 (y4_ + 0))])).length, false⟩) <|
     ww (p := 0 < 1) ((by decide)) <|
     ww (p := rdT (layT (iv (x11a :: x11t))) (Nat.mul ((x11a :: x11t)).length 1) 0 = some (iv (x11a :: x11t))) (iv_rd _) <|
     ww (p := fits (Nat.add ((x11a :: x11t)).length 1) 8 = true) (fits_ok hy5 (by have := hy5; show (_ : Nat) + _ ≤ _; omega)) <|
     ww (p := ql_ [(i6 (w64 (y4_ + 0)))] = true) (rfl) <|
     ww (p := ql_ (iv (x11a :: x11t)) = true) (qhm_ _) <|
     ww (p := iv (x11a :: x11t) ++ [(i6 (w64 (y4_ + 0)))] = (iv ((x11a :: x11t) ++ [(w64 (y4_ + 0))]))) (by simp [iv]) <|
     ww (p := Nat.add ((x11a :: x11t)).length 1 = (((x11a :: x11t) ++ [(w64 (y4_ + 0))])).length) (by simp) <|
     ww (qa_ rwf_iuuuuL (x3a :: x3t) 37) <|
     ww (qdh_ ((x11a :: x11t) ++ [(w64 (y4_ + 0))]) 3) <|
     ee) (by kernel_rfl)
   ·rw [if_neg hy1] at h
    obtain ⟨hy2, h⟩ := gdD h
    obtain rfl := oI h
    exact runC2 hm ⟨[0, 1, 5, 6, 7, 8, 9, 10, 11], [(0, 0, false), (1, 1, true), (2, 2, false)], 3, 1, [(3, Nat.add (2 * cod (x11a :: x11t) + 1) 64)], true, [], [], []⟩ (zz 6 (xdF hy1) <|
     ww (qa_ rwf_iuuuuL (x3a :: x3t) 37) <|
     ww (qmz_ qbx_ qd4_ (x11a :: x11t)) <|
     ww (qa_ rwf_iuuuuL (x3a :: x3t) 37) <|
     ee) (by kernel_rfl)
theorem qb0_ (n : Nat) {rnd : Option Nat} (x0 : WL rw_iuuuuL) (x1 : WL rw_iuuuuL) (x2 : Int) (x4 : Int) (x5 : Int) (x6 : Int) (x7 : Int) (x8 : Int) (x9 : Int) (x10 : NL) (st : List R6 × List Int × Int) (r : List R6 × NL) (h : qcq_ n x0 x1 x2 x4 x5 x6 x7 x8 x9 x10 st = some r) : qjm_ rnd x0 x1 x2 x4 x5 x6 x7 x8 x9 x10 st r :=
 CG.iter (b := qbi_ P 9 [false, false, true, false, true, true, false, false, true, false, false, true, false, true, false, false, true, false, false, true, false, true, true, true]) (by kernel_rfl) (body := q0_ n x0 x1 x2 x4 x5 x6 x7 x8 x9 x10) (S := qcp_ x0 x1 x2 x4 x5 x6 x7 x8 x9 x10) (X := qn_ x0 x1 x2 x4 x5 x6 x7 x8 x9 x10)
  (fun s s' h => qfv_ n x0 x1 x2 x4 x5 x6 x7 x8 x9 x10 s (.inl s') h)
  (fun s r h => qfv_ n x0 x1 x2 x4 x5 x6 x7 x8 x9 x10 s (.inr r) h)
  (fun r => by intro hx; cases hx) h
def qcr_ (x0 : WL rw_iuuuuL) (x1 : WL rw_iuuuuL) (x2 : Int) (x4 : List Int) (x5 : Int) (x6 : Int) (x7 : Int) (x8 : Int) (x9 : Int) (x10 : Int) (x11 : Int) (x12 : NL) (st : List R6 × List Int × Int) : XSt := match st with
 | (x3, x13, x14) => (sT 72 [(0, (i6 x2)), (1, (sN 0 0 2 2)), (5, (slR x3 1 6)), (6, (sN 2 0 (x4).length (Nat.add big 1))), (7, (i6 (1 : Int))), (8, (i6 x5)), (9, (i6 x6)), (10, (pN 3 0)), (11, (slN x13 4)), (12, (i6 x14))], [], ⟨sB [(0, (cB [(wlV x0), (wlV x1)] 23)), (1, (nblkR rw_iuuuuL x3 37)), (2, (cB (iv x4) 3)), (3, (cB [(i6 x7), (Value.int .u64 x8), (Value.int .u64 x9), (Value.int .u64 x10), (Value.int .u64 x11), (nlV x12)] 37)), (4, (nblk x13 3))], 5, 1⟩)
def qo_ (x0 : WL rw_iuuuuL) (x1 : WL rw_iuuuuL) (x2 : Int) (x4 : List Int) (x5 : Int) (x6 : Int) (x7 : Int) (x8 : Int) (x9 : Int) (x10 : Int) (x11 : Int) (x12 : NL) (r : List R6 × NL) : Ex × XSt := match r with
 | (z0, z1) => (.exit 4, (sT 72 [(0, (i6 x2)), (1, (sN 0 0 2 2)), (5, (slR z0 1 6)), (6, (sN 2 0 (x4).length (Nat.add big 1))), (7, (i6 (1 : Int))), (8, (i6 x5)), (9, (i6 x6)), (10, (pN 3 0)), (11, (nlV z1))], [], ⟨sB [(0, (cB [(wlV x0), (wlV x1)] 23)), (1, (nblkR rw_iuuuuL z0 37)), (2, (cB (iv x4) 3)), (3, (cB [(i6 x7), (Value.int .u64 x8), (Value.int .u64 x9), (Value.int .u64 x10), (Value.int .u64 x11), (nlV x12)] 37))], 4, 1⟩))
abbrev qjn_ (rnd : Option Nat) (x0 : WL rw_iuuuuL) (x1 : WL rw_iuuuuL) (x2 : Int) (x4 : List Int) (x5 : Int) (x6 : Int) (x7 : Int) (x8 : Int) (x9 : Int) (x10 : Int) (x11 : Int) (x12 : NL) (st : List R6 × List Int × Int) (c : Ex × XSt) : Prop := CG P rnd (fnN P 9) 1 (qbi_ P 9 [false, false, true, false, true, true, false, false, true, false, false, true, false, true, false, false, true, false, false, true, false, true, true, true]) (qcr_ x0 x1 x2 x4 x5 x6 x7 x8 x9 x10 x11 x12 st) c
abbrev qjo_ (rd : Option Nat) (x0 : WL rw_iuuuuL) (x1 : WL rw_iuuuuL) (x2 : Int) (x4 : List Int) (x5 : Int) (x6 : Int) (x7 : Int) (x8 : Int) (x9 : Int) (x10 : Int) (x11 : Int) (x12 : NL) (st : List R6 × List Int × Int) (r : List R6 × NL) : Prop := CG P rd (fnN P 9) 1 (qbi_ P 9 [false, true, false, true, true, false, false, true, false, false, true, false, true, false, false, true, false, false, true, false, true, true, true]) (qcr_ x0 x1 x2 x4 x5 x6 x7 x8 x9 x10 x11 x12 st) (qo_ x0 x1 x2 x4 x5 x6 x7 x8 x9 x10 x11 x12 r)
def q1_ (n : Nat) (x0 : WL rw_iuuuuL) (x1 : WL rw_iuuuuL) (x2 : Int) (x4 : List Int) (x5 : Int) (x6 : Int) (x7 : Int) (x8 : Int) (x9 : Int) (x10 : Int) (x11 : Int) (x12 : NL) (st : List R6 × List Int × Int) : Option ((List R6 × List Int × Int) ⊕ (List R6 × NL)) := match st with
 | (x3, x13, x14) =>
  match x3 with
  | [] =>
   match x13 with
   | [] =>
    if x14 < (((x12).l.length : Nat) : Int) then
     if 0 ≤ x14 ∧ x14 < (((x12).l.length : Nat) : Int) then
      if (x14).toNat < ((x12).l).length then
       ((some (((x12).l).getD (x14).toNat 0))).bind fun y4_ =>
       some (.inl (([] : List R6), [(w64 (y4_ + x5))], (w64 (x14 + 1))))
      else none
     else none
    else
     some (.inr (([] : List R6), nl0))
   | x13a :: x13t =>
    if x14 < (((x12).l.length : Nat) : Int) then
     if 0 ≤ x14 ∧ x14 < (((x12).l.length : Nat) : Int) then
      if (x14).toNat < ((x12).l).length then
       ((some (((x12).l).getD (x14).toNat 0))).bind fun y4_ =>
       if (((x13a :: x13t)).length + 1) * 8 ≤ 140737488355328 then
        some (.inl (([] : List R6), ((x13a :: x13t) ++ [(w64 (y4_ + x5))]), (w64 (x14 + 1))))
       else none
      else none
     else none
    else
     if hy2 : (x13a :: x13t).length ≤ 140737488355328 then
      some (.inr (([] : List R6), (frzL (x13a :: x13t) hy2)))
     else none
  | x3a :: x3t =>
   match x13 with
   | [] =>
    if x14 < (((x12).l.length : Nat) : Int) then
     if 0 ≤ x14 ∧ x14 < (((x12).l.length : Nat) : Int) then
      if (x14).toNat < ((x12).l).length then
       ((some (((x12).l).getD (x14).toNat 0))).bind fun y4_ =>
       some (.inl ((x3a :: x3t), [(w64 (y4_ + x5))], (w64 (x14 + 1))))
      else none
     else none
    else
     some (.inr ((x3a :: x3t), nl0))
   | x13a :: x13t =>
    if x14 < (((x12).l.length : Nat) : Int) then
     if 0 ≤ x14 ∧ x14 < (((x12).l.length : Nat) : Int) then
      if (x14).toNat < ((x12).l).length then
       ((some (((x12).l).getD (x14).toNat 0))).bind fun y4_ =>
       if (((x13a :: x13t)).length + 1) * 8 ≤ 140737488355328 then
        some (.inl ((x3a :: x3t), ((x13a :: x13t) ++ [(w64 (y4_ + x5))]), (w64 (x14 + 1))))
       else none
      else none
     else none
    else
     if hy2 : (x13a :: x13t).length ≤ 140737488355328 then
      some (.inr ((x3a :: x3t), (frzL (x13a :: x13t) hy2)))
     else none
def qcs_ (n : Nat) (x0 : WL rw_iuuuuL) (x1 : WL rw_iuuuuL) (x2 : Int) (x4 : List Int) (x5 : Int) (x6 : Int) (x7 : Int) (x8 : Int) (x9 : Int) (x10 : Int) (x11 : Int) (x12 : NL) (st : List R6 × List Int × Int) : Option (List R6 × NL) := iterM (q1_ n x0 x1 x2 x4 x5 x6 x7 x8 x9 x10 x11 x12) n st
theorem qfw_ (n : Nat) {rnd : Option Nat} (x0 : WL rw_iuuuuL) (x1 : WL rw_iuuuuL) (x2 : Int) (x4 : List Int) (x5 : Int) (x6 : Int) (x7 : Int) (x8 : Int) (x9 : Int) (x10 : Int) (x11 : Int) (x12 : NL) (st : List R6 × List Int × Int) (o : (List R6 × List Int × Int) ⊕ (List R6 × NL)) (h : q1_ n x0 x1 x2 x4 x5 x6 x7 x8 x9 x10 x11 x12 st = some o) : qjn_ rnd x0 x1 x2 x4 x5 x6 x7 x8 x9 x10 x11 x12 st (Sum.elim (fun s => (.normal, qcr_ x0 x1 x2 x4 x5 x6 x7 x8 x9 x10 x11 x12 s)) (fun r => qo_ x0 x1 x2 x4 x5 x6 x7 x8 x9 x10 x11 x12 r) o) := by
 obtain ⟨x3, x13, x14⟩ := st
 unfold q1_ at h
 dsimp only at h
 cases x3 with
 | nil =>
  dsimp only at h
  cases x13 with
  | nil =>
   dsimp only at h
   by_cases hy1 : x14 < (((x12).l.length : Nat) : Int)
   ·rw [if_pos hy1] at h
    obtain ⟨hy2, h⟩ := gd h
    obtain ⟨hy3, h⟩ := gd h
    obtain ⟨y4_, hy4, h⟩ := oB h
    obtain rfl := oI h
    exact runC2 hm (kW [0, 1, 5, 6, 7, 8, 9, 10, 11, 12] [(0, 0, false), (2, 2, true), (3, 3, false), (4, 6, false)] 5 1) (zz 6 (xdT hy1) <|
     zz 14 (xk5 (Nat.add (x12).num 64) (x12).off (x12).cap hy2) <|
     zz 15 (nk6 hy4 hy3) <|
     ww (qdh_ x4 3) <|
     ee) (by kernel_rfl)
   ·rw [if_neg hy1] at h
    obtain rfl := oI h
    exact runC2 hm ⟨[0, 1, 5, 6, 7, 8, 9, 10, 11], [(0, 0, false), (2, 2, true), (3, 3, false)], 4, 1, [], true, [], [], [11]⟩ (zz 6 (xdF hy1) <|
     ww (qdh_ x4 3) <|
     ww (qdh_ x4 3) <|
     ee) (by kernel_rfl)
  | cons x13a x13t =>
   dsimp only at h
   by_cases hy1 : x14 < (((x12).l.length : Nat) : Int)
   ·rw [if_pos hy1] at h
    obtain ⟨hy2, h⟩ := gd h
    obtain ⟨hy3, h⟩ := gd h
    obtain ⟨y4_, hy4, h⟩ := oB h
    obtain ⟨hy5, h⟩ := gd h
    obtain rfl := oI h
    exact runC2 hm (kW [0, 1, 5, 6, 7, 8, 9, 10, 11, 12] [(0, 0, false), (2, 2, true), (3, 3, false), (4, 6, true)] 5 1) (zz 6 (xdT hy1) <|
     zz 14 (xk5 (Nat.add (x12).num 64) (x12).off (x12).cap hy2) <|
     zz 15 (nk6 hy4 hy3) <|
     yy 19 (.app ⟨none, iv (x13a :: x13t), (iv ((x13a :: x13t) ++ [(w64 (y4_ + x5))])), (((x13a :: x13t) ++ [(w64 (y4_ + x5))])).length, false⟩) <|
     ww (p := 0 < 1) ((by decide)) <|
     ww (p := rdT (layT (iv (x13a :: x13t))) (Nat.mul ((x13a :: x13t)).length 1) 0 = some (iv (x13a :: x13t))) (iv_rd _) <|
     ww (p := fits (Nat.add ((x13a :: x13t)).length 1) 8 = true) (fits_ok hy5 (by have := hy5; show (_ : Nat) + _ ≤ _; omega)) <|
     ww (p := ql_ [(i6 (w64 (y4_ + x5)))] = true) (rfl) <|
     ww (p := ql_ (iv (x13a :: x13t)) = true) (qhm_ _) <|
     ww (p := iv (x13a :: x13t) ++ [(i6 (w64 (y4_ + x5)))] = (iv ((x13a :: x13t) ++ [(w64 (y4_ + x5))]))) (by simp [iv]) <|
     ww (p := Nat.add ((x13a :: x13t)).length 1 = (((x13a :: x13t) ++ [(w64 (y4_ + x5))])).length) (by simp) <|
     ww (qdh_ x4 3) <|
     ww (qdh_ ((x13a :: x13t) ++ [(w64 (y4_ + x5))]) 3) <|
     ee) (by kernel_rfl)
   ·rw [if_neg hy1] at h
    obtain ⟨hy2, h⟩ := gdD h
    obtain rfl := oI h
    exact runC2 hm ⟨[0, 1, 5, 6, 7, 8, 9, 10, 11], [(0, 0, false), (2, 2, true), (3, 3, false)], 4, 1, [(4, Nat.add (2 * cod (x13a :: x13t) + 1) 64)], true, [], [], []⟩ (zz 6 (xdF hy1) <|
     ww (qdh_ x4 3) <|
     ww (qmz_ qbx_ qd4_ (x13a :: x13t)) <|
     ww (qdh_ x4 3) <|
     ee) (by kernel_rfl)
 | cons x3a x3t =>
  dsimp only at h
  cases x13 with
  | nil =>
   dsimp only at h
   by_cases hy1 : x14 < (((x12).l.length : Nat) : Int)
   ·rw [if_pos hy1] at h
    obtain ⟨hy2, h⟩ := gd h
    obtain ⟨hy3, h⟩ := gd h
    obtain ⟨y4_, hy4, h⟩ := oB h
    obtain rfl := oI h
    exact runC2 hm (kW [0, 1, 5, 6, 7, 8, 9, 10, 11, 12] [(0, 0, false), (1, 1, true), (2, 2, true), (3, 3, false), (4, 6, false)] 5 1) (zz 6 (xdT hy1) <|
     zz 14 (xk5 (Nat.add (x12).num 64) (x12).off (x12).cap hy2) <|
     zz 15 (nk6 hy4 hy3) <|
     ww (qa_ rwf_iuuuuL (x3a :: x3t) 37) <|
     ww (qdh_ x4 3) <|
     ee) (by kernel_rfl)
   ·rw [if_neg hy1] at h
    obtain rfl := oI h
    exact runC2 hm ⟨[0, 1, 5, 6, 7, 8, 9, 10, 11], [(0, 0, false), (1, 1, true), (2, 2, true), (3, 3, false)], 4, 1, [], true, [], [], [11]⟩ (zz 6 (xdF hy1) <|
     ww (qa_ rwf_iuuuuL (x3a :: x3t) 37) <|
     ww (qdh_ x4 3) <|
     ww (qa_ rwf_iuuuuL (x3a :: x3t) 37) <|
     ww (qdh_ x4 3) <|
     ee) (by kernel_rfl)
  | cons x13a x13t =>
   dsimp only at h
   by_cases hy1 : x14 < (((x12).l.length : Nat) : Int)
   ·rw [if_pos hy1] at h
    obtain ⟨hy2, h⟩ := gd h
    obtain ⟨hy3, h⟩ := gd h
    obtain ⟨y4_, hy4, h⟩ := oB h
    obtain ⟨hy5, h⟩ := gd h
    obtain rfl := oI h
    exact runC2 hm (kW [0, 1, 5, 6, 7, 8, 9, 10, 11, 12] [(0, 0, false), (1, 1, true), (2, 2, true), (3, 3, false), (4, 6, true)] 5 1) (zz 6 (xdT hy1) <|
     zz 14 (xk5 (Nat.add (x12).num 64) (x12).off (x12).cap hy2) <|
     zz 15 (nk6 hy4 hy3) <|
     yy 19 (.app ⟨none, iv (x13a :: x13t), (iv ((x13a :: x13t) ++ [(w64 (y4_ + x5))])), (((x13a :: x13t) ++ [(w64 (y4_ + x5))])).length, false⟩) <|
     ww (p := 0 < 1) ((by decide)) <|
     ww (p := rdT (layT (iv (x13a :: x13t))) (Nat.mul ((x13a :: x13t)).length 1) 0 = some (iv (x13a :: x13t))) (iv_rd _) <|
     ww (p := fits (Nat.add ((x13a :: x13t)).length 1) 8 = true) (fits_ok hy5 (by have := hy5; show (_ : Nat) + _ ≤ _; omega)) <|
     ww (p := ql_ [(i6 (w64 (y4_ + x5)))] = true) (rfl) <|
     ww (p := ql_ (iv (x13a :: x13t)) = true) (qhm_ _) <|
     ww (p := iv (x13a :: x13t) ++ [(i6 (w64 (y4_ + x5)))] = (iv ((x13a :: x13t) ++ [(w64 (y4_ + x5))]))) (by simp [iv]) <|
     ww (p := Nat.add ((x13a :: x13t)).length 1 = (((x13a :: x13t) ++ [(w64 (y4_ + x5))])).length) (by simp) <|
     ww (qa_ rwf_iuuuuL (x3a :: x3t) 37) <|
     ww (qdh_ x4 3) <|
     ww (qdh_ ((x13a :: x13t) ++ [(w64 (y4_ + x5))]) 3) <|
     ee) (by kernel_rfl)
   ·rw [if_neg hy1] at h
    obtain ⟨hy2, h⟩ := gdD h
    obtain rfl := oI h
    exact runC2 hm ⟨[0, 1, 5, 6, 7, 8, 9, 10, 11], [(0, 0, false), (1, 1, true), (2, 2, true), (3, 3, false)], 4, 1, [(4, Nat.add (2 * cod (x13a :: x13t) + 1) 64)], true, [], [], []⟩ (zz 6 (xdF hy1) <|
     ww (qa_ rwf_iuuuuL (x3a :: x3t) 37) <|
     ww (qdh_ x4 3) <|
     ww (qmz_ qbx_ qd4_ (x13a :: x13t)) <|
     ww (qa_ rwf_iuuuuL (x3a :: x3t) 37) <|
     ww (qdh_ x4 3) <|
     ee) (by kernel_rfl)
theorem qb1_ (n : Nat) {rnd : Option Nat} (x0 : WL rw_iuuuuL) (x1 : WL rw_iuuuuL) (x2 : Int) (x4 : List Int) (x5 : Int) (x6 : Int) (x7 : Int) (x8 : Int) (x9 : Int) (x10 : Int) (x11 : Int) (x12 : NL) (st : List R6 × List Int × Int) (r : List R6 × NL) (h : qcs_ n x0 x1 x2 x4 x5 x6 x7 x8 x9 x10 x11 x12 st = some r) : qjo_ rnd x0 x1 x2 x4 x5 x6 x7 x8 x9 x10 x11 x12 st r :=
 CG.iter (b := qbi_ P 9 [false, false, true, false, true, true, false, false, true, false, false, true, false, true, false, false, true, false, false, true, false, true, true, true]) (by kernel_rfl) (body := q1_ n x0 x1 x2 x4 x5 x6 x7 x8 x9 x10 x11 x12) (S := qcr_ x0 x1 x2 x4 x5 x6 x7 x8 x9 x10 x11 x12) (X := qo_ x0 x1 x2 x4 x5 x6 x7 x8 x9 x10 x11 x12)
  (fun s s' h => qfw_ n x0 x1 x2 x4 x5 x6 x7 x8 x9 x10 x11 x12 s (.inl s') h)
  (fun s r h => qfw_ n x0 x1 x2 x4 x5 x6 x7 x8 x9 x10 x11 x12 s (.inr r) h)
  (fun r => by intro hx; cases hx) h
def qct_ (x0 : WL rw_iuuuuL) (x1 : WL rw_iuuuuL) (x2 : Int) (st : List R6 × Int) : XSt := match st with
 | (x3, x4) => (sT 72 [(0, (i6 x2)), (1, (sN 0 0 2 2)), (5, (slR x3 1 6)), (6, (Value.slice none 0 0)), (7, (i6 (0 : Int))), (8, (i6 (0 : Int))), (9, (i6 x4))], [], ⟨sB [(0, (cB [(wlV x0), (wlV x1)] 23)), (1, (nblkR rw_iuuuuL x3 37))], 2, 1⟩)
def qba_ (x0 : WL rw_iuuuuL) (x1 : WL rw_iuuuuL) (x2 : Int) (r : List R6) : Ex × XSt := match r with
 | z0 => (.exit 2, (sT 72 [(0, (i6 x2)), (1, (sN 0 0 2 2)), (5, (slR z0 1 6)), (6, (Value.slice none 0 0)), (7, (i6 (0 : Int)))], [], ⟨sB [(0, (cB [(wlV x0), (wlV x1)] 23)), (1, (nblkR rw_iuuuuL z0 37))], 2, 1⟩))
abbrev qjp_ (rnd : Option Nat) (x0 : WL rw_iuuuuL) (x1 : WL rw_iuuuuL) (x2 : Int) (st : List R6 × Int) (c : Ex × XSt) : Prop := CG P rnd (fnN P 9) 1 (qbi_ P 9 [false, false, true, false, true, false, false, true, false, false, true, false, true, true, true]) (qct_ x0 x1 x2 st) c
abbrev qjq_ (rd : Option Nat) (x0 : WL rw_iuuuuL) (x1 : WL rw_iuuuuL) (x2 : Int) (st : List R6 × Int) (r : List R6) : Prop := CG P rd (fnN P 9) 1 (qbi_ P 9 [false, true, false, true, false, false, true, false, false, true, false, true, true, true]) (qct_ x0 x1 x2 st) (qba_ x0 x1 x2 r)
def qbb_ (n : Nat) (x0 : WL rw_iuuuuL) (x1 : WL rw_iuuuuL) (x2 : Int) (st : List R6 × Int) : Option ((List R6 × Int) ⊕ (List R6)) := match st with
 | (x3, x4) =>
  match x3 with
  | [] =>
   if x4 < (((x0).l.length : Nat) : Int) then
    if 0 ≤ x4 ∧ x4 < (((x0).l.length : Nat) : Int) then
     ((some (((x0).l).getD (x4).toNat (0, 0, 0, 0, 0, nl0)))).bind fun y3_ =>
     (qcq_ n x0 x1 x2 x4 (y3_.1) (y3_.2.1) (y3_.2.2.1) (y3_.2.2.2.1) (y3_.2.2.2.2.1) (y3_.2.2.2.2.2) (([] : List R6), ([] : List Int), 0)).bind fun t => match t with
     | (y4_0, y4_1) =>
      match y4_0 with
      | [] =>
       some (.inl ([((y3_.1), (y3_.2.1), (y3_.2.2.1), (y3_.2.2.2.1), (y3_.2.2.2.2.1), y4_1)], (w64 (x4 + 1))))
      | y4_0a :: y4_0t =>
       if (((y4_0a :: y4_0t)).length + 1) * 64 ≤ 140737488355328 then
        some (.inl (((y4_0a :: y4_0t) ++ [((y3_.1), (y3_.2.1), (y3_.2.2.1), (y3_.2.2.2.1), (y3_.2.2.2.2.1), y4_1)]), (w64 (x4 + 1))))
       else none
    else none
   else
    some (.inr ([] : List R6))
  | x3a :: x3t =>
   if x4 < (((x0).l.length : Nat) : Int) then
    if 0 ≤ x4 ∧ x4 < (((x0).l.length : Nat) : Int) then
     ((some (((x0).l).getD (x4).toNat (0, 0, 0, 0, 0, nl0)))).bind fun y3_ =>
     (qcq_ n x0 x1 x2 x4 (y3_.1) (y3_.2.1) (y3_.2.2.1) (y3_.2.2.2.1) (y3_.2.2.2.2.1) (y3_.2.2.2.2.2) ((x3a :: x3t), ([] : List Int), 0)).bind fun t => match t with
     | (y4_0, y4_1) =>
      match y4_0 with
      | [] =>
       some (.inl ([((y3_.1), (y3_.2.1), (y3_.2.2.1), (y3_.2.2.2.1), (y3_.2.2.2.2.1), y4_1)], (w64 (x4 + 1))))
      | y4_0a :: y4_0t =>
       if (((y4_0a :: y4_0t)).length + 1) * 64 ≤ 140737488355328 then
        some (.inl (((y4_0a :: y4_0t) ++ [((y3_.1), (y3_.2.1), (y3_.2.2.1), (y3_.2.2.2.1), (y3_.2.2.2.2.1), y4_1)]), (w64 (x4 + 1))))
       else none
    else none
   else
    some (.inr (x3a :: x3t))
def qds_ (n : Nat) (x0 : WL rw_iuuuuL) (x1 : WL rw_iuuuuL) (x2 : Int) (st : List R6 × Int) : Option (List R6) := iterM (qbb_ n x0 x1 x2) n st
theorem qfx_ (n : Nat) {rnd : Option Nat} (x0 : WL rw_iuuuuL) (x1 : WL rw_iuuuuL) (x2 : Int) (st : List R6 × Int) (o : (List R6 × Int) ⊕ (List R6)) (h : qbb_ n x0 x1 x2 st = some o) : qjp_ rnd x0 x1 x2 st (Sum.elim (fun s => (.normal, qct_ x0 x1 x2 s)) (fun r => qba_ x0 x1 x2 r) o) := by
 obtain ⟨x3, x4⟩ := st
 unfold qbb_ at h
 dsimp only at h
 cases x3 with
 | nil =>
  dsimp only at h
  by_cases hy1 : x4 < (((x0).l.length : Nat) : Int)
  ·rw [if_pos hy1] at h
   obtain ⟨hy2, h⟩ := gd h
   obtain ⟨y3_, hy3, h⟩ := oB h
   obtain ⟨⟨y4_0, y4_1⟩, hy4, h⟩ := oB h
   dsimp only at h
   have k0 := fun {A L l} (k : PL A L l) => zz 8 (xdT hy1) <|
    zz 18 (xk1 (x0).num (x0).off (x0).cap hy2) <|
    zz 19 (lk4 hy3 (qkg_ hy2)) <|
    k
   cases y4_0 with
   | nil =>
    dsimp only at h
    obtain rfl := oI h
    exact runC2 hm (kW [0, 1, 5, 6, 7, 8, 9] [(0, 0, false), (1, 4, false)] 2 1) (k0 <|
     ww (qb0_ n (rnd := rnd) x0 x1 x2 x4 (y3_.1) (y3_.2.1) (y3_.2.2.1) (y3_.2.2.2.1) (y3_.2.2.2.2.1) (y3_.2.2.2.2.2) (([] : List R6), ([] : List Int), 0) (([] : List R6), y4_1) hy4) <|
     ll 28 ⟨(kW [0, 1, 5, 6, 7, 8, 9, 10, 11, 12] [(0, 0, false), (2, 2, false)] 4 1), (qn_ x0 x1 x2 x4 (y3_.1) (y3_.2.1) (y3_.2.2.1) (y3_.2.2.2.1) (y3_.2.2.2.2.1) (y3_.2.2.2.2.2) (([] : List R6), y4_1)).1, (qn_ x0 x1 x2 x4 (y3_.1) (y3_.2.1) (y3_.2.2.1) (y3_.2.2.2.1) (y3_.2.2.2.2.1) (y3_.2.2.2.2.2) (([] : List R6), y4_1)).2⟩ <|
     ee) (by kernel_rfl)
   | cons y4_0a y4_0t =>
    dsimp only at h
    obtain ⟨hy5, h⟩ := gd h
    obtain rfl := oI h
    exact runC2 hm (kW [0, 1, 5, 6, 7, 8, 9] [(0, 0, false), (1, 4, true)] 2 1) (k0 <|
     ww (qb0_ n (rnd := rnd) x0 x1 x2 x4 (y3_.1) (y3_.2.1) (y3_.2.2.1) (y3_.2.2.2.1) (y3_.2.2.2.2.1) (y3_.2.2.2.2.2) (([] : List R6), ([] : List Int), 0) ((y4_0a :: y4_0t), y4_1) hy4) <|
     ll 28 ⟨(kW [0, 1, 5, 6, 7, 8, 9, 10, 11, 12] [(0, 0, false), (2, 2, false)] 4 1), (qn_ x0 x1 x2 x4 (y3_.1) (y3_.2.1) (y3_.2.2.1) (y3_.2.2.2.1) (y3_.2.2.2.2.1) (y3_.2.2.2.2.2) ((y4_0a :: y4_0t), y4_1)).1, (qn_ x0 x1 x2 x4 (y3_.1) (y3_.2.1) (y3_.2.2.1) (y3_.2.2.2.1) (y3_.2.2.2.2.1) (y3_.2.2.2.2.2) ((y4_0a :: y4_0t), y4_1)).2⟩ <|
     yy 36 (.app ⟨none, rows rw_iuuuuL (y4_0a :: y4_0t), (rows rw_iuuuuL ((y4_0a :: y4_0t) ++ [((y3_.1), (y3_.2.1), (y3_.2.2.1), (y3_.2.2.2.1), (y3_.2.2.2.2.1), y4_1)])), (((y4_0a :: y4_0t) ++ [((y3_.1), (y3_.2.1), (y3_.2.2.1), (y3_.2.2.2.1), (y3_.2.2.2.2.1), y4_1)])).length, false⟩) <|
     ww (p := 0 < 1) ((by decide)) <|
     ww (p := rdT (layT (rows rw_iuuuuL (y4_0a :: y4_0t))) (Nat.mul ((y4_0a :: y4_0t)).length 6) 0 = some (rows rw_iuuuuL (y4_0a :: y4_0t))) (qly_ rwf_iuuuuL _ _ rfl) <|
     ww (p := fits (Nat.add ((y4_0a :: y4_0t)).length 1) 64 = true) (fits_ok hy5 (by have := hy5; show (_ : Nat) + _ ≤ _; omega)) <|
     ww (p := ql_ [(i6 (y3_.1)), (Value.int .u64 (y3_.2.1)), (Value.int .u64 (y3_.2.2.1)), (Value.int .u64 (y3_.2.2.2.1)), (Value.int .u64 (y3_.2.2.2.2.1)), (nlV y4_1)] = true) (rfl) <|
     ww (p := ql_ (rows rw_iuuuuL (y4_0a :: y4_0t)) = true) (qel_ rwf_iuuuuL _) <|
     ww (p := rows rw_iuuuuL (y4_0a :: y4_0t) ++ [(i6 (y3_.1)), (Value.int .u64 (y3_.2.1)), (Value.int .u64 (y3_.2.2.1)), (Value.int .u64 (y3_.2.2.2.1)), (Value.int .u64 (y3_.2.2.2.2.1)), (nlV y4_1)] = (rows rw_iuuuuL ((y4_0a :: y4_0t) ++ [((y3_.1), (y3_.2.1), (y3_.2.2.1), (y3_.2.2.2.1), (y3_.2.2.2.2.1), y4_1)]))) (qiq_ rw_iuuuuL (y4_0a :: y4_0t) [((y3_.1), (y3_.2.1), (y3_.2.2.1), (y3_.2.2.2.1), (y3_.2.2.2.2.1), y4_1)]) <|
     ww (p := Nat.add ((y4_0a :: y4_0t)).length 1 = (((y4_0a :: y4_0t) ++ [((y3_.1), (y3_.2.1), (y3_.2.2.1), (y3_.2.2.2.1), (y3_.2.2.2.2.1), y4_1)])).length) (by simp) <|
     ww (qa_ rwf_iuuuuL ((y4_0a :: y4_0t) ++ [((y3_.1), (y3_.2.1), (y3_.2.2.1), (y3_.2.2.2.1), (y3_.2.2.2.2.1), y4_1)]) 37) <|
     ee) (by kernel_rfl)
  ·rw [if_neg hy1] at h
   obtain rfl := oI h
   exact runC2 hm (kW [0, 1, 5, 6, 7] [(0, 0, false)] 2 1) (zz 8 (xdF hy1) <|
    ee) (by kernel_rfl)
 | cons x3a x3t =>
  dsimp only at h
  by_cases hy1 : x4 < (((x0).l.length : Nat) : Int)
  ·rw [if_pos hy1] at h
   obtain ⟨hy2, h⟩ := gd h
   obtain ⟨y3_, hy3, h⟩ := oB h
   obtain ⟨⟨y4_0, y4_1⟩, hy4, h⟩ := oB h
   dsimp only at h
   have k0 := fun {A L l} (k : PL A L l) => zz 8 (xdT hy1) <|
    zz 18 (xk1 (x0).num (x0).off (x0).cap hy2) <|
    zz 19 (lk4 hy3 (qkg_ hy2)) <|
    k
   cases y4_0 with
   | nil =>
    dsimp only at h
    obtain rfl := oI h
    exact runC2 hm (kW [0, 1, 5, 6, 7, 8, 9] [(0, 0, false), (1, 4, false)] 2 1) (k0 <|
     ww (qb0_ n (rnd := rnd) x0 x1 x2 x4 (y3_.1) (y3_.2.1) (y3_.2.2.1) (y3_.2.2.2.1) (y3_.2.2.2.2.1) (y3_.2.2.2.2.2) ((x3a :: x3t), ([] : List Int), 0) (([] : List R6), y4_1) hy4) <|
     ww (qa_ rwf_iuuuuL (x3a :: x3t) 37) <|
     ll 28 ⟨(kW [0, 1, 5, 6, 7, 8, 9, 10, 11, 12] [(0, 0, false), (1, 1, true), (2, 2, false)] 4 1), (qn_ x0 x1 x2 x4 (y3_.1) (y3_.2.1) (y3_.2.2.1) (y3_.2.2.2.1) (y3_.2.2.2.2.1) (y3_.2.2.2.2.2) (([] : List R6), y4_1)).1, (qn_ x0 x1 x2 x4 (y3_.1) (y3_.2.1) (y3_.2.2.1) (y3_.2.2.2.1) (y3_.2.2.2.2.1) (y3_.2.2.2.2.2) (([] : List R6), y4_1)).2⟩ <|
     ee) (by kernel_rfl)
   | cons y4_0a y4_0t =>
    dsimp only at h
    obtain ⟨hy5, h⟩ := gd h
    obtain rfl := oI h
    exact runC2 hm (kW [0, 1, 5, 6, 7, 8, 9] [(0, 0, false), (1, 4, true)] 2 1) (k0 <|
     ww (qb0_ n (rnd := rnd) x0 x1 x2 x4 (y3_.1) (y3_.2.1) (y3_.2.2.1) (y3_.2.2.2.1) (y3_.2.2.2.2.1) (y3_.2.2.2.2.2) ((x3a :: x3t), ([] : List Int), 0) ((y4_0a :: y4_0t), y4_1) hy4) <|
     ww (qa_ rwf_iuuuuL (x3a :: x3t) 37) <|
     ll 28 ⟨(kW [0, 1, 5, 6, 7, 8, 9, 10, 11, 12] [(0, 0, false), (1, 1, true), (2, 2, false)] 4 1), (qn_ x0 x1 x2 x4 (y3_.1) (y3_.2.1) (y3_.2.2.1) (y3_.2.2.2.1) (y3_.2.2.2.2.1) (y3_.2.2.2.2.2) ((y4_0a :: y4_0t), y4_1)).1, (qn_ x0 x1 x2 x4 (y3_.1) (y3_.2.1) (y3_.2.2.1) (y3_.2.2.2.1) (y3_.2.2.2.2.1) (y3_.2.2.2.2.2) ((y4_0a :: y4_0t), y4_1)).2⟩ <|
     yy 36 (.app ⟨none, rows rw_iuuuuL (y4_0a :: y4_0t), (rows rw_iuuuuL ((y4_0a :: y4_0t) ++ [((y3_.1), (y3_.2.1), (y3_.2.2.1), (y3_.2.2.2.1), (y3_.2.2.2.2.1), y4_1)])), (((y4_0a :: y4_0t) ++ [((y3_.1), (y3_.2.1), (y3_.2.2.1), (y3_.2.2.2.1), (y3_.2.2.2.2.1), y4_1)])).length, false⟩) <|
     ww (p := 0 < 1) ((by decide)) <|
     ww (p := rdT (layT (rows rw_iuuuuL (y4_0a :: y4_0t))) (Nat.mul ((y4_0a :: y4_0t)).length 6) 0 = some (rows rw_iuuuuL (y4_0a :: y4_0t))) (qly_ rwf_iuuuuL _ _ rfl) <|
     ww (p := fits (Nat.add ((y4_0a :: y4_0t)).length 1) 64 = true) (fits_ok hy5 (by have := hy5; show (_ : Nat) + _ ≤ _; omega)) <|
     ww (p := ql_ [(i6 (y3_.1)), (Value.int .u64 (y3_.2.1)), (Value.int .u64 (y3_.2.2.1)), (Value.int .u64 (y3_.2.2.2.1)), (Value.int .u64 (y3_.2.2.2.2.1)), (nlV y4_1)] = true) (rfl) <|
     ww (p := ql_ (rows rw_iuuuuL (y4_0a :: y4_0t)) = true) (qel_ rwf_iuuuuL _) <|
     ww (p := rows rw_iuuuuL (y4_0a :: y4_0t) ++ [(i6 (y3_.1)), (Value.int .u64 (y3_.2.1)), (Value.int .u64 (y3_.2.2.1)), (Value.int .u64 (y3_.2.2.2.1)), (Value.int .u64 (y3_.2.2.2.2.1)), (nlV y4_1)] = (rows rw_iuuuuL ((y4_0a :: y4_0t) ++ [((y3_.1), (y3_.2.1), (y3_.2.2.1), (y3_.2.2.2.1), (y3_.2.2.2.2.1), y4_1)]))) (qiq_ rw_iuuuuL (y4_0a :: y4_0t) [((y3_.1), (y3_.2.1), (y3_.2.2.1), (y3_.2.2.2.1), (y3_.2.2.2.2.1), y4_1)]) <|
     ww (p := Nat.add ((y4_0a :: y4_0t)).length 1 = (((y4_0a :: y4_0t) ++ [((y3_.1), (y3_.2.1), (y3_.2.2.1), (y3_.2.2.2.1), (y3_.2.2.2.2.1), y4_1)])).length) (by simp) <|
     ww (qa_ rwf_iuuuuL ((y4_0a :: y4_0t) ++ [((y3_.1), (y3_.2.1), (y3_.2.2.1), (y3_.2.2.2.1), (y3_.2.2.2.2.1), y4_1)]) 37) <|
     ee) (by kernel_rfl)
  ·rw [if_neg hy1] at h
   obtain rfl := oI h
   exact runC2 hm (kW [0, 1, 5, 6, 7] [(0, 0, false), (1, 1, true)] 2 1) (zz 8 (xdF hy1) <|
    ww (qa_ rwf_iuuuuL (x3a :: x3t) 37) <|
    ee) (by kernel_rfl)
theorem qev_ (n : Nat) {rnd : Option Nat} (x0 : WL rw_iuuuuL) (x1 : WL rw_iuuuuL) (x2 : Int) (st : List R6 × Int) (r : List R6) (h : qds_ n x0 x1 x2 st = some r) : qjq_ rnd x0 x1 x2 st r :=
 CG.iter (b := qbi_ P 9 [false, false, true, false, true, false, false, true, false, false, true, false, true, true, true]) (by kernel_rfl) (body := qbb_ n x0 x1 x2) (S := qct_ x0 x1 x2) (X := qba_ x0 x1 x2)
  (fun s s' h => qfx_ n x0 x1 x2 s (.inl s') h)
  (fun s r h => qfx_ n x0 x1 x2 s (.inr r) h)
  (fun r => by intro hx; cases hx) h
def qcu_ (x0 : WL rw_iuuuuL) (x1 : WL rw_iuuuuL) (x2 : Int) (x4 : List Int) (x5 : Int) (st : List R6 × Int) : XSt := match st with
 | (x3, x6) => (sT 72 [(0, (i6 x2)), (1, (sN 0 0 2 2)), (5, (slR x3 1 6)), (6, (sN 2 0 (x4).length (Nat.add big 1))), (7, (i6 (1 : Int))), (8, (i6 x5)), (9, (i6 x6))], [], ⟨sB [(0, (cB [(wlV x0), (wlV x1)] 23)), (1, (nblkR rw_iuuuuL x3 37)), (2, (cB (iv x4) 3))], 3, 1⟩)
def qp_ (x0 : WL rw_iuuuuL) (x1 : WL rw_iuuuuL) (x2 : Int) (x4 : List Int) (x5 : Int) (r : List R6) : Ex × XSt := match r with
 | z0 => (.exit 2, (sT 72 [(0, (i6 x2)), (1, (sN 0 0 2 2)), (5, (slR z0 1 6)), (6, (sN 2 0 (x4).length (Nat.add big 1))), (7, (i6 (1 : Int)))], [], ⟨sB [(0, (cB [(wlV x0), (wlV x1)] 23)), (1, (nblkR rw_iuuuuL z0 37)), (2, (cB (iv x4) 3))], 3, 1⟩))
abbrev qjr_ (rnd : Option Nat) (x0 : WL rw_iuuuuL) (x1 : WL rw_iuuuuL) (x2 : Int) (x4 : List Int) (x5 : Int) (st : List R6 × Int) (c : Ex × XSt) : Prop := CG P rnd (fnN P 9) 1 (qbi_ P 9 [false, false, true, false, true, false, false, true, false, false, true, false, true, true, true]) (qcu_ x0 x1 x2 x4 x5 st) c
abbrev qjs_ (rd : Option Nat) (x0 : WL rw_iuuuuL) (x1 : WL rw_iuuuuL) (x2 : Int) (x4 : List Int) (x5 : Int) (st : List R6 × Int) (r : List R6) : Prop := CG P rd (fnN P 9) 1 (qbi_ P 9 [false, true, false, true, false, false, true, false, false, true, false, true, true, true]) (qcu_ x0 x1 x2 x4 x5 st) (qp_ x0 x1 x2 x4 x5 r)
def qbc_ (n : Nat) (x0 : WL rw_iuuuuL) (x1 : WL rw_iuuuuL) (x2 : Int) (x4 : List Int) (x5 : Int) (st : List R6 × Int) : Option ((List R6 × Int) ⊕ (List R6)) := match st with
 | (x3, x6) =>
  match x3 with
  | [] =>
   if x6 < (((x1).l.length : Nat) : Int) then
    if 0 ≤ x6 ∧ x6 < (((x1).l.length : Nat) : Int) then
     ((some (((x1).l).getD (x6).toNat (0, 0, 0, 0, 0, nl0)))).bind fun y3_ =>
     (qcs_ n x0 x1 x2 x4 x5 x6 (y3_.1) (y3_.2.1) (y3_.2.2.1) (y3_.2.2.2.1) (y3_.2.2.2.2.1) (y3_.2.2.2.2.2) (([] : List R6), ([] : List Int), 0)).bind fun t => match t with
     | (y4_0, y4_1) =>
      match y4_0 with
      | [] =>
       some (.inl ([((y3_.1), (y3_.2.1), (y3_.2.2.1), (y3_.2.2.2.1), (y3_.2.2.2.2.1), y4_1)], (w64 (x6 + 1))))
      | y4_0a :: y4_0t =>
       if (((y4_0a :: y4_0t)).length + 1) * 64 ≤ 140737488355328 then
        some (.inl (((y4_0a :: y4_0t) ++ [((y3_.1), (y3_.2.1), (y3_.2.2.1), (y3_.2.2.2.1), (y3_.2.2.2.2.1), y4_1)]), (w64 (x6 + 1))))
       else none
    else none
   else
    some (.inr ([] : List R6))
  | x3a :: x3t =>
   if x6 < (((x1).l.length : Nat) : Int) then
    if 0 ≤ x6 ∧ x6 < (((x1).l.length : Nat) : Int) then
     ((some (((x1).l).getD (x6).toNat (0, 0, 0, 0, 0, nl0)))).bind fun y3_ =>
     (qcs_ n x0 x1 x2 x4 x5 x6 (y3_.1) (y3_.2.1) (y3_.2.2.1) (y3_.2.2.2.1) (y3_.2.2.2.2.1) (y3_.2.2.2.2.2) ((x3a :: x3t), ([] : List Int), 0)).bind fun t => match t with
     | (y4_0, y4_1) =>
      match y4_0 with
      | [] =>
       some (.inl ([((y3_.1), (y3_.2.1), (y3_.2.2.1), (y3_.2.2.2.1), (y3_.2.2.2.2.1), y4_1)], (w64 (x6 + 1))))
      | y4_0a :: y4_0t =>
       if (((y4_0a :: y4_0t)).length + 1) * 64 ≤ 140737488355328 then
        some (.inl (((y4_0a :: y4_0t) ++ [((y3_.1), (y3_.2.1), (y3_.2.2.1), (y3_.2.2.2.1), (y3_.2.2.2.2.1), y4_1)]), (w64 (x6 + 1))))
       else none
    else none
   else
    some (.inr (x3a :: x3t))
def qcv_ (n : Nat) (x0 : WL rw_iuuuuL) (x1 : WL rw_iuuuuL) (x2 : Int) (x4 : List Int) (x5 : Int) (st : List R6 × Int) : Option (List R6) := iterM (qbc_ n x0 x1 x2 x4 x5) n st
theorem qfy_ (n : Nat) {rnd : Option Nat} (x0 : WL rw_iuuuuL) (x1 : WL rw_iuuuuL) (x2 : Int) (x4 : List Int) (x5 : Int) (st : List R6 × Int) (o : (List R6 × Int) ⊕ (List R6)) (h : qbc_ n x0 x1 x2 x4 x5 st = some o) : qjr_ rnd x0 x1 x2 x4 x5 st (Sum.elim (fun s => (.normal, qcu_ x0 x1 x2 x4 x5 s)) (fun r => qp_ x0 x1 x2 x4 x5 r) o) := by
 obtain ⟨x3, x6⟩ := st
 unfold qbc_ at h
 dsimp only at h
 cases x3 with
 | nil =>
  dsimp only at h
  by_cases hy1 : x6 < (((x1).l.length : Nat) : Int)
  ·rw [if_pos hy1] at h
   obtain ⟨hy2, h⟩ := gd h
   obtain ⟨y3_, hy3, h⟩ := oB h
   obtain ⟨⟨y4_0, y4_1⟩, hy4, h⟩ := oB h
   dsimp only at h
   have k0 := fun {A L l} (k : PL A L l) => zz 8 (xdT hy1) <|
    zz 18 (xk1 (x1).num (x1).off (x1).cap hy2) <|
    zz 19 (lk4 hy3 (qkg_ hy2)) <|
    k
   cases y4_0 with
   | nil =>
    dsimp only at h
    obtain rfl := oI h
    exact runC2 hm (kW [0, 1, 5, 6, 7, 8, 9] [(0, 0, false), (1, 5, false), (2, 2, true)] 3 1) (k0 <|
     ww (qb1_ n (rnd := rnd) x0 x1 x2 x4 x5 x6 (y3_.1) (y3_.2.1) (y3_.2.2.1) (y3_.2.2.2.1) (y3_.2.2.2.2.1) (y3_.2.2.2.2.2) (([] : List R6), ([] : List Int), 0) (([] : List R6), y4_1) hy4) <|
     ww (qdh_ x4 3) <|
     ll 28 ⟨(kW [0, 1, 5, 6, 7, 8, 9, 10, 11, 12] [(0, 0, false), (2, 2, true), (3, 3, false)] 5 1), (qo_ x0 x1 x2 x4 x5 x6 (y3_.1) (y3_.2.1) (y3_.2.2.1) (y3_.2.2.2.1) (y3_.2.2.2.2.1) (y3_.2.2.2.2.2) (([] : List R6), y4_1)).1, (qo_ x0 x1 x2 x4 x5 x6 (y3_.1) (y3_.2.1) (y3_.2.2.1) (y3_.2.2.2.1) (y3_.2.2.2.2.1) (y3_.2.2.2.2.2) (([] : List R6), y4_1)).2⟩ <|
     ww (qdh_ x4 3) <|
     ee) (by kernel_rfl)
   | cons y4_0a y4_0t =>
    dsimp only at h
    obtain ⟨hy5, h⟩ := gd h
    obtain rfl := oI h
    exact runC2 hm (kW [0, 1, 5, 6, 7, 8, 9] [(0, 0, false), (1, 5, true), (2, 2, true)] 3 1) (k0 <|
     ww (qb1_ n (rnd := rnd) x0 x1 x2 x4 x5 x6 (y3_.1) (y3_.2.1) (y3_.2.2.1) (y3_.2.2.2.1) (y3_.2.2.2.2.1) (y3_.2.2.2.2.2) (([] : List R6), ([] : List Int), 0) ((y4_0a :: y4_0t), y4_1) hy4) <|
     ww (qdh_ x4 3) <|
     ll 28 ⟨(kW [0, 1, 5, 6, 7, 8, 9, 10, 11, 12] [(0, 0, false), (2, 2, true), (3, 3, false)] 5 1), (qo_ x0 x1 x2 x4 x5 x6 (y3_.1) (y3_.2.1) (y3_.2.2.1) (y3_.2.2.2.1) (y3_.2.2.2.2.1) (y3_.2.2.2.2.2) ((y4_0a :: y4_0t), y4_1)).1, (qo_ x0 x1 x2 x4 x5 x6 (y3_.1) (y3_.2.1) (y3_.2.2.1) (y3_.2.2.2.1) (y3_.2.2.2.2.1) (y3_.2.2.2.2.2) ((y4_0a :: y4_0t), y4_1)).2⟩ <|
     yy 36 (.app ⟨none, rows rw_iuuuuL (y4_0a :: y4_0t), (rows rw_iuuuuL ((y4_0a :: y4_0t) ++ [((y3_.1), (y3_.2.1), (y3_.2.2.1), (y3_.2.2.2.1), (y3_.2.2.2.2.1), y4_1)])), (((y4_0a :: y4_0t) ++ [((y3_.1), (y3_.2.1), (y3_.2.2.1), (y3_.2.2.2.1), (y3_.2.2.2.2.1), y4_1)])).length, false⟩) <|
     ww (p := 0 < 1) ((by decide)) <|
     ww (p := rdT (layT (rows rw_iuuuuL (y4_0a :: y4_0t))) (Nat.mul ((y4_0a :: y4_0t)).length 6) 0 = some (rows rw_iuuuuL (y4_0a :: y4_0t))) (qly_ rwf_iuuuuL _ _ rfl) <|
     ww (p := fits (Nat.add ((y4_0a :: y4_0t)).length 1) 64 = true) (fits_ok hy5 (by have := hy5; show (_ : Nat) + _ ≤ _; omega)) <|
     ww (p := ql_ [(i6 (y3_.1)), (Value.int .u64 (y3_.2.1)), (Value.int .u64 (y3_.2.2.1)), (Value.int .u64 (y3_.2.2.2.1)), (Value.int .u64 (y3_.2.2.2.2.1)), (nlV y4_1)] = true) (rfl) <|
     ww (p := ql_ (rows rw_iuuuuL (y4_0a :: y4_0t)) = true) (qel_ rwf_iuuuuL _) <|
     ww (p := rows rw_iuuuuL (y4_0a :: y4_0t) ++ [(i6 (y3_.1)), (Value.int .u64 (y3_.2.1)), (Value.int .u64 (y3_.2.2.1)), (Value.int .u64 (y3_.2.2.2.1)), (Value.int .u64 (y3_.2.2.2.2.1)), (nlV y4_1)] = (rows rw_iuuuuL ((y4_0a :: y4_0t) ++ [((y3_.1), (y3_.2.1), (y3_.2.2.1), (y3_.2.2.2.1), (y3_.2.2.2.2.1), y4_1)]))) (qiq_ rw_iuuuuL (y4_0a :: y4_0t) [((y3_.1), (y3_.2.1), (y3_.2.2.1), (y3_.2.2.2.1), (y3_.2.2.2.2.1), y4_1)]) <|
     ww (p := Nat.add ((y4_0a :: y4_0t)).length 1 = (((y4_0a :: y4_0t) ++ [((y3_.1), (y3_.2.1), (y3_.2.2.1), (y3_.2.2.2.1), (y3_.2.2.2.2.1), y4_1)])).length) (by simp) <|
     ww (qa_ rwf_iuuuuL ((y4_0a :: y4_0t) ++ [((y3_.1), (y3_.2.1), (y3_.2.2.1), (y3_.2.2.2.1), (y3_.2.2.2.2.1), y4_1)]) 37) <|
     ww (qdh_ x4 3) <|
     ee) (by kernel_rfl)
  ·rw [if_neg hy1] at h
   obtain rfl := oI h
   exact runC2 hm (kW [0, 1, 5, 6, 7] [(0, 0, false), (2, 2, true)] 3 1) (zz 8 (xdF hy1) <|
    ww (qdh_ x4 3) <|
    ee) (by kernel_rfl)
 | cons x3a x3t =>
  dsimp only at h
  by_cases hy1 : x6 < (((x1).l.length : Nat) : Int)
  ·rw [if_pos hy1] at h
   obtain ⟨hy2, h⟩ := gd h
   obtain ⟨y3_, hy3, h⟩ := oB h
   obtain ⟨⟨y4_0, y4_1⟩, hy4, h⟩ := oB h
   dsimp only at h
   have k0 := fun {A L l} (k : PL A L l) => zz 8 (xdT hy1) <|
    zz 18 (xk1 (x1).num (x1).off (x1).cap hy2) <|
    zz 19 (lk4 hy3 (qkg_ hy2)) <|
    k
   cases y4_0 with
   | nil =>
    dsimp only at h
    obtain rfl := oI h
    exact runC2 hm (kW [0, 1, 5, 6, 7, 8, 9] [(0, 0, false), (1, 5, false), (2, 2, true)] 3 1) (k0 <|
     ww (qb1_ n (rnd := rnd) x0 x1 x2 x4 x5 x6 (y3_.1) (y3_.2.1) (y3_.2.2.1) (y3_.2.2.2.1) (y3_.2.2.2.2.1) (y3_.2.2.2.2.2) ((x3a :: x3t), ([] : List Int), 0) (([] : List R6), y4_1) hy4) <|
     ww (qa_ rwf_iuuuuL (x3a :: x3t) 37) <|
     ww (qdh_ x4 3) <|
     ll 28 ⟨(kW [0, 1, 5, 6, 7, 8, 9, 10, 11, 12] [(0, 0, false), (1, 1, true), (2, 2, true), (3, 3, false)] 5 1), (qo_ x0 x1 x2 x4 x5 x6 (y3_.1) (y3_.2.1) (y3_.2.2.1) (y3_.2.2.2.1) (y3_.2.2.2.2.1) (y3_.2.2.2.2.2) (([] : List R6), y4_1)).1, (qo_ x0 x1 x2 x4 x5 x6 (y3_.1) (y3_.2.1) (y3_.2.2.1) (y3_.2.2.2.1) (y3_.2.2.2.2.1) (y3_.2.2.2.2.2) (([] : List R6), y4_1)).2⟩ <|
     ww (qdh_ x4 3) <|
     ee) (by kernel_rfl)
   | cons y4_0a y4_0t =>
    dsimp only at h
    obtain ⟨hy5, h⟩ := gd h
    obtain rfl := oI h
    exact runC2 hm (kW [0, 1, 5, 6, 7, 8, 9] [(0, 0, false), (1, 5, true), (2, 2, true)] 3 1) (k0 <|
     ww (qb1_ n (rnd := rnd) x0 x1 x2 x4 x5 x6 (y3_.1) (y3_.2.1) (y3_.2.2.1) (y3_.2.2.2.1) (y3_.2.2.2.2.1) (y3_.2.2.2.2.2) ((x3a :: x3t), ([] : List Int), 0) ((y4_0a :: y4_0t), y4_1) hy4) <|
     ww (qa_ rwf_iuuuuL (x3a :: x3t) 37) <|
     ww (qdh_ x4 3) <|
     ll 28 ⟨(kW [0, 1, 5, 6, 7, 8, 9, 10, 11, 12] [(0, 0, false), (1, 1, true), (2, 2, true), (3, 3, false)] 5 1), (qo_ x0 x1 x2 x4 x5 x6 (y3_.1) (y3_.2.1) (y3_.2.2.1) (y3_.2.2.2.1) (y3_.2.2.2.2.1) (y3_.2.2.2.2.2) ((y4_0a :: y4_0t), y4_1)).1, (qo_ x0 x1 x2 x4 x5 x6 (y3_.1) (y3_.2.1) (y3_.2.2.1) (y3_.2.2.2.1) (y3_.2.2.2.2.1) (y3_.2.2.2.2.2) ((y4_0a :: y4_0t), y4_1)).2⟩ <|
     yy 36 (.app ⟨none, rows rw_iuuuuL (y4_0a :: y4_0t), (rows rw_iuuuuL ((y4_0a :: y4_0t) ++ [((y3_.1), (y3_.2.1), (y3_.2.2.1), (y3_.2.2.2.1), (y3_.2.2.2.2.1), y4_1)])), (((y4_0a :: y4_0t) ++ [((y3_.1), (y3_.2.1), (y3_.2.2.1), (y3_.2.2.2.1), (y3_.2.2.2.2.1), y4_1)])).length, false⟩) <|
     ww (p := 0 < 1) ((by decide)) <|
     ww (p := rdT (layT (rows rw_iuuuuL (y4_0a :: y4_0t))) (Nat.mul ((y4_0a :: y4_0t)).length 6) 0 = some (rows rw_iuuuuL (y4_0a :: y4_0t))) (qly_ rwf_iuuuuL _ _ rfl) <|
     ww (p := fits (Nat.add ((y4_0a :: y4_0t)).length 1) 64 = true) (fits_ok hy5 (by have := hy5; show (_ : Nat) + _ ≤ _; omega)) <|
     ww (p := ql_ [(i6 (y3_.1)), (Value.int .u64 (y3_.2.1)), (Value.int .u64 (y3_.2.2.1)), (Value.int .u64 (y3_.2.2.2.1)), (Value.int .u64 (y3_.2.2.2.2.1)), (nlV y4_1)] = true) (rfl) <|
     ww (p := ql_ (rows rw_iuuuuL (y4_0a :: y4_0t)) = true) (qel_ rwf_iuuuuL _) <|
     ww (p := rows rw_iuuuuL (y4_0a :: y4_0t) ++ [(i6 (y3_.1)), (Value.int .u64 (y3_.2.1)), (Value.int .u64 (y3_.2.2.1)), (Value.int .u64 (y3_.2.2.2.1)), (Value.int .u64 (y3_.2.2.2.2.1)), (nlV y4_1)] = (rows rw_iuuuuL ((y4_0a :: y4_0t) ++ [((y3_.1), (y3_.2.1), (y3_.2.2.1), (y3_.2.2.2.1), (y3_.2.2.2.2.1), y4_1)]))) (qiq_ rw_iuuuuL (y4_0a :: y4_0t) [((y3_.1), (y3_.2.1), (y3_.2.2.1), (y3_.2.2.2.1), (y3_.2.2.2.2.1), y4_1)]) <|
     ww (p := Nat.add ((y4_0a :: y4_0t)).length 1 = (((y4_0a :: y4_0t) ++ [((y3_.1), (y3_.2.1), (y3_.2.2.1), (y3_.2.2.2.1), (y3_.2.2.2.2.1), y4_1)])).length) (by simp) <|
     ww (qa_ rwf_iuuuuL ((y4_0a :: y4_0t) ++ [((y3_.1), (y3_.2.1), (y3_.2.2.1), (y3_.2.2.2.1), (y3_.2.2.2.2.1), y4_1)]) 37) <|
     ww (qdh_ x4 3) <|
     ee) (by kernel_rfl)
  ·rw [if_neg hy1] at h
   obtain rfl := oI h
   exact runC2 hm (kW [0, 1, 5, 6, 7] [(0, 0, false), (1, 1, true), (2, 2, true)] 3 1) (zz 8 (xdF hy1) <|
    ww (qa_ rwf_iuuuuL (x3a :: x3t) 37) <|
    ww (qdh_ x4 3) <|
    ee) (by kernel_rfl)
theorem qb2_ (n : Nat) {rnd : Option Nat} (x0 : WL rw_iuuuuL) (x1 : WL rw_iuuuuL) (x2 : Int) (x4 : List Int) (x5 : Int) (st : List R6 × Int) (r : List R6) (h : qcv_ n x0 x1 x2 x4 x5 st = some r) : qjs_ rnd x0 x1 x2 x4 x5 st r :=
 CG.iter (b := qbi_ P 9 [false, false, true, false, true, false, false, true, false, false, true, false, true, true, true]) (by kernel_rfl) (body := qbc_ n x0 x1 x2 x4 x5) (S := qcu_ x0 x1 x2 x4 x5) (X := qp_ x0 x1 x2 x4 x5)
  (fun s s' h => qfy_ n x0 x1 x2 x4 x5 s (.inl s') h)
  (fun s r h => qfy_ n x0 x1 x2 x4 x5 s (.inr r) h)
  (fun r => by intro hx; cases hx) h
def qjt_ (x0 : WL rw_iuuuuL) (x1 : WL rw_iuuuuL) (x2 : Int) (x3 : List R6) (x4 : NL) (st : Unit) : XSt := (sT 72 [(0, (i6 x2)), (5, (slR x3 1 6)), (6, (nlV x4))], [], ⟨sB [(0, (cB [(wlV x0), (wlV x1)] 23)), (1, (nblkR rw_iuuuuL x3 37))], 2, 1⟩)
def qt_ (x0 : WL rw_iuuuuL) (x1 : WL rw_iuuuuL) (x2 : Int) (x3 : List R6) (x4 : NL) (r : WL rw_iuuuuL) : Ex × XSt := match r with
 | z0 => (.ret, (sT 72 [(4, (wlV z0))], [], ⟨sB [(0, (cB [(wlV x0), (wlV x1)] 23))], 1, 1⟩))
abbrev qju_ (rd : Option Nat) (x0 : WL rw_iuuuuL) (x1 : WL rw_iuuuuL) (x2 : Int) (x3 : List R6) (x4 : NL) (st : Unit) (r : WL rw_iuuuuL) : Prop := CG P rd (fnN P 9) 1 (qbi_ P 9 [true, true, true, true]) (qjt_ x0 x1 x2 x3 x4 st) (qt_ x0 x1 x2 x3 x4 r)
def qbd_ (n : Nat) (x0 : WL rw_iuuuuL) (x1 : WL rw_iuuuuL) (x2 : Int) (x3 : List R6) (x4 : NL) (st : Unit) : Option (WL rw_iuuuuL) :=
 match x3 with
 | [] =>
  if hy1 : [(x2, (0 : Int), (0 : Int), (0 : Int), (0 : Int), x4)].length ≤ 9223372036854775807 then
   some (frzR qdi_ [(x2, (0 : Int), (0 : Int), (0 : Int), (0 : Int), x4)] hy1)
  else none
 | x3a :: x3t =>
  if (((x3a :: x3t)).length + 1) * 64 ≤ 140737488355328 then
   if hy2 : ((x3a :: x3t) ++ [(x2, (0 : Int), (0 : Int), (0 : Int), (0 : Int), x4)]).length ≤ 9223372036854775807 then
    some (frzR qdi_ ((x3a :: x3t) ++ [(x2, (0 : Int), (0 : Int), (0 : Int), (0 : Int), x4)]) hy2)
   else none
  else none
theorem qb3_ (n : Nat) {rnd : Option Nat} (x0 : WL rw_iuuuuL) (x1 : WL rw_iuuuuL) (x2 : Int) (x3 : List R6) (x4 : NL) (st : Unit) (r : WL rw_iuuuuL) (h : qbd_ n x0 x1 x2 x3 x4 st = some r) : qju_ rnd x0 x1 x2 x3 x4 st r := by
 unfold qbd_ at h
 cases x3 with
 | nil =>
  dsimp only at h
  obtain ⟨hy1, h⟩ := gdD h
  obtain rfl := oI h
  exact runC2 hm ⟨[4], [(0, 0, false)], 1, 1, [], true, [], [(3, Nat.add (2 * codL (rows rw_iuuuuL [(x2, (0 : Int), (0 : Int), (0 : Int), (0 : Int), x4)]) + 1) 64)], []⟩ (ww (frz_okR qbx_ qd4_ qdi_ [(x2, (0 : Int), (0 : Int), (0 : Int), (0 : Int), x4)]) <|
   ee) (by kernel_rfl)
 | cons x3a x3t =>
  dsimp only at h
  obtain ⟨hy1, h⟩ := gd h
  obtain ⟨hy2, h⟩ := gdD h
  obtain rfl := oI h
  exact runC2 hm ⟨[4], [(0, 0, false)], 1, 1, [(3, Nat.add (2 * codL (rows rw_iuuuuL ((x3a :: x3t) ++ [(x2, (0 : Int), (0 : Int), (0 : Int), (0 : Int), x4)])) + 1) 64)], true, [], [], []⟩ (yy 6 (.app ⟨none, rows rw_iuuuuL (x3a :: x3t), (rows rw_iuuuuL ((x3a :: x3t) ++ [(x2, (0 : Int), (0 : Int), (0 : Int), (0 : Int), x4)])), (((x3a :: x3t) ++ [(x2, (0 : Int), (0 : Int), (0 : Int), (0 : Int), x4)])).length, false⟩) <|
   ww (p := 0 < 1) ((by decide)) <|
   ww (p := rdT (layT (rows rw_iuuuuL (x3a :: x3t))) (Nat.mul ((x3a :: x3t)).length 6) 0 = some (rows rw_iuuuuL (x3a :: x3t))) (qly_ rwf_iuuuuL _ _ rfl) <|
   ww (p := fits (Nat.add ((x3a :: x3t)).length 1) 64 = true) (fits_ok hy1 (by have := hy1; show (_ : Nat) + _ ≤ _; omega)) <|
   ww (p := ql_ [(i6 x2), (Value.int .u64 (0 : Int)), (Value.int .u64 (0 : Int)), (Value.int .u64 (0 : Int)), (Value.int .u64 (0 : Int)), (nlV x4)] = true) (rfl) <|
   ww (p := ql_ (rows rw_iuuuuL (x3a :: x3t)) = true) (qel_ rwf_iuuuuL _) <|
   ww (p := rows rw_iuuuuL (x3a :: x3t) ++ [(i6 x2), (Value.int .u64 (0 : Int)), (Value.int .u64 (0 : Int)), (Value.int .u64 (0 : Int)), (Value.int .u64 (0 : Int)), (nlV x4)] = (rows rw_iuuuuL ((x3a :: x3t) ++ [(x2, (0 : Int), (0 : Int), (0 : Int), (0 : Int), x4)]))) (qiq_ rw_iuuuuL (x3a :: x3t) [(x2, (0 : Int), (0 : Int), (0 : Int), (0 : Int), x4)]) <|
   ww (p := Nat.add ((x3a :: x3t)).length 1 = (((x3a :: x3t) ++ [(x2, (0 : Int), (0 : Int), (0 : Int), (0 : Int), x4)])).length) (by simp) <|
   ww (frz_okR qbx_ qd4_ qdi_ ((x3a :: x3t) ++ [(x2, (0 : Int), (0 : Int), (0 : Int), (0 : Int), x4)])) <|
   ee) (by kernel_rfl)
def qj_ (n : Nat) (a0 : Int) (a1 : WL rw_iuuuuL) (a2 : WL rw_iuuuuL) : Option (WL rw_iuuuuL) :=
 (qds_ n a1 a2 a0 (([] : List R6), 0)).bind fun c1_ =>
 match c1_ with
 | [] =>
  (qcv_ n a1 a2 a0 [(-1 : Int)] 0 (([] : List R6), 0)).bind fun c2_ =>
  match c2_ with
  | [] =>
   if (([(-1 : Int)]).length + 1) * 8 ≤ 140737488355328 then
    if hc4 : ([(-1 : Int)] ++ [(-1 : Int)]).length ≤ 140737488355328 then
     (qbd_ n a1 a2 a0 ([] : List R6) (frzL ([(-1 : Int)] ++ [(-1 : Int)]) hc4) ()).bind fun c5_ =>
     some c5_
    else none
   else none
  | c2_a :: c2_t =>
   ((some (w64 (((((c2_a :: c2_t)).length : Nat) : Int) - 1)))).bind fun c3_ =>
   if (([(-1 : Int)]).length + 1) * 8 ≤ 140737488355328 then
    if hc5 : ([(-1 : Int)] ++ [c3_]).length ≤ 140737488355328 then
     (qbd_ n a1 a2 a0 (c2_a :: c2_t) (frzL ([(-1 : Int)] ++ [c3_]) hc5) ()).bind fun c6_ =>
     some c6_
    else none
   else none
 | c1_a :: c1_t =>
  ((some (w64 (((((c1_a :: c1_t)).length : Nat) : Int) - 1)))).bind fun c2_ =>
  (qcv_ n a1 a2 a0 [c2_] ((((c1_a :: c1_t)).length : Nat) : Int) ((c1_a :: c1_t), 0)).bind fun c3_ =>
  match c3_ with
  | [] =>
   if (([c2_]).length + 1) * 8 ≤ 140737488355328 then
    if hc5 : ([c2_] ++ [(-1 : Int)]).length ≤ 140737488355328 then
     (qbd_ n a1 a2 a0 ([] : List R6) (frzL ([c2_] ++ [(-1 : Int)]) hc5) ()).bind fun c6_ =>
     some c6_
    else none
   else none
  | c3_a :: c3_t =>
   ((some (w64 (((((c3_a :: c3_t)).length : Nat) : Int) - 1)))).bind fun c4_ =>
   if (([c2_]).length + 1) * 8 ≤ 140737488355328 then
    if hc6 : ([c2_] ++ [c4_]).length ≤ 140737488355328 then
     (qbd_ n a1 a2 a0 (c3_a :: c3_t) (frzL ([c2_] ++ [c4_]) hc6) ()).bind fun c7_ =>
     some c7_
    else none
   else none
theorem qr_ (n : Nat) (a0 : Int) (a1 : WL rw_iuuuuL) (a2 : WL rw_iuuuuL) (r : WL rw_iuuuuL) (h : qj_ n a0 a1 a2 = some r) : qkn_ a0 a1 a2 r := by
 unfold qj_ at h
 obtain ⟨c1_, hc1, h⟩ := oB h
 cases c1_ with
 | nil =>
  dsimp only at h
  obtain ⟨c2_, hc2, h⟩ := oB h
  have k0 := fun {A L l} (k : PL A L l) => ww (qev_ n (rnd := none) a1 a2 a0 (([] : List R6), 0) ([] : List R6) hc1) <|
   ll 28 ⟨(kW [0, 1, 5, 6, 7, 8, 9] [(0, 0, false)] 2 1), (qba_ a1 a2 a0 ([] : List R6)).1, (qba_ a1 a2 a0 ([] : List R6)).2⟩ <|
   k
  cases c2_ with
  | nil =>
   dsimp only at h
   obtain ⟨hc3, h⟩ := gd h
   obtain ⟨hc4, h⟩ := gdD h
   replace h := oB h
   obtain ⟨c5_, hc5, h⟩ := h
   obtain rfl := oI h
   exact runF2 hm (kW [4] [] 1 1) (k0 <|
    ww (qb2_ n (rnd := none) a1 a2 a0 [(-1 : Int)] 0 (([] : List R6), 0) ([] : List R6) hc2) <|
    ll 57 ⟨(kW [0, 1, 5, 6, 7, 8, 9] [(0, 0, false), (2, 3, false)] 3 1), (qp_ a1 a2 a0 [(-1 : Int)] 0 ([] : List R6)).1, (qp_ a1 a2 a0 [(-1 : Int)] 0 ([] : List R6)).2⟩ <|
    yy 63 (.app ⟨none, iv [(-1 : Int)], (iv ([(-1 : Int)] ++ [(-1 : Int)])), (([(-1 : Int)] ++ [(-1 : Int)])).length, false⟩) <|
    ww (p := 0 < 1) ((by decide)) <|
    ww (p := rdT (layT (iv [(-1 : Int)])) (Nat.mul ([(-1 : Int)]).length 1) 0 = some (iv [(-1 : Int)])) (iv_rd _) <|
    ww (p := fits (Nat.add ([(-1 : Int)]).length 1) 8 = true) (fits_ok hc3 (by have := hc3; show (_ : Nat) + _ ≤ _; omega)) <|
    ww (p := ql_ [(i6 (-1 : Int))] = true) (rfl) <|
    ww (p := ql_ (iv [(-1 : Int)]) = true) (qhm_ _) <|
    ww (p := iv [(-1 : Int)] ++ [(i6 (-1 : Int))] = (iv ([(-1 : Int)] ++ [(-1 : Int)]))) (by simp [iv]) <|
    ww (p := Nat.add ([(-1 : Int)]).length 1 = (([(-1 : Int)] ++ [(-1 : Int)])).length) (by simp) <|
    ww (qb3_ n (rnd := none) a1 a2 a0 ([] : List R6) (frzL ([(-1 : Int)] ++ [(-1 : Int)]) hc4) () c5_ hc5) <|
    ww (qmz_ qbx_ qd4_ ([(-1 : Int)] ++ [(-1 : Int)])) <|
    ll 76 ⟨⟨[0, 5, 6], [(0, 0, false)], 2, 1, [(4, Nat.add (2 * cod ([(-1 : Int)] ++ [(-1 : Int)]) + 1) 64)], true, [], [], []⟩, (qt_ a1 a2 a0 ([] : List R6) (frzL ([(-1 : Int)] ++ [(-1 : Int)]) hc4) c5_).1, (qt_ a1 a2 a0 ([] : List R6) (frzL ([(-1 : Int)] ++ [(-1 : Int)]) hc4) c5_).2⟩ <|
    ee) (by kernel_rfl)
  | cons c2_a c2_t =>
   dsimp only at h
   obtain ⟨c3_, hc3, h⟩ := oB h
   obtain ⟨hc4, h⟩ := gd h
   obtain ⟨hc5, h⟩ := gdD h
   replace h := oB h
   obtain ⟨c6_, hc6, h⟩ := h
   obtain rfl := oI h
   exact runF2 hm (kW [4] [] 1 1) (k0 <|
    ww (qb2_ n (rnd := none) a1 a2 a0 [(-1 : Int)] 0 (([] : List R6), 0) (c2_a :: c2_t) hc2) <|
    ll 57 ⟨(kW [0, 1, 5, 6, 7, 8, 9] [(0, 0, false), (2, 3, false)] 3 1), (qp_ a1 a2 a0 [(-1 : Int)] 0 (c2_a :: c2_t)).1, (qp_ a1 a2 a0 [(-1 : Int)] 0 (c2_a :: c2_t)).2⟩ <|
    zz 61 (xnm hc3) <|
    yy 63 (.app ⟨none, iv [(-1 : Int)], (iv ([(-1 : Int)] ++ [c3_])), (([(-1 : Int)] ++ [c3_])).length, false⟩) <|
    ww (p := 0 < 1) ((by decide)) <|
    ww (p := rdT (layT (iv [(-1 : Int)])) (Nat.mul ([(-1 : Int)]).length 1) 0 = some (iv [(-1 : Int)])) (iv_rd _) <|
    ww (p := fits (Nat.add ([(-1 : Int)]).length 1) 8 = true) (fits_ok hc4 (by have := hc4; show (_ : Nat) + _ ≤ _; omega)) <|
    ww (p := ql_ [(i6 c3_)] = true) (rfl) <|
    ww (p := ql_ (iv [(-1 : Int)]) = true) (qhm_ _) <|
    ww (p := iv [(-1 : Int)] ++ [(i6 c3_)] = (iv ([(-1 : Int)] ++ [c3_]))) (by simp [iv]) <|
    ww (p := Nat.add ([(-1 : Int)]).length 1 = (([(-1 : Int)] ++ [c3_])).length) (by simp) <|
    ww (qb3_ n (rnd := none) a1 a2 a0 (c2_a :: c2_t) (frzL ([(-1 : Int)] ++ [c3_]) hc5) () c6_ hc6) <|
    ww (qa_ rwf_iuuuuL (c2_a :: c2_t) 37) <|
    ww (qmz_ qbx_ qd4_ ([(-1 : Int)] ++ [c3_])) <|
    ww (qa_ rwf_iuuuuL (c2_a :: c2_t) 37) <|
    ll 76 ⟨⟨[0, 5, 6], [(0, 0, false), (1, 1, true)], 2, 1, [(4, Nat.add (2 * cod ([(-1 : Int)] ++ [c3_]) + 1) 64)], true, [], [], []⟩, (qt_ a1 a2 a0 (c2_a :: c2_t) (frzL ([(-1 : Int)] ++ [c3_]) hc5) c6_).1, (qt_ a1 a2 a0 (c2_a :: c2_t) (frzL ([(-1 : Int)] ++ [c3_]) hc5) c6_).2⟩ <|
    ee) (by kernel_rfl)
 | cons c1_a c1_t =>
  dsimp only at h
  obtain ⟨c2_, hc2, h⟩ := oB h
  obtain ⟨c3_, hc3, h⟩ := oB h
  have k0 := fun {A L l} (k : PL A L l) => ww (qev_ n (rnd := none) a1 a2 a0 (([] : List R6), 0) (c1_a :: c1_t) hc1) <|
   ll 28 ⟨(kW [0, 1, 5, 6, 7, 8, 9] [(0, 0, false)] 2 1), (qba_ a1 a2 a0 (c1_a :: c1_t)).1, (qba_ a1 a2 a0 (c1_a :: c1_t)).2⟩ <|
   zz 32 (xnm hc2) <|
   k
  cases c3_ with
  | nil =>
   dsimp only at h
   obtain ⟨hc4, h⟩ := gd h
   obtain ⟨hc5, h⟩ := gdD h
   replace h := oB h
   obtain ⟨c6_, hc6, h⟩ := h
   obtain rfl := oI h
   exact runF2 hm (kW [4] [] 1 1) (k0 <|
    ww (qb2_ n (rnd := none) a1 a2 a0 [c2_] ((((c1_a :: c1_t)).length : Nat) : Int) ((c1_a :: c1_t), 0) ([] : List R6) hc3) <|
    ww (qa_ rwf_iuuuuL (c1_a :: c1_t) 37) <|
    ll 57 ⟨(kW [0, 1, 5, 6, 7, 8, 9] [(0, 0, false), (1, 1, true), (2, 3, false)] 3 1), (qp_ a1 a2 a0 [c2_] ((((c1_a :: c1_t)).length : Nat) : Int) ([] : List R6)).1, (qp_ a1 a2 a0 [c2_] ((((c1_a :: c1_t)).length : Nat) : Int) ([] : List R6)).2⟩ <|
    yy 63 (.app ⟨none, iv [c2_], (iv ([c2_] ++ [(-1 : Int)])), (([c2_] ++ [(-1 : Int)])).length, false⟩) <|
    ww (p := 0 < 1) ((by decide)) <|
    ww (p := rdT (layT (iv [c2_])) (Nat.mul ([c2_]).length 1) 0 = some (iv [c2_])) (iv_rd _) <|
    ww (p := fits (Nat.add ([c2_]).length 1) 8 = true) (fits_ok hc4 (by have := hc4; show (_ : Nat) + _ ≤ _; omega)) <|
    ww (p := ql_ [(i6 (-1 : Int))] = true) (rfl) <|
    ww (p := ql_ (iv [c2_]) = true) (qhm_ _) <|
    ww (p := iv [c2_] ++ [(i6 (-1 : Int))] = (iv ([c2_] ++ [(-1 : Int)]))) (by simp [iv]) <|
    ww (p := Nat.add ([c2_]).length 1 = (([c2_] ++ [(-1 : Int)])).length) (by simp) <|
    ww (qb3_ n (rnd := none) a1 a2 a0 ([] : List R6) (frzL ([c2_] ++ [(-1 : Int)]) hc5) () c6_ hc6) <|
    ww (qmz_ qbx_ qd4_ ([c2_] ++ [(-1 : Int)])) <|
    ll 76 ⟨⟨[0, 5, 6], [(0, 0, false)], 2, 1, [(4, Nat.add (2 * cod ([c2_] ++ [(-1 : Int)]) + 1) 64)], true, [], [], []⟩, (qt_ a1 a2 a0 ([] : List R6) (frzL ([c2_] ++ [(-1 : Int)]) hc5) c6_).1, (qt_ a1 a2 a0 ([] : List R6) (frzL ([c2_] ++ [(-1 : Int)]) hc5) c6_).2⟩ <|
    ee) (by kernel_rfl)
  | cons c3_a c3_t =>
   dsimp only at h
   obtain ⟨c4_, hc4, h⟩ := oB h
   obtain ⟨hc5, h⟩ := gd h
   obtain ⟨hc6, h⟩ := gdD h
   replace h := oB h
   obtain ⟨c7_, hc7, h⟩ := h
   obtain rfl := oI h
   exact runF2 hm (kW [4] [] 1 1) (k0 <|
    ww (qb2_ n (rnd := none) a1 a2 a0 [c2_] ((((c1_a :: c1_t)).length : Nat) : Int) ((c1_a :: c1_t), 0) (c3_a :: c3_t) hc3) <|
    ww (qa_ rwf_iuuuuL (c1_a :: c1_t) 37) <|
    ll 57 ⟨(kW [0, 1, 5, 6, 7, 8, 9] [(0, 0, false), (1, 1, true), (2, 3, false)] 3 1), (qp_ a1 a2 a0 [c2_] ((((c1_a :: c1_t)).length : Nat) : Int) (c3_a :: c3_t)).1, (qp_ a1 a2 a0 [c2_] ((((c1_a :: c1_t)).length : Nat) : Int) (c3_a :: c3_t)).2⟩ <|
    zz 61 (xnm hc4) <|
    yy 63 (.app ⟨none, iv [c2_], (iv ([c2_] ++ [c4_])), (([c2_] ++ [c4_])).length, false⟩) <|
    ww (p := 0 < 1) ((by decide)) <|
    ww (p := rdT (layT (iv [c2_])) (Nat.mul ([c2_]).length 1) 0 = some (iv [c2_])) (iv_rd _) <|
    ww (p := fits (Nat.add ([c2_]).length 1) 8 = true) (fits_ok hc5 (by have := hc5; show (_ : Nat) + _ ≤ _; omega)) <|
    ww (p := ql_ [(i6 c4_)] = true) (rfl) <|
    ww (p := ql_ (iv [c2_]) = true) (qhm_ _) <|
    ww (p := iv [c2_] ++ [(i6 c4_)] = (iv ([c2_] ++ [c4_]))) (by simp [iv]) <|
    ww (p := Nat.add ([c2_]).length 1 = (([c2_] ++ [c4_])).length) (by simp) <|
    ww (qb3_ n (rnd := none) a1 a2 a0 (c3_a :: c3_t) (frzL ([c2_] ++ [c4_]) hc6) () c7_ hc7) <|
    ww (qa_ rwf_iuuuuL (c3_a :: c3_t) 37) <|
    ww (qmz_ qbx_ qd4_ ([c2_] ++ [c4_])) <|
    ww (qa_ rwf_iuuuuL (c3_a :: c3_t) 37) <|
    ll 76 ⟨⟨[0, 5, 6], [(0, 0, false), (1, 1, true)], 2, 1, [(4, Nat.add (2 * cod ([c2_] ++ [c4_]) + 1) 64)], true, [], [], []⟩, (qt_ a1 a2 a0 (c3_a :: c3_t) (frzL ([c2_] ++ [c4_]) hc6) c7_).1, (qt_ a1 a2 a0 (c3_a :: c3_t) (frzL ([c2_] ++ [c4_]) hc6) c7_).2⟩ <|
    ee) (by kernel_rfl)

def qko_ (a0 : Int) (a1 : Int) (a2 : Int) (a3 : Int) (a4 : Int) (a5 : Int) (a6 : WL rw_iuuuuL) : List Value := [(i6 a0), (sN 0 0 2 2)]
def qge_ (a0 : Int) (a1 : Int) (a2 : Int) (a3 : Int) (a4 : Int) (a5 : Int) (a6 : WL rw_iuuuuL) (r : WL rw_iuuuuL) : Value := match r with
 | o0 => (wlV o0)
def qgf_ (a0 : Int) (a1 : Int) (a2 : Int) (a3 : Int) (a4 : Int) (a5 : Int) (a6 : WL rw_iuuuuL) (r : WL rw_iuuuuL) : AH := match r with
 | o0 => ⟨sB [], 2, 2⟩
abbrev qkp_ (a0 : Int) (a1 : Int) (a2 : Int) (a3 : Int) (a4 : Int) (a5 : Int) (a6 : WL rw_iuuuuL) (r : WL rw_iuuuuL) : Prop := Gv P (.func 9) (qko_ a0 a1 a2 a3 a4 a5 a6) ⟨sB [(0, (cB [(sN 1 0 1 1), (wlV a6)] 23)), (1, (cB [(i6 a1), (Value.int .u64 a2), (Value.int .u64 a3), (Value.int .u64 a4), (Value.int .u64 a5), (Value.slice none 0 0)] 37))], 2, 2⟩ (qge_ a0 a1 a2 a3 a4 a5 a6 r) (qgf_ a0 a1 a2 a3 a4 a5 a6 r)
abbrev qh_ (a0 : Int) (a1 : Int) (a2 : Int) (a3 : Int) (a4 : Int) (a5 : Int) (a6 : WL rw_iuuuuL) (r : WL rw_iuuuuL) (ins outs : BL) : CallA := ⟨2, ins, qge_ a0 a1 a2 a3 a4 a5 a6 r, qgf_ a0 a1 a2 a3 a4 a5 a6 r, outs⟩
def qcw_ (x0 : Int) (x1 : Int) (x2 : Int) (x3 : Int) (x4 : Int) (x5 : WL rw_iuuuuL) (x6 : Int) (st : Unit) : XSt := match st with
 | _ => (sT 72 [(0, (i6 x6)), (1, (sN 0 0 2 2)), (5, (Value.slice none 0 0)), (6, (Value.slice none 0 0)), (7, (i6 (0 : Int))), (8, (i6 (0 : Int))), (9, (i6 (0 : Int))), (10, (pN 2 0)), (11, (Value.slice none 0 0)), (12, (i6 (0 : Int)))], [], ⟨sB [(0, (cB [(sN 1 0 1 1), (wlV x5)] 23)), (1, (cB [(i6 x0), (Value.int .u64 x1), (Value.int .u64 x2), (Value.int .u64 x3), (Value.int .u64 x4), (Value.slice none 0 0)] 37)), (2, (cB [(i6 x0), (Value.int .u64 x1), (Value.int .u64 x2), (Value.int .u64 x3), (Value.int .u64 x4), (Value.slice none 0 0)] 37))], 3, 2⟩)
def qbr_ (x0 : Int) (x1 : Int) (x2 : Int) (x3 : Int) (x4 : Int) (x5 : WL rw_iuuuuL) (x6 : Int) (r : Unit) : Ex × XSt := match r with
 | _ => (.exit 4, (sT 72 [(0, (i6 x6)), (1, (sN 0 0 2 2)), (5, (Value.slice none 0 0)), (6, (Value.slice none 0 0)), (7, (i6 (0 : Int))), (8, (i6 (0 : Int))), (9, (i6 (0 : Int))), (10, (pN 2 0)), (11, (nlV nl0))], [], ⟨sB [(0, (cB [(sN 1 0 1 1), (wlV x5)] 23)), (1, (cB [(i6 x0), (Value.int .u64 x1), (Value.int .u64 x2), (Value.int .u64 x3), (Value.int .u64 x4), (nlV nl0)] 37)), (2, (cB [(i6 x0), (Value.int .u64 x1), (Value.int .u64 x2), (Value.int .u64 x3), (Value.int .u64 x4), (nlV nl0)] 37))], 3, 2⟩))
abbrev qjv_ (rnd : Option Nat) (x0 : Int) (x1 : Int) (x2 : Int) (x3 : Int) (x4 : Int) (x5 : WL rw_iuuuuL) (x6 : Int) (st : Unit) (c : Ex × XSt) : Prop := CG P rnd (fnN P 9) 2 (qbi_ P 9 [false, false, true, false, true, true, false, false, true, false, false, true, false, true, false, false, true, false, false, true, false, true, true, true]) (qcw_ x0 x1 x2 x3 x4 x5 x6 st) c
abbrev qjw_ (rd : Option Nat) (x0 : Int) (x1 : Int) (x2 : Int) (x3 : Int) (x4 : Int) (x5 : WL rw_iuuuuL) (x6 : Int) (st : Unit) (r : Unit) : Prop := CG P rd (fnN P 9) 2 (qbi_ P 9 [false, true, false, true, true, false, false, true, false, false, true, false, true, false, false, true, false, false, true, false, true, true, true]) (qcw_ x0 x1 x2 x3 x4 x5 x6 st) (qbr_ x0 x1 x2 x3 x4 x5 x6 r)
def qcx_ (n : Nat) (x0 : Int) (x1 : Int) (x2 : Int) (x3 : Int) (x4 : Int) (x5 : WL rw_iuuuuL) (x6 : Int) (st : Unit) : Option ((Unit) ⊕ (Unit)) := match st with
 | _ =>
  some (.inr ())
def qdt_ (n : Nat) (x0 : Int) (x1 : Int) (x2 : Int) (x3 : Int) (x4 : Int) (x5 : WL rw_iuuuuL) (x6 : Int) (st : Unit) : Option (Unit) := iterM (qcx_ n x0 x1 x2 x3 x4 x5 x6) n st
theorem qfz_ (n : Nat) {rnd : Option Nat} (x0 : Int) (x1 : Int) (x2 : Int) (x3 : Int) (x4 : Int) (x5 : WL rw_iuuuuL) (x6 : Int) (st : Unit) (o : (Unit) ⊕ (Unit)) (h : qcx_ n x0 x1 x2 x3 x4 x5 x6 st = some o) : qjv_ rnd x0 x1 x2 x3 x4 x5 x6 st (Sum.elim (fun s => (.normal, qcw_ x0 x1 x2 x3 x4 x5 x6 s)) (fun r => qbr_ x0 x1 x2 x3 x4 x5 x6 r) o) := by
 unfold qcx_ at h
 dsimp only at h
 obtain rfl := oI h
 exact runC2 hm ⟨[0, 1, 5, 6, 7, 8, 9, 10, 11], (iD 3), 3, 2, [], true, [37], [], [11]⟩ (ee) (by kernel_rfl)
theorem qhy_ (n : Nat) {rnd : Option Nat} (x0 : Int) (x1 : Int) (x2 : Int) (x3 : Int) (x4 : Int) (x5 : WL rw_iuuuuL) (x6 : Int) (st : Unit) (r : Unit) (h : qdt_ n x0 x1 x2 x3 x4 x5 x6 st = some r) : qjw_ rnd x0 x1 x2 x3 x4 x5 x6 st r :=
 CG.iter (b := qbi_ P 9 [false, false, true, false, true, true, false, false, true, false, false, true, false, true, false, false, true, false, false, true, false, true, true, true]) (by kernel_rfl) (body := qcx_ n x0 x1 x2 x3 x4 x5 x6) (S := qcw_ x0 x1 x2 x3 x4 x5 x6) (X := qbr_ x0 x1 x2 x3 x4 x5 x6)
  (fun s s' h => qfz_ n x0 x1 x2 x3 x4 x5 x6 s (.inl s') h)
  (fun s r h => qfz_ n x0 x1 x2 x3 x4 x5 x6 s (.inr r) h)
  (fun r => by intro hx; cases hx) h
def qcy_ (x0 : Int) (x1 : Int) (x2 : Int) (x3 : Int) (x4 : Int) (x5 : NL) (x6 : WL rw_iuuuuL) (x7 : Int) (x8 : List R6) (x9 : Int) (x10 : Int) (x11 : Int) (x12 : Int) (x13 : Int) (x14 : Int) (x15 : NL) (st : List Int × Int) : XSt := match st with
 | (x16, x17) => (sT 72 [(0, (i6 x7)), (1, (sN 0 0 2 2)), (5, (sN 2 0 (x8).length (Nat.add big 6))), (6, (sN 3 0 1 (Nat.add big 1))), (7, (i6 (1 : Int))), (8, (i6 (1 : Int))), (9, (i6 x9)), (10, (pN 4 0)), (11, (slN x16 5)), (12, (i6 x17))], [], ⟨sB [(0, (cB [(sN 1 0 1 1), (wlV x6)] 23)), (1, (cB [(i6 x0), (Value.int .u64 x1), (Value.int .u64 x2), (Value.int .u64 x3), (Value.int .u64 x4), (nlV x5)] 37)), (2, (cB (rows rw_iuuuuL x8) 37)), (3, (cB [(i6 (0 : Int))] 3)), (4, (cB [(i6 x10), (Value.int .u64 x11), (Value.int .u64 x12), (Value.int .u64 x13), (Value.int .u64 x14), (nlV x15)] 37)), (5, (nblk x16 3))], 6, 2⟩)
def qbs_ (x0 : Int) (x1 : Int) (x2 : Int) (x3 : Int) (x4 : Int) (x5 : NL) (x6 : WL rw_iuuuuL) (x7 : Int) (x8 : List R6) (x9 : Int) (x10 : Int) (x11 : Int) (x12 : Int) (x13 : Int) (x14 : Int) (x15 : NL) (r : NL) : Ex × XSt := match r with
 | z0 => (.exit 4, (sT 72 [(0, (i6 x7)), (1, (sN 0 0 2 2)), (5, (sN 2 0 (x8).length (Nat.add big 6))), (6, (sN 3 0 1 (Nat.add big 1))), (7, (i6 (1 : Int))), (8, (i6 (1 : Int))), (9, (i6 x9)), (10, (pN 4 0)), (11, (nlV z0))], [], ⟨sB [(0, (cB [(sN 1 0 1 1), (wlV x6)] 23)), (1, (cB [(i6 x0), (Value.int .u64 x1), (Value.int .u64 x2), (Value.int .u64 x3), (Value.int .u64 x4), (nlV x5)] 37)), (2, (cB (rows rw_iuuuuL x8) 37)), (3, (cB [(i6 (0 : Int))] 3)), (4, (cB [(i6 x10), (Value.int .u64 x11), (Value.int .u64 x12), (Value.int .u64 x13), (Value.int .u64 x14), (nlV x15)] 37))], 5, 2⟩))
abbrev qjx_ (rnd : Option Nat) (x0 : Int) (x1 : Int) (x2 : Int) (x3 : Int) (x4 : Int) (x5 : NL) (x6 : WL rw_iuuuuL) (x7 : Int) (x8 : List R6) (x9 : Int) (x10 : Int) (x11 : Int) (x12 : Int) (x13 : Int) (x14 : Int) (x15 : NL) (st : List Int × Int) (c : Ex × XSt) : Prop := CG P rnd (fnN P 9) 2 (qbi_ P 9 [false, false, true, false, true, true, false, false, true, false, false, true, false, true, false, false, true, false, false, true, false, true, true, true]) (qcy_ x0 x1 x2 x3 x4 x5 x6 x7 x8 x9 x10 x11 x12 x13 x14 x15 st) c
abbrev qjy_ (rd : Option Nat) (x0 : Int) (x1 : Int) (x2 : Int) (x3 : Int) (x4 : Int) (x5 : NL) (x6 : WL rw_iuuuuL) (x7 : Int) (x8 : List R6) (x9 : Int) (x10 : Int) (x11 : Int) (x12 : Int) (x13 : Int) (x14 : Int) (x15 : NL) (st : List Int × Int) (r : NL) : Prop := CG P rd (fnN P 9) 2 (qbi_ P 9 [false, true, false, true, true, false, false, true, false, false, true, false, true, false, false, true, false, false, true, false, true, true, true]) (qcy_ x0 x1 x2 x3 x4 x5 x6 x7 x8 x9 x10 x11 x12 x13 x14 x15 st) (qbs_ x0 x1 x2 x3 x4 x5 x6 x7 x8 x9 x10 x11 x12 x13 x14 x15 r)
def q2_ (n : Nat) (x0 : Int) (x1 : Int) (x2 : Int) (x3 : Int) (x4 : Int) (x5 : NL) (x6 : WL rw_iuuuuL) (x7 : Int) (x8 : List R6) (x9 : Int) (x10 : Int) (x11 : Int) (x12 : Int) (x13 : Int) (x14 : Int) (x15 : NL) (st : List Int × Int) : Option ((List Int × Int) ⊕ (NL)) := match st with
 | (x16, x17) =>
  match x16 with
  | [] =>
   if x17 < (((x15).l.length : Nat) : Int) then
    if 0 ≤ x17 ∧ x17 < (((x15).l.length : Nat) : Int) then
     if (x17).toNat < ((x15).l).length then
      ((some (((x15).l).getD (x17).toNat 0))).bind fun y4_ =>
      some (.inl ([(w64 (y4_ + 1))], (w64 (x17 + 1))))
     else none
    else none
   else
    some (.inr nl0)
  | x16a :: x16t =>
   if x17 < (((x15).l.length : Nat) : Int) then
    if 0 ≤ x17 ∧ x17 < (((x15).l.length : Nat) : Int) then
     if (x17).toNat < ((x15).l).length then
      ((some (((x15).l).getD (x17).toNat 0))).bind fun y4_ =>
      if (((x16a :: x16t)).length + 1) * 8 ≤ 140737488355328 then
       some (.inl (((x16a :: x16t) ++ [(w64 (y4_ + 1))]), (w64 (x17 + 1))))
      else none
     else none
    else none
   else
    if hy2 : (x16a :: x16t).length ≤ 140737488355328 then
     some (.inr (frzL (x16a :: x16t) hy2))
    else none
def qdu_ (n : Nat) (x0 : Int) (x1 : Int) (x2 : Int) (x3 : Int) (x4 : Int) (x5 : NL) (x6 : WL rw_iuuuuL) (x7 : Int) (x8 : List R6) (x9 : Int) (x10 : Int) (x11 : Int) (x12 : Int) (x13 : Int) (x14 : Int) (x15 : NL) (st : List Int × Int) : Option (NL) := iterM (q2_ n x0 x1 x2 x3 x4 x5 x6 x7 x8 x9 x10 x11 x12 x13 x14 x15) n st
theorem qf0_ (n : Nat) {rnd : Option Nat} (x0 : Int) (x1 : Int) (x2 : Int) (x3 : Int) (x4 : Int) (x5 : NL) (x6 : WL rw_iuuuuL) (x7 : Int) (x8 : List R6) (x9 : Int) (x10 : Int) (x11 : Int) (x12 : Int) (x13 : Int) (x14 : Int) (x15 : NL) (st : List Int × Int) (o : (List Int × Int) ⊕ (NL)) (h : q2_ n x0 x1 x2 x3 x4 x5 x6 x7 x8 x9 x10 x11 x12 x13 x14 x15 st = some o) : qjx_ rnd x0 x1 x2 x3 x4 x5 x6 x7 x8 x9 x10 x11 x12 x13 x14 x15 st (Sum.elim (fun s => (.normal, qcy_ x0 x1 x2 x3 x4 x5 x6 x7 x8 x9 x10 x11 x12 x13 x14 x15 s)) (fun r => qbs_ x0 x1 x2 x3 x4 x5 x6 x7 x8 x9 x10 x11 x12 x13 x14 x15 r) o) := by
 obtain ⟨x16, x17⟩ := st
 unfold q2_ at h
 dsimp only at h
 cases x16 with
 | nil =>
  dsimp only at h
  by_cases hy1 : x17 < (((x15).l.length : Nat) : Int)
  ·rw [if_pos hy1] at h
   obtain ⟨hy2, h⟩ := gd h
   obtain ⟨hy3, h⟩ := gd h
   obtain ⟨y4_, hy4, h⟩ := oB h
   obtain rfl := oI h
   exact runC2 hm (kW [0, 1, 5, 6, 7, 8, 9, 10, 11, 12] [(0, 0, false), (1, 1, false), (2, 2, true), (3, 3, false), (4, 4, false), (5, 7, false)] 6 2) (zz 6 (xdT hy1) <|
    zz 14 (xk5 (Nat.add (x15).num 64) (x15).off (x15).cap hy2) <|
    zz 15 (nk6 hy4 hy3) <|
    ww (qa_ rwf_iuuuuL x8 37) <|
    ee) (by kernel_rfl)
  ·rw [if_neg hy1] at h
   obtain rfl := oI h
   exact runC2 hm ⟨[0, 1, 5, 6, 7, 8, 9, 10, 11], [(0, 0, false), (1, 1, false), (2, 2, true), (3, 3, false), (4, 4, false)], 5, 2, [], true, [], [], [11]⟩ (zz 6 (xdF hy1) <|
    ww (qa_ rwf_iuuuuL x8 37) <|
    ww (qa_ rwf_iuuuuL x8 37) <|
    ee) (by kernel_rfl)
 | cons x16a x16t =>
  dsimp only at h
  by_cases hy1 : x17 < (((x15).l.length : Nat) : Int)
  ·rw [if_pos hy1] at h
   obtain ⟨hy2, h⟩ := gd h
   obtain ⟨hy3, h⟩ := gd h
   obtain ⟨y4_, hy4, h⟩ := oB h
   obtain ⟨hy5, h⟩ := gd h
   obtain rfl := oI h
   exact runC2 hm (kW [0, 1, 5, 6, 7, 8, 9, 10, 11, 12] [(0, 0, false), (1, 1, false), (2, 2, true), (3, 3, false), (4, 4, false), (5, 7, true)] 6 2) (zz 6 (xdT hy1) <|
    zz 14 (xk5 (Nat.add (x15).num 64) (x15).off (x15).cap hy2) <|
    zz 15 (nk6 hy4 hy3) <|
    yy 19 (.app ⟨none, iv (x16a :: x16t), (iv ((x16a :: x16t) ++ [(w64 (y4_ + 1))])), (((x16a :: x16t) ++ [(w64 (y4_ + 1))])).length, false⟩) <|
    ww (p := 0 < 1) ((by decide)) <|
    ww (p := rdT (layT (iv (x16a :: x16t))) (Nat.mul ((x16a :: x16t)).length 1) 0 = some (iv (x16a :: x16t))) (iv_rd _) <|
    ww (p := fits (Nat.add ((x16a :: x16t)).length 1) 8 = true) (fits_ok hy5 (by have := hy5; show (_ : Nat) + _ ≤ _; omega)) <|
    ww (p := ql_ [(i6 (w64 (y4_ + 1)))] = true) (rfl) <|
    ww (p := ql_ (iv (x16a :: x16t)) = true) (qhm_ _) <|
    ww (p := iv (x16a :: x16t) ++ [(i6 (w64 (y4_ + 1)))] = (iv ((x16a :: x16t) ++ [(w64 (y4_ + 1))]))) (by simp [iv]) <|
    ww (p := Nat.add ((x16a :: x16t)).length 1 = (((x16a :: x16t) ++ [(w64 (y4_ + 1))])).length) (by simp) <|
    ww (qa_ rwf_iuuuuL x8 37) <|
    ww (qdh_ ((x16a :: x16t) ++ [(w64 (y4_ + 1))]) 3) <|
    ee) (by kernel_rfl)
  ·rw [if_neg hy1] at h
   obtain ⟨hy2, h⟩ := gdD h
   obtain rfl := oI h
   exact runC2 hm ⟨[0, 1, 5, 6, 7, 8, 9, 10, 11], [(0, 0, false), (1, 1, false), (2, 2, true), (3, 3, false), (4, 4, false)], 5, 2, [(5, Nat.add (2 * cod (x16a :: x16t) + 1) 64)], true, [], [], []⟩ (zz 6 (xdF hy1) <|
    ww (qa_ rwf_iuuuuL x8 37) <|
    ww (qmz_ qbx_ qd4_ (x16a :: x16t)) <|
    ww (qa_ rwf_iuuuuL x8 37) <|
    ee) (by kernel_rfl)
theorem qhz_ (n : Nat) {rnd : Option Nat} (x0 : Int) (x1 : Int) (x2 : Int) (x3 : Int) (x4 : Int) (x5 : NL) (x6 : WL rw_iuuuuL) (x7 : Int) (x8 : List R6) (x9 : Int) (x10 : Int) (x11 : Int) (x12 : Int) (x13 : Int) (x14 : Int) (x15 : NL) (st : List Int × Int) (r : NL) (h : qdu_ n x0 x1 x2 x3 x4 x5 x6 x7 x8 x9 x10 x11 x12 x13 x14 x15 st = some r) : qjy_ rnd x0 x1 x2 x3 x4 x5 x6 x7 x8 x9 x10 x11 x12 x13 x14 x15 st r :=
 CG.iter (b := qbi_ P 9 [false, false, true, false, true, true, false, false, true, false, false, true, false, true, false, false, true, false, false, true, false, true, true, true]) (by kernel_rfl) (body := q2_ n x0 x1 x2 x3 x4 x5 x6 x7 x8 x9 x10 x11 x12 x13 x14 x15) (S := qcy_ x0 x1 x2 x3 x4 x5 x6 x7 x8 x9 x10 x11 x12 x13 x14 x15) (X := qbs_ x0 x1 x2 x3 x4 x5 x6 x7 x8 x9 x10 x11 x12 x13 x14 x15)
  (fun s s' h => qf0_ n x0 x1 x2 x3 x4 x5 x6 x7 x8 x9 x10 x11 x12 x13 x14 x15 s (.inl s') h)
  (fun s r h => qf0_ n x0 x1 x2 x3 x4 x5 x6 x7 x8 x9 x10 x11 x12 x13 x14 x15 s (.inr r) h)
  (fun r => by intro hx; cases hx) h
def qcz_ (x0 : Int) (x1 : Int) (x2 : Int) (x3 : Int) (x4 : Int) (x5 : NL) (x6 : WL rw_iuuuuL) (x7 : Int) (st : List R6 × Int) : XSt := match st with
 | (x8, x9) => (sT 72 [(0, (i6 x7)), (1, (sN 0 0 2 2)), (5, (sN 2 0 (x8).length (Nat.add big 6))), (6, (sN 3 0 1 (Nat.add big 1))), (7, (i6 (1 : Int))), (8, (i6 (1 : Int))), (9, (i6 x9))], [], ⟨sB [(0, (cB [(sN 1 0 1 1), (wlV x6)] 23)), (1, (cB [(i6 x0), (Value.int .u64 x1), (Value.int .u64 x2), (Value.int .u64 x3), (Value.int .u64 x4), (nlV x5)] 37)), (2, (cB (rows rw_iuuuuL x8) 37)), (3, (cB [(i6 (0 : Int))] 3))], 4, 2⟩)
def qbt_ (x0 : Int) (x1 : Int) (x2 : Int) (x3 : Int) (x4 : Int) (x5 : NL) (x6 : WL rw_iuuuuL) (x7 : Int) (r : List R6) : Ex × XSt := match r with
 | z0 => (.exit 2, (sT 72 [(0, (i6 x7)), (1, (sN 0 0 2 2)), (5, (sN 2 0 (z0).length (Nat.add big 6))), (6, (sN 3 0 1 (Nat.add big 1))), (7, (i6 (1 : Int)))], [], ⟨sB [(0, (cB [(sN 1 0 1 1), (wlV x6)] 23)), (1, (cB [(i6 x0), (Value.int .u64 x1), (Value.int .u64 x2), (Value.int .u64 x3), (Value.int .u64 x4), (nlV x5)] 37)), (2, (cB (rows rw_iuuuuL z0) 37)), (3, (cB [(i6 (0 : Int))] 3))], 4, 2⟩))
abbrev qjz_ (rnd : Option Nat) (x0 : Int) (x1 : Int) (x2 : Int) (x3 : Int) (x4 : Int) (x5 : NL) (x6 : WL rw_iuuuuL) (x7 : Int) (st : List R6 × Int) (c : Ex × XSt) : Prop := CG P rnd (fnN P 9) 2 (qbi_ P 9 [false, false, true, false, true, false, false, true, false, false, true, false, true, true, true]) (qcz_ x0 x1 x2 x3 x4 x5 x6 x7 st) c
abbrev qj0_ (rd : Option Nat) (x0 : Int) (x1 : Int) (x2 : Int) (x3 : Int) (x4 : Int) (x5 : NL) (x6 : WL rw_iuuuuL) (x7 : Int) (st : List R6 × Int) (r : List R6) : Prop := CG P rd (fnN P 9) 2 (qbi_ P 9 [false, true, false, true, false, false, true, false, false, true, false, true, true, true]) (qcz_ x0 x1 x2 x3 x4 x5 x6 x7 st) (qbt_ x0 x1 x2 x3 x4 x5 x6 x7 r)
def qbe_ (n : Nat) (x0 : Int) (x1 : Int) (x2 : Int) (x3 : Int) (x4 : Int) (x5 : NL) (x6 : WL rw_iuuuuL) (x7 : Int) (st : List R6 × Int) : Option ((List R6 × Int) ⊕ (List R6)) := match st with
 | (x8, x9) =>
  if x9 < (((x6).l.length : Nat) : Int) then
   if 0 ≤ x9 ∧ x9 < (((x6).l.length : Nat) : Int) then
    ((some (((x6).l).getD (x9).toNat (0, 0, 0, 0, 0, nl0)))).bind fun y3_ =>
    (qdu_ n x0 x1 x2 x3 x4 x5 x6 x7 x8 x9 (y3_.1) (y3_.2.1) (y3_.2.2.1) (y3_.2.2.2.1) (y3_.2.2.2.2.1) (y3_.2.2.2.2.2) (([] : List Int), 0)).bind fun y4_ =>
    if ((x8).length + 1) * 64 ≤ 140737488355328 then
     some (.inl ((x8 ++ [((y3_.1), (y3_.2.1), (y3_.2.2.1), (y3_.2.2.2.1), (y3_.2.2.2.2.1), y4_)]), (w64 (x9 + 1))))
    else none
   else none
  else
   some (.inr x8)
def qdv_ (n : Nat) (x0 : Int) (x1 : Int) (x2 : Int) (x3 : Int) (x4 : Int) (x5 : NL) (x6 : WL rw_iuuuuL) (x7 : Int) (st : List R6 × Int) : Option (List R6) := iterM (qbe_ n x0 x1 x2 x3 x4 x5 x6 x7) n st
theorem qf1_ (n : Nat) {rnd : Option Nat} (x0 : Int) (x1 : Int) (x2 : Int) (x3 : Int) (x4 : Int) (x5 : NL) (x6 : WL rw_iuuuuL) (x7 : Int) (st : List R6 × Int) (o : (List R6 × Int) ⊕ (List R6)) (h : qbe_ n x0 x1 x2 x3 x4 x5 x6 x7 st = some o) : qjz_ rnd x0 x1 x2 x3 x4 x5 x6 x7 st (Sum.elim (fun s => (.normal, qcz_ x0 x1 x2 x3 x4 x5 x6 x7 s)) (fun r => qbt_ x0 x1 x2 x3 x4 x5 x6 x7 r) o) := by
 obtain ⟨x8, x9⟩ := st
 unfold qbe_ at h
 dsimp only at h
 by_cases hy1 : x9 < (((x6).l.length : Nat) : Int)
 ·rw [if_pos hy1] at h
  obtain ⟨hy2, h⟩ := gd h
  obtain ⟨y3_, hy3, h⟩ := oB h
  obtain ⟨y4_, hy4, h⟩ := oB h
  obtain ⟨hy5, h⟩ := gd h
  obtain rfl := oI h
  exact runC2 hm (kW [0, 1, 5, 6, 7, 8, 9] [(0, 0, false), (1, 1, false), (2, 6, true), (3, 3, false)] 4 2) (zz 8 (xdT hy1) <|
   zz 18 (xk1 (x6).num (x6).off (x6).cap hy2) <|
   zz 19 (lk4 hy3 (qkg_ hy2)) <|
   ww (qhz_ n (rnd := rnd) x0 x1 x2 x3 x4 x5 x6 x7 x8 x9 (y3_.1) (y3_.2.1) (y3_.2.2.1) (y3_.2.2.2.1) (y3_.2.2.2.2.1) (y3_.2.2.2.2.2) (([] : List Int), 0) y4_ hy4) <|
   ww (qa_ rwf_iuuuuL x8 37) <|
   ll 28 ⟨(kW [0, 1, 5, 6, 7, 8, 9, 10, 11, 12] [(0, 0, false), (1, 1, false), (2, 2, true), (3, 3, false), (4, 4, false)] 6 2), (qbs_ x0 x1 x2 x3 x4 x5 x6 x7 x8 x9 (y3_.1) (y3_.2.1) (y3_.2.2.1) (y3_.2.2.2.1) (y3_.2.2.2.2.1) (y3_.2.2.2.2.2) y4_).1, (qbs_ x0 x1 x2 x3 x4 x5 x6 x7 x8 x9 (y3_.1) (y3_.2.1) (y3_.2.2.1) (y3_.2.2.2.1) (y3_.2.2.2.2.1) (y3_.2.2.2.2.2) y4_).2⟩ <|
   yy 36 (.app ⟨none, rows rw_iuuuuL x8, (rows rw_iuuuuL (x8 ++ [((y3_.1), (y3_.2.1), (y3_.2.2.1), (y3_.2.2.2.1), (y3_.2.2.2.2.1), y4_)])), ((x8 ++ [((y3_.1), (y3_.2.1), (y3_.2.2.1), (y3_.2.2.2.1), (y3_.2.2.2.2.1), y4_)])).length, false⟩) <|
   ww (p := 0 < 1) ((by decide)) <|
   ww (p := rdT (layT (rows rw_iuuuuL x8)) (Nat.mul (x8).length 6) 0 = some (rows rw_iuuuuL x8)) (qly_ rwf_iuuuuL _ _ rfl) <|
   ww (p := fits (Nat.add (x8).length 1) 64 = true) (fits_ok hy5 (by have := hy5; show (_ : Nat) + _ ≤ _; omega)) <|
   ww (p := ql_ [(i6 (y3_.1)), (Value.int .u64 (y3_.2.1)), (Value.int .u64 (y3_.2.2.1)), (Value.int .u64 (y3_.2.2.2.1)), (Value.int .u64 (y3_.2.2.2.2.1)), (nlV y4_)] = true) (rfl) <|
   ww (p := ql_ (rows rw_iuuuuL x8) = true) (qel_ rwf_iuuuuL _) <|
   ww (p := rows rw_iuuuuL x8 ++ [(i6 (y3_.1)), (Value.int .u64 (y3_.2.1)), (Value.int .u64 (y3_.2.2.1)), (Value.int .u64 (y3_.2.2.2.1)), (Value.int .u64 (y3_.2.2.2.2.1)), (nlV y4_)] = (rows rw_iuuuuL (x8 ++ [((y3_.1), (y3_.2.1), (y3_.2.2.1), (y3_.2.2.2.1), (y3_.2.2.2.2.1), y4_)]))) (qiq_ rw_iuuuuL x8 [((y3_.1), (y3_.2.1), (y3_.2.2.1), (y3_.2.2.2.1), (y3_.2.2.2.2.1), y4_)]) <|
   ww (p := Nat.add (x8).length 1 = ((x8 ++ [((y3_.1), (y3_.2.1), (y3_.2.2.1), (y3_.2.2.2.1), (y3_.2.2.2.2.1), y4_)])).length) (by simp) <|
   ww (qa_ rwf_iuuuuL (x8 ++ [((y3_.1), (y3_.2.1), (y3_.2.2.1), (y3_.2.2.2.1), (y3_.2.2.2.2.1), y4_)]) 37) <|
   ee) (by kernel_rfl)
 ·rw [if_neg hy1] at h
  obtain rfl := oI h
  exact runC2 hm (kW [0, 1, 5, 6, 7] [(0, 0, false), (1, 1, false), (2, 2, true), (3, 3, false)] 4 2) (zz 8 (xdF hy1) <|
   ww (qa_ rwf_iuuuuL x8 37) <|
   ee) (by kernel_rfl)
theorem qh0_ (n : Nat) {rnd : Option Nat} (x0 : Int) (x1 : Int) (x2 : Int) (x3 : Int) (x4 : Int) (x5 : NL) (x6 : WL rw_iuuuuL) (x7 : Int) (st : List R6 × Int) (r : List R6) (h : qdv_ n x0 x1 x2 x3 x4 x5 x6 x7 st = some r) : qj0_ rnd x0 x1 x2 x3 x4 x5 x6 x7 st r :=
 CG.iter (b := qbi_ P 9 [false, false, true, false, true, false, false, true, false, false, true, false, true, true, true]) (by kernel_rfl) (body := qbe_ n x0 x1 x2 x3 x4 x5 x6 x7) (S := qcz_ x0 x1 x2 x3 x4 x5 x6 x7) (X := qbt_ x0 x1 x2 x3 x4 x5 x6 x7)
  (fun s s' h => qf1_ n x0 x1 x2 x3 x4 x5 x6 x7 s (.inl s') h)
  (fun s r h => qf1_ n x0 x1 x2 x3 x4 x5 x6 x7 s (.inr r) h)
  (fun r => by intro hx; cases hx) h
def qj1_ (x0 : Int) (x1 : Int) (x2 : Int) (x3 : Int) (x4 : Int) (x5 : NL) (x6 : WL rw_iuuuuL) (x7 : Int) (x8 : List R6) (x9 : NL) (st : Unit) : XSt := (sT 72 [(0, (i6 x7)), (5, (sN 2 0 (x8).length (Nat.add big 6))), (6, (nlV x9))], [], ⟨sB [(0, (cB [(sN 1 0 1 1), (wlV x6)] 23)), (1, (cB [(i6 x0), (Value.int .u64 x1), (Value.int .u64 x2), (Value.int .u64 x3), (Value.int .u64 x4), (nlV x5)] 37)), (2, (cB (rows rw_iuuuuL x8) 37))], 3, 2⟩)
def qdw_ (x0 : Int) (x1 : Int) (x2 : Int) (x3 : Int) (x4 : Int) (x5 : NL) (x6 : WL rw_iuuuuL) (x7 : Int) (x8 : List R6) (x9 : NL) (r : WL rw_iuuuuL) : Ex × XSt := match r with
 | z0 => (.ret, (sT 72 [(4, (wlV z0))], [], ⟨sB [(0, (cB [(sN 1 0 1 1), (wlV x6)] 23)), (1, (cB [(i6 x0), (Value.int .u64 x1), (Value.int .u64 x2), (Value.int .u64 x3), (Value.int .u64 x4), (nlV x5)] 37))], 2, 2⟩))
abbrev qj2_ (rd : Option Nat) (x0 : Int) (x1 : Int) (x2 : Int) (x3 : Int) (x4 : Int) (x5 : NL) (x6 : WL rw_iuuuuL) (x7 : Int) (x8 : List R6) (x9 : NL) (st : Unit) (r : WL rw_iuuuuL) : Prop := CG P rd (fnN P 9) 2 (qbi_ P 9 [true, true, true, true]) (qj1_ x0 x1 x2 x3 x4 x5 x6 x7 x8 x9 st) (qdw_ x0 x1 x2 x3 x4 x5 x6 x7 x8 x9 r)
def qc0_ (n : Nat) (x0 : Int) (x1 : Int) (x2 : Int) (x3 : Int) (x4 : Int) (x5 : NL) (x6 : WL rw_iuuuuL) (x7 : Int) (x8 : List R6) (x9 : NL) (st : Unit) : Option (WL rw_iuuuuL) :=
 if ((x8).length + 1) * 64 ≤ 140737488355328 then
  if hy2 : (x8 ++ [(x7, (0 : Int), (0 : Int), (0 : Int), (0 : Int), x9)]).length ≤ 9223372036854775807 then
   some (frzR qdi_ (x8 ++ [(x7, (0 : Int), (0 : Int), (0 : Int), (0 : Int), x9)]) hy2)
  else none
 else none
theorem qh1_ (n : Nat) {rnd : Option Nat} (x0 : Int) (x1 : Int) (x2 : Int) (x3 : Int) (x4 : Int) (x5 : NL) (x6 : WL rw_iuuuuL) (x7 : Int) (x8 : List R6) (x9 : NL) (st : Unit) (r : WL rw_iuuuuL) (h : qc0_ n x0 x1 x2 x3 x4 x5 x6 x7 x8 x9 st = some r) : qj2_ rnd x0 x1 x2 x3 x4 x5 x6 x7 x8 x9 st r := by
 unfold qc0_ at h
 obtain ⟨hy1, h⟩ := gd h
 obtain ⟨hy2, h⟩ := gdD h
 obtain rfl := oI h
 exact runC2 hm ⟨[4], (iD 2), 2, 2, [(4, Nat.add (2 * codL (rows rw_iuuuuL (x8 ++ [(x7, (0 : Int), (0 : Int), (0 : Int), (0 : Int), x9)])) + 1) 64)], true, [], [], []⟩ (yy 6 (.app ⟨none, rows rw_iuuuuL x8, (rows rw_iuuuuL (x8 ++ [(x7, (0 : Int), (0 : Int), (0 : Int), (0 : Int), x9)])), ((x8 ++ [(x7, (0 : Int), (0 : Int), (0 : Int), (0 : Int), x9)])).length, false⟩) <|
  ww (p := 0 < 1) ((by decide)) <|
  ww (p := rdT (layT (rows rw_iuuuuL x8)) (Nat.mul (x8).length 6) 0 = some (rows rw_iuuuuL x8)) (qly_ rwf_iuuuuL _ _ rfl) <|
  ww (p := fits (Nat.add (x8).length 1) 64 = true) (fits_ok hy1 (by have := hy1; show (_ : Nat) + _ ≤ _; omega)) <|
  ww (p := ql_ [(i6 x7), (Value.int .u64 (0 : Int)), (Value.int .u64 (0 : Int)), (Value.int .u64 (0 : Int)), (Value.int .u64 (0 : Int)), (nlV x9)] = true) (rfl) <|
  ww (p := ql_ (rows rw_iuuuuL x8) = true) (qel_ rwf_iuuuuL _) <|
  ww (p := rows rw_iuuuuL x8 ++ [(i6 x7), (Value.int .u64 (0 : Int)), (Value.int .u64 (0 : Int)), (Value.int .u64 (0 : Int)), (Value.int .u64 (0 : Int)), (nlV x9)] = (rows rw_iuuuuL (x8 ++ [(x7, (0 : Int), (0 : Int), (0 : Int), (0 : Int), x9)]))) (qiq_ rw_iuuuuL x8 [(x7, (0 : Int), (0 : Int), (0 : Int), (0 : Int), x9)]) <|
  ww (p := Nat.add (x8).length 1 = ((x8 ++ [(x7, (0 : Int), (0 : Int), (0 : Int), (0 : Int), x9)])).length) (by simp) <|
  ww (frz_okR qbx_ qd4_ qdi_ (x8 ++ [(x7, (0 : Int), (0 : Int), (0 : Int), (0 : Int), x9)])) <|
  ee) (by kernel_rfl)
def qf_ (n : Nat) (a0 : Int) (a1 : Int) (a2 : Int) (a3 : Int) (a4 : Int) (a5 : Int) (a6 : WL rw_iuuuuL) : Option (WL rw_iuuuuL) :=
 (qdt_ n a1 a2 a3 a4 a5 a6 a0 ()).bind fun _ =>
 (qdv_ n a1 a2 a3 a4 a5 nl0 a6 a0 ([(a1, a2, a3, a4, a5, nl0)], 0)).bind fun c2_ =>
 ((some (w64 ((((c2_).length : Nat) : Int) - 1)))).bind fun c3_ =>
 if hc4 : [(0 : Int), c3_].length ≤ 140737488355328 then
  (qc0_ n a1 a2 a3 a4 a5 nl0 a6 a0 c2_ (frzL [(0 : Int), c3_] hc4) ()).bind fun c5_ =>
  some c5_
 else none
theorem qg_ (n : Nat) (a0 : Int) (a1 : Int) (a2 : Int) (a3 : Int) (a4 : Int) (a5 : Int) (a6 : WL rw_iuuuuL) (r : WL rw_iuuuuL) (h : qf_ n a0 a1 a2 a3 a4 a5 a6 = some r) : qkp_ a0 a1 a2 a3 a4 a5 a6 r := by
 unfold qf_ at h
 obtain ⟨_, hc1, h⟩ := oB h
 obtain ⟨c2_, hc2, h⟩ := oB h
 obtain ⟨c3_, hc3, h⟩ := oB h
 obtain ⟨hc4, h⟩ := gdD h
 replace h := oB h
 obtain ⟨c5_, hc5, h⟩ := h
 obtain rfl := oI h
 exact runF2 hm (kW [4] [] 2 2) (ww (qhy_ n (rnd := none) a1 a2 a3 a4 a5 a6 a0 () () hc1) <|
  ll 57 ⟨(kW [0, 1, 5, 6, 7, 8, 9, 10, 11, 12] (iD 3) 3 2), (qbr_ a1 a2 a3 a4 a5 a6 a0 ()).1, (qbr_ a1 a2 a3 a4 a5 a6 a0 ()).2⟩ <|
  ww (qh0_ n (rnd := none) a1 a2 a3 a4 a5 nl0 a6 a0 ([(a1, a2, a3, a4, a5, nl0)], 0) c2_ hc2) <|
  ll 109 ⟨(kW [0, 1, 5, 6, 7, 8, 9] [(0, 0, false), (1, 1, false), (2, 4, false), (3, 6, false)] 4 2), (qbt_ a1 a2 a3 a4 a5 nl0 a6 a0 c2_).1, (qbt_ a1 a2 a3 a4 a5 nl0 a6 a0 c2_).2⟩ <|
  zz 113 (xnm hc3) <|
  ww (qh1_ n (rnd := none) a1 a2 a3 a4 a5 nl0 a6 a0 c2_ (frzL [(0 : Int), c3_] hc4) () c5_ hc5) <|
  ww (qa_ rwf_iuuuuL c2_ 37) <|
  ww (qmz_ qbx_ qd4_ [(0 : Int), c3_]) <|
  ww (qa_ rwf_iuuuuL c2_ 37) <|
  ll 128 ⟨⟨[0, 5, 6], [(0, 0, false), (1, 1, false), (2, 2, true)], 3, 2, [(5, Nat.add (2 * cod [(0 : Int), c3_] + 1) 64)], true, [], [], []⟩, (qdw_ a1 a2 a3 a4 a5 nl0 a6 a0 c2_ (frzL [(0 : Int), c3_] hc4) c5_).1, (qdw_ a1 a2 a3 a4 a5 nl0 a6 a0 c2_ (frzL [(0 : Int), c3_] hc4) c5_).2⟩ <|
  ee) (by kernel_rfl)

def qf6_ (g2 : ByteArray) : List Value := [(wlV wA), (wlV wB), (Value.string g2)]
def qka_ (g2 : ByteArray) (r : Unit) : Value := match r with
 | _ => (bO true)
def qkb_ (g2 : ByteArray) (r : Unit) : AH := match r with
 | _ => ⟨sB [], 0, 0⟩
abbrev qkc_ (g2 : ByteArray) (r : Unit) : Prop := Gv P (.func 4) (qf6_ g2) ⟨sB [], 0, 0⟩ (qka_ g2 r) (qkb_ g2 r)
def qc4_ (n : Nat) (g2 : ByteArray) : Option (Unit) :=
 (qff_ n).bind fun _ =>
 (qbj_ n wA 25).bind fun c2_ =>
 if c2_ = true then
  (qbj_ n wB 25).bind fun c4_ =>
  if c4_ = true then
   if (((g2).size : Nat) : Int) > 8 then
    some ()
   else
    (qd5_ n wA).bind fun c7_ =>
    if c7_ = 0 then
     (qd5_ n wB).bind fun c9_ =>
     if c9_ = 0 then
      (qi_ n 5 wA).bind fun c11_ =>
      (qd_ n c11_ g2).bind fun c12_ =>
      (qi_ n 5 c11_).bind fun c13_ =>
      (qd_ n c13_ g2).bind fun c14_ =>
      if c14_ = true then
       if c12_ = true then
        (qj_ n 3 wA c11_).bind fun c17_ =>
        (qd_ n c17_ g2).bind fun c18_ =>
        (qi_ n 6 wA).bind fun c19_ =>
        (qd_ n c19_ g2).bind fun c20_ =>
        if c18_ = true then
         if c20_ = true then
          (qi_ n 6 wA).bind fun c23_ =>
          (qi_ n 7 c23_).bind fun c24_ =>
          (qd_ n c24_ g2).bind fun c25_ =>
          if c25_ = true then
           (qj_ n 4 wA wB).bind fun c27_ =>
           (qd_ n c27_ g2).bind fun c28_ =>
           (qj_ n 4 wB wA).bind fun c29_ =>
           (qd_ n c29_ g2).bind fun c30_ =>
           if c28_ = true then
            if c30_ = true then
             (qf_ n 3 1 0 0 0 0 wA).bind fun c33_ =>
             (qd_ n c33_ g2).bind fun c34_ =>
             (qd_ n wA g2).bind fun c35_ =>
             if c34_ = true then
              if c35_ = true then
               (qf_ n 3 2 0 0 0 0 wA).bind fun c38_ =>
               (qd_ n c38_ g2).bind fun c39_ =>
               if c39_ = true then
                none
               else
                some ()
              else
               none
             else
              if c35_ = true then
               none
              else
               (qf_ n 3 2 0 0 0 0 wA).bind fun c38_ =>
               (qd_ n c38_ g2).bind fun c39_ =>
               if c39_ = true then
                none
               else
                some ()
            else
             none
           else
            if c30_ = true then
             none
            else
             (qf_ n 3 1 0 0 0 0 wA).bind fun c33_ =>
             (qd_ n c33_ g2).bind fun c34_ =>
             (qd_ n wA g2).bind fun c35_ =>
             if c34_ = true then
              if c35_ = true then
               (qf_ n 3 2 0 0 0 0 wA).bind fun c38_ =>
               (qd_ n c38_ g2).bind fun c39_ =>
               if c39_ = true then
                none
               else
                some ()
              else
               none
             else
              if c35_ = true then
               none
              else
               (qf_ n 3 2 0 0 0 0 wA).bind fun c38_ =>
               (qd_ n c38_ g2).bind fun c39_ =>
               if c39_ = true then
                none
               else
                some ()
          else
           none
         else
          none
        else
         if c20_ = true then
          none
         else
          (qi_ n 6 wA).bind fun c23_ =>
          (qi_ n 7 c23_).bind fun c24_ =>
          (qd_ n c24_ g2).bind fun c25_ =>
          if c25_ = true then
           (qj_ n 4 wA wB).bind fun c27_ =>
           (qd_ n c27_ g2).bind fun c28_ =>
           (qj_ n 4 wB wA).bind fun c29_ =>
           (qd_ n c29_ g2).bind fun c30_ =>
           if c28_ = true then
            if c30_ = true then
             (qf_ n 3 1 0 0 0 0 wA).bind fun c33_ =>
             (qd_ n c33_ g2).bind fun c34_ =>
             (qd_ n wA g2).bind fun c35_ =>
             if c34_ = true then
              if c35_ = true then
               (qf_ n 3 2 0 0 0 0 wA).bind fun c38_ =>
               (qd_ n c38_ g2).bind fun c39_ =>
               if c39_ = true then
                none
               else
                some ()
              else
               none
             else
              if c35_ = true then
               none
              else
               (qf_ n 3 2 0 0 0 0 wA).bind fun c38_ =>
               (qd_ n c38_ g2).bind fun c39_ =>
               if c39_ = true then
                none
               else
                some ()
            else
             none
           else
            if c30_ = true then
             none
            else
             (qf_ n 3 1 0 0 0 0 wA).bind fun c33_ =>
             (qd_ n c33_ g2).bind fun c34_ =>
             (qd_ n wA g2).bind fun c35_ =>
             if c34_ = true then
              if c35_ = true then
               (qf_ n 3 2 0 0 0 0 wA).bind fun c38_ =>
               (qd_ n c38_ g2).bind fun c39_ =>
               if c39_ = true then
                none
               else
                some ()
              else
               none
             else
              if c35_ = true then
               none
              else
               (qf_ n 3 2 0 0 0 0 wA).bind fun c38_ =>
               (qd_ n c38_ g2).bind fun c39_ =>
               if c39_ = true then
                none
               else
                some ()
          else
           none
       else
        none
      else
       if c12_ = true then
        none
       else
        (qj_ n 3 wA c11_).bind fun c17_ =>
        (qd_ n c17_ g2).bind fun c18_ =>
        (qi_ n 6 wA).bind fun c19_ =>
        (qd_ n c19_ g2).bind fun c20_ =>
        if c18_ = true then
         if c20_ = true then
          (qi_ n 6 wA).bind fun c23_ =>
          (qi_ n 7 c23_).bind fun c24_ =>
          (qd_ n c24_ g2).bind fun c25_ =>
          if c25_ = true then
           none
          else
           (qj_ n 4 wA wB).bind fun c27_ =>
           (qd_ n c27_ g2).bind fun c28_ =>
           (qj_ n 4 wB wA).bind fun c29_ =>
           (qd_ n c29_ g2).bind fun c30_ =>
           if c28_ = true then
            if c30_ = true then
             (qf_ n 3 1 0 0 0 0 wA).bind fun c33_ =>
             (qd_ n c33_ g2).bind fun c34_ =>
             (qd_ n wA g2).bind fun c35_ =>
             if c34_ = true then
              if c35_ = true then
               (qf_ n 3 2 0 0 0 0 wA).bind fun c38_ =>
               (qd_ n c38_ g2).bind fun c39_ =>
               if c39_ = true then
                none
               else
                some ()
              else
               none
             else
              if c35_ = true then
               none
              else
               (qf_ n 3 2 0 0 0 0 wA).bind fun c38_ =>
               (qd_ n c38_ g2).bind fun c39_ =>
               if c39_ = true then
                none
               else
                some ()
            else
             none
           else
            if c30_ = true then
             none
            else
             (qf_ n 3 1 0 0 0 0 wA).bind fun c33_ =>
             (qd_ n c33_ g2).bind fun c34_ =>
             (qd_ n wA g2).bind fun c35_ =>
             if c34_ = true then
              if c35_ = true then
               (qf_ n 3 2 0 0 0 0 wA).bind fun c38_ =>
               (qd_ n c38_ g2).bind fun c39_ =>
               if c39_ = true then
                none
               else
                some ()
              else
               none
             else
              if c35_ = true then
               none
              else
               (qf_ n 3 2 0 0 0 0 wA).bind fun c38_ =>
               (qd_ n c38_ g2).bind fun c39_ =>
               if c39_ = true then
                none
               else
                some ()
         else
          none
        else
         if c20_ = true then
          none
         else
          (qi_ n 6 wA).bind fun c23_ =>
          (qi_ n 7 c23_).bind fun c24_ =>
          (qd_ n c24_ g2).bind fun c25_ =>
          if c25_ = true then
           none
          else
           (qj_ n 4 wA wB).bind fun c27_ =>
           (qd_ n c27_ g2).bind fun c28_ =>
           (qj_ n 4 wB wA).bind fun c29_ =>
           (qd_ n c29_ g2).bind fun c30_ =>
           if c28_ = true then
            if c30_ = true then
             (qf_ n 3 1 0 0 0 0 wA).bind fun c33_ =>
             (qd_ n c33_ g2).bind fun c34_ =>
             (qd_ n wA g2).bind fun c35_ =>
             if c34_ = true then
              if c35_ = true then
               (qf_ n 3 2 0 0 0 0 wA).bind fun c38_ =>
               (qd_ n c38_ g2).bind fun c39_ =>
               if c39_ = true then
                none
               else
                some ()
              else
               none
             else
              if c35_ = true then
               none
              else
               (qf_ n 3 2 0 0 0 0 wA).bind fun c38_ =>
               (qd_ n c38_ g2).bind fun c39_ =>
               if c39_ = true then
                none
               else
                some ()
            else
             none
           else
            if c30_ = true then
             none
            else
             (qf_ n 3 1 0 0 0 0 wA).bind fun c33_ =>
             (qd_ n c33_ g2).bind fun c34_ =>
             (qd_ n wA g2).bind fun c35_ =>
             if c34_ = true then
              if c35_ = true then
               (qf_ n 3 2 0 0 0 0 wA).bind fun c38_ =>
               (qd_ n c38_ g2).bind fun c39_ =>
               if c39_ = true then
                none
               else
                some ()
              else
               none
             else
              if c35_ = true then
               none
              else
               (qf_ n 3 2 0 0 0 0 wA).bind fun c38_ =>
               (qd_ n c38_ g2).bind fun c39_ =>
               if c39_ = true then
                none
               else
                some ()
     else
      some ()
    else
     some ()
  else
   some ()
 else
  some ()
theorem qh9_ (n : Nat) (g2 : ByteArray) (r : Unit) (h : qc4_ n g2 = some r) : qkc_ g2 r := by
 unfold qc4_ at h
 obtain ⟨_, hc1, h⟩ := oB h
 obtain ⟨c2_, hc2, h⟩ := oB h
 have k0 := fun {A L l} (k : PL A L l) => yy 4 (.call ⟨0, [], (Value.bool true), Ax.h0, []⟩) <|
  ww (qki_ n  () hc1) <|
  yy 10 (.call (qfl_ wA 25 c2_ [] [])) <|
  ww (qem_ n wA 25 c2_ hc2) <|
  k
 by_cases hc3 : c2_ = true
 ·rw [if_pos hc3] at h
  obtain ⟨c4_, hc4, h⟩ := oB h
  have k4 := fun {A L l} (k : PL A L l) => yy 11 (vf) <|
   ww (p := (Value.bool (!c2_)) = (Value.bool false)) (vBn hc3) <|
   yy 14 (.call (qfl_ wB 25 c4_ [] [])) <|
   ww (qem_ n wB 25 c4_ hc4) <|
   k
  by_cases hc5 : c4_ = true
  ·rw [if_pos hc5] at h
   have k8 := fun {A L l} (k : PL A L l) => yy 15 (vf) <|
    ww (p := (Value.bool (!c4_)) = (Value.bool false)) (vBn hc5) <|
    k
   by_cases hc6 : (((g2).size : Nat) : Int) > 8
   ·rw [if_pos hc6] at h
    obtain rfl := oI h
    exact runF2 hm (kW [6] [] 0 0) (k0 <|
     k4 <|
     k8 <|
     zz 20 (xdT hc6) <|
     ee) (by kernel_rfl)
   ·rw [if_neg hc6] at h
    obtain ⟨c7_, hc7, h⟩ := oB h
    have k10 := fun {A L l} (k : PL A L l) => zz 20 (xdF hc6) <|
     yy 24 (.call (qj8_ wA c7_ [] [])) <|
     ww (qg1_ n wA c7_ hc7) <|
     k
    by_cases hc8 : c7_ = 0
    ·rw [if_pos hc8] at h
     obtain ⟨c9_, hc9, h⟩ := oB h
     have k13 := fun {A L l} (k : PL A L l) => zz 25 (xnF hc8) <|
      yy 29 (.call (qj8_ wB c9_ [] [])) <|
      ww (qg1_ n wB c9_ hc9) <|
      k
     by_cases hc10 : c9_ = 0
     ·rw [if_pos hc10] at h
      obtain ⟨c11_, hc11, h⟩ := oB h
      obtain ⟨c12_, hc12, h⟩ := oB h
      obtain ⟨c13_, hc13, h⟩ := oB h
      obtain ⟨c14_, hc14, h⟩ := oB h
      have k16 := fun {A L l} (k : PL A L l) => zz 30 (xnF hc10) <|
       yy 36 (.call (qq_ 5 wA c11_ [(0, 0, false)] [])) <|
       ww (qk_ n 5 wA c11_ hc11) <|
       yy 41 (.call (qe_ c11_ g2 c12_ [] [])) <|
       ww (qb_ n c11_ g2 c12_ hc12) <|
       yy 46 (.call (qq_ 5 c11_ c13_ [(0, 1, false)] [])) <|
       ww (qk_ n 5 c11_ c13_ hc13) <|
       yy 48 (.call (qe_ c13_ g2 c14_ [] [])) <|
       ww (qb_ n c13_ g2 c14_ hc14) <|
       k
      by_cases hc15 : c14_ = true
      ·rw [if_pos hc15] at h
       by_cases hc16 : c12_ = true
       ·rw [if_pos hc16] at h
        obtain ⟨c17_, hc17, h⟩ := oB h
        obtain ⟨c18_, hc18, h⟩ := oB h
        obtain ⟨c19_, hc19, h⟩ := oB h
        obtain ⟨c20_, hc20, h⟩ := oB h
        have k25 := fun {A L l} (k : PL A L l) => yy 50 (vt) <|
         ww (p := (Value.bool (c14_ == c12_)) = (Value.bool true)) (vEqB hc15 hc16) <|
         yy 55 (.call (qu_ 3 wA c11_ c17_ [(0, 2, false)] [])) <|
         ww (qr_ n 3 wA c11_ c17_ hc17) <|
         yy 57 (.call (qe_ c17_ g2 c18_ [] [])) <|
         ww (qb_ n c17_ g2 c18_ hc18) <|
         yy 60 (.call (qq_ 6 wA c19_ [(0, 3, false)] [])) <|
         ww (qk_ n 6 wA c19_ hc19) <|
         yy 62 (.call (qe_ c19_ g2 c20_ [] [])) <|
         ww (qb_ n c19_ g2 c20_ hc20) <|
         k
        by_cases hc21 : c18_ = true
        ·rw [if_pos hc21] at h
         by_cases hc22 : c20_ = true
         ·rw [if_pos hc22] at h
          obtain ⟨c23_, hc23, h⟩ := oB h
          obtain ⟨c24_, hc24, h⟩ := oB h
          obtain ⟨c25_, hc25, h⟩ := oB h
          have k35 := fun {A L l} (k : PL A L l) => yy 63 (vt) <|
           ww (p := (Value.bool (c18_ == c20_)) = (Value.bool true)) (vEqB hc21 hc22) <|
           yy 68 (.call (qq_ 6 wA c23_ [(0, 4, false)] [])) <|
           ww (qk_ n 6 wA c23_ hc23) <|
           yy 70 (.call (qq_ 7 c23_ c24_ [(0, 5, false)] [])) <|
           ww (qk_ n 7 c23_ c24_ hc24) <|
           yy 72 (.call (qe_ c24_ g2 c25_ [] [])) <|
           ww (qb_ n c24_ g2 c25_ hc25) <|
           k
          by_cases hc26 : c25_ = true
          ·rw [if_pos hc26] at h
           obtain ⟨c27_, hc27, h⟩ := oB h
           obtain ⟨c28_, hc28, h⟩ := oB h
           obtain ⟨c29_, hc29, h⟩ := oB h
           obtain ⟨c30_, hc30, h⟩ := oB h
           have k43 := fun {A L l} (k : PL A L l) => yy 74 (vt) <|
            ww (p := (Value.bool (c25_ == c12_)) = (Value.bool true)) (vEqB hc26 hc16) <|
            yy 80 (.call (qu_ 4 wA wB c27_ [(0, 6, false)] [])) <|
            ww (qr_ n 4 wA wB c27_ hc27) <|
            yy 82 (.call (qe_ c27_ g2 c28_ [] [])) <|
            ww (qb_ n c27_ g2 c28_ hc28) <|
            yy 86 (.call (qu_ 4 wB wA c29_ [(0, 7, false)] [])) <|
            ww (qr_ n 4 wB wA c29_ hc29) <|
            yy 88 (.call (qe_ c29_ g2 c30_ [] [])) <|
            ww (qb_ n c29_ g2 c30_ hc30) <|
            k
           by_cases hc31 : c28_ = true
           ·rw [if_pos hc31] at h
            by_cases hc32 : c30_ = true
            ·rw [if_pos hc32] at h
             obtain ⟨c33_, hc33, h⟩ := oB h
             obtain ⟨c34_, hc34, h⟩ := oB h
             obtain ⟨c35_, hc35, h⟩ := oB h
             have k53 := fun {A L l} (k : PL A L l) => yy 89 (vt) <|
              ww (p := (Value.bool (c28_ == c30_)) = (Value.bool true)) (vEqB hc31 hc32) <|
              yy 96 (.call (qh_ 3 1 0 0 0 0 wA c33_ [(0, 9, false), (1, 8, false)] [])) <|
              ww (qg_ n 3 1 0 0 0 0 wA c33_ hc33) <|
              yy 98 (.call (qe_ c33_ g2 c34_ [] [])) <|
              ww (qb_ n c33_ g2 c34_ hc34) <|
              yy 101 (.call (qe_ wA g2 c35_ [] [])) <|
              ww (qb_ n wA g2 c35_ hc35) <|
              k
             by_cases hc36 : c34_ = true
             ·rw [if_pos hc36] at h
              by_cases hc37 : c35_ = true
              ·rw [if_pos hc37] at h
               obtain ⟨c38_, hc38, h⟩ := oB h
               obtain ⟨c39_, hc39, h⟩ := oB h
               have k61 := fun {A L l} (k : PL A L l) => yy 102 (vt) <|
                ww (p := (Value.bool (c34_ == c35_)) = (Value.bool true)) (vEqB hc36 hc37) <|
                yy 109 (.call (qh_ 3 2 0 0 0 0 wA c38_ [(0, 11, false), (1, 10, false)] [])) <|
                ww (qg_ n 3 2 0 0 0 0 wA c38_ hc38) <|
                yy 111 (.call (qe_ c38_ g2 c39_ [] [])) <|
                ww (qb_ n c38_ g2 c39_ hc39) <|
                k
               by_cases hc40 : c39_ = true
               ·rw [if_pos hc40] at h
                cases h
               ·rw [if_neg hc40] at h
                obtain rfl := oI h
                exact runF2 hm (kW [6] [] 0 0) (k0 <|
                 k4 <|
                 k8 <|
                 k10 <|
                 k13 <|
                 k16 <|
                 k25 <|
                 k35 <|
                 k43 <|
                 k53 <|
                 k61 <|
                 yy 112 (vt) <|
                 ww (p := (Value.bool (!c39_)) = (Value.bool true)) (vBn (Bool.eq_false_iff.2 hc40)) <|
                 ee) (by kernel_rfl)
              ·rw [if_neg hc37] at h
               cases h
             ·rw [if_neg hc36] at h
              by_cases hc37 : c35_ = true
              ·rw [if_pos hc37] at h
               cases h
              ·rw [if_neg hc37] at h
               obtain ⟨c38_, hc38, h⟩ := oB h
               obtain ⟨c39_, hc39, h⟩ := oB h
               have k61 := fun {A L l} (k : PL A L l) => yy 102 (vt) <|
                ww (p := (Value.bool (c34_ == c35_)) = (Value.bool true)) (vEqB (Bool.eq_false_iff.2 hc36) (Bool.eq_false_iff.2 hc37)) <|
                yy 109 (.call (qh_ 3 2 0 0 0 0 wA c38_ [(0, 11, false), (1, 10, false)] [])) <|
                ww (qg_ n 3 2 0 0 0 0 wA c38_ hc38) <|
                yy 111 (.call (qe_ c38_ g2 c39_ [] [])) <|
                ww (qb_ n c38_ g2 c39_ hc39) <|
                k
               by_cases hc40 : c39_ = true
               ·rw [if_pos hc40] at h
                cases h
               ·rw [if_neg hc40] at h
                obtain rfl := oI h
                exact runF2 hm (kW [6] [] 0 0) (k0 <|
                 k4 <|
                 k8 <|
                 k10 <|
                 k13 <|
                 k16 <|
                 k25 <|
                 k35 <|
                 k43 <|
                 k53 <|
                 k61 <|
                 yy 112 (vt) <|
                 ww (p := (Value.bool (!c39_)) = (Value.bool true)) (vBn (Bool.eq_false_iff.2 hc40)) <|
                 ee) (by kernel_rfl)
            ·rw [if_neg hc32] at h
             cases h
           ·rw [if_neg hc31] at h
            by_cases hc32 : c30_ = true
            ·rw [if_pos hc32] at h
             cases h
            ·rw [if_neg hc32] at h
             obtain ⟨c33_, hc33, h⟩ := oB h
             obtain ⟨c34_, hc34, h⟩ := oB h
             obtain ⟨c35_, hc35, h⟩ := oB h
             have k53 := fun {A L l} (k : PL A L l) => yy 89 (vt) <|
              ww (p := (Value.bool (c28_ == c30_)) = (Value.bool true)) (vEqB (Bool.eq_false_iff.2 hc31) (Bool.eq_false_iff.2 hc32)) <|
              yy 96 (.call (qh_ 3 1 0 0 0 0 wA c33_ [(0, 9, false), (1, 8, false)] [])) <|
              ww (qg_ n 3 1 0 0 0 0 wA c33_ hc33) <|
              yy 98 (.call (qe_ c33_ g2 c34_ [] [])) <|
              ww (qb_ n c33_ g2 c34_ hc34) <|
              yy 101 (.call (qe_ wA g2 c35_ [] [])) <|
              ww (qb_ n wA g2 c35_ hc35) <|
              k
             by_cases hc36 : c34_ = true
             ·rw [if_pos hc36] at h
              by_cases hc37 : c35_ = true
              ·rw [if_pos hc37] at h
               obtain ⟨c38_, hc38, h⟩ := oB h
               obtain ⟨c39_, hc39, h⟩ := oB h
               have k61 := fun {A L l} (k : PL A L l) => yy 102 (vt) <|
                ww (p := (Value.bool (c34_ == c35_)) = (Value.bool true)) (vEqB hc36 hc37) <|
                yy 109 (.call (qh_ 3 2 0 0 0 0 wA c38_ [(0, 11, false), (1, 10, false)] [])) <|
                ww (qg_ n 3 2 0 0 0 0 wA c38_ hc38) <|
                yy 111 (.call (qe_ c38_ g2 c39_ [] [])) <|
                ww (qb_ n c38_ g2 c39_ hc39) <|
                k
               by_cases hc40 : c39_ = true
               ·rw [if_pos hc40] at h
                cases h
               ·rw [if_neg hc40] at h
                obtain rfl := oI h
                exact runF2 hm (kW [6] [] 0 0) (k0 <|
                 k4 <|
                 k8 <|
                 k10 <|
                 k13 <|
                 k16 <|
                 k25 <|
                 k35 <|
                 k43 <|
                 k53 <|
                 k61 <|
                 yy 112 (vt) <|
                 ww (p := (Value.bool (!c39_)) = (Value.bool true)) (vBn (Bool.eq_false_iff.2 hc40)) <|
                 ee) (by kernel_rfl)
              ·rw [if_neg hc37] at h
               cases h
             ·rw [if_neg hc36] at h
              by_cases hc37 : c35_ = true
              ·rw [if_pos hc37] at h
               cases h
              ·rw [if_neg hc37] at h
               obtain ⟨c38_, hc38, h⟩ := oB h
               obtain ⟨c39_, hc39, h⟩ := oB h
               have k61 := fun {A L l} (k : PL A L l) => yy 102 (vt) <|
                ww (p := (Value.bool (c34_ == c35_)) = (Value.bool true)) (vEqB (Bool.eq_false_iff.2 hc36) (Bool.eq_false_iff.2 hc37)) <|
                yy 109 (.call (qh_ 3 2 0 0 0 0 wA c38_ [(0, 11, false), (1, 10, false)] [])) <|
                ww (qg_ n 3 2 0 0 0 0 wA c38_ hc38) <|
                yy 111 (.call (qe_ c38_ g2 c39_ [] [])) <|
                ww (qb_ n c38_ g2 c39_ hc39) <|
                k
               by_cases hc40 : c39_ = true
               ·rw [if_pos hc40] at h
                cases h
               ·rw [if_neg hc40] at h
                obtain rfl := oI h
                exact runF2 hm (kW [6] [] 0 0) (k0 <|
                 k4 <|
                 k8 <|
                 k10 <|
                 k13 <|
                 k16 <|
                 k25 <|
                 k35 <|
                 k43 <|
                 k53 <|
                 k61 <|
                 yy 112 (vt) <|
                 ww (p := (Value.bool (!c39_)) = (Value.bool true)) (vBn (Bool.eq_false_iff.2 hc40)) <|
                 ee) (by kernel_rfl)
          ·rw [if_neg hc26] at h
           cases h
         ·rw [if_neg hc22] at h
          cases h
        ·rw [if_neg hc21] at h
         by_cases hc22 : c20_ = true
         ·rw [if_pos hc22] at h
          cases h
         ·rw [if_neg hc22] at h
          obtain ⟨c23_, hc23, h⟩ := oB h
          obtain ⟨c24_, hc24, h⟩ := oB h
          obtain ⟨c25_, hc25, h⟩ := oB h
          have k35 := fun {A L l} (k : PL A L l) => yy 63 (vt) <|
           ww (p := (Value.bool (c18_ == c20_)) = (Value.bool true)) (vEqB (Bool.eq_false_iff.2 hc21) (Bool.eq_false_iff.2 hc22)) <|
           yy 68 (.call (qq_ 6 wA c23_ [(0, 4, false)] [])) <|
           ww (qk_ n 6 wA c23_ hc23) <|
           yy 70 (.call (qq_ 7 c23_ c24_ [(0, 5, false)] [])) <|
           ww (qk_ n 7 c23_ c24_ hc24) <|
           yy 72 (.call (qe_ c24_ g2 c25_ [] [])) <|
           ww (qb_ n c24_ g2 c25_ hc25) <|
           k
          by_cases hc26 : c25_ = true
          ·rw [if_pos hc26] at h
           obtain ⟨c27_, hc27, h⟩ := oB h
           obtain ⟨c28_, hc28, h⟩ := oB h
           obtain ⟨c29_, hc29, h⟩ := oB h
           obtain ⟨c30_, hc30, h⟩ := oB h
           have k43 := fun {A L l} (k : PL A L l) => yy 74 (vt) <|
            ww (p := (Value.bool (c25_ == c12_)) = (Value.bool true)) (vEqB hc26 hc16) <|
            yy 80 (.call (qu_ 4 wA wB c27_ [(0, 6, false)] [])) <|
            ww (qr_ n 4 wA wB c27_ hc27) <|
            yy 82 (.call (qe_ c27_ g2 c28_ [] [])) <|
            ww (qb_ n c27_ g2 c28_ hc28) <|
            yy 86 (.call (qu_ 4 wB wA c29_ [(0, 7, false)] [])) <|
            ww (qr_ n 4 wB wA c29_ hc29) <|
            yy 88 (.call (qe_ c29_ g2 c30_ [] [])) <|
            ww (qb_ n c29_ g2 c30_ hc30) <|
            k
           by_cases hc31 : c28_ = true
           ·rw [if_pos hc31] at h
            by_cases hc32 : c30_ = true
            ·rw [if_pos hc32] at h
             obtain ⟨c33_, hc33, h⟩ := oB h
             obtain ⟨c34_, hc34, h⟩ := oB h
             obtain ⟨c35_, hc35, h⟩ := oB h
             have k53 := fun {A L l} (k : PL A L l) => yy 89 (vt) <|
              ww (p := (Value.bool (c28_ == c30_)) = (Value.bool true)) (vEqB hc31 hc32) <|
              yy 96 (.call (qh_ 3 1 0 0 0 0 wA c33_ [(0, 9, false), (1, 8, false)] [])) <|
              ww (qg_ n 3 1 0 0 0 0 wA c33_ hc33) <|
              yy 98 (.call (qe_ c33_ g2 c34_ [] [])) <|
              ww (qb_ n c33_ g2 c34_ hc34) <|
              yy 101 (.call (qe_ wA g2 c35_ [] [])) <|
              ww (qb_ n wA g2 c35_ hc35) <|
              k
             by_cases hc36 : c34_ = true
             ·rw [if_pos hc36] at h
              by_cases hc37 : c35_ = true
              ·rw [if_pos hc37] at h
               obtain ⟨c38_, hc38, h⟩ := oB h
               obtain ⟨c39_, hc39, h⟩ := oB h
               have k61 := fun {A L l} (k : PL A L l) => yy 102 (vt) <|
                ww (p := (Value.bool (c34_ == c35_)) = (Value.bool true)) (vEqB hc36 hc37) <|
                yy 109 (.call (qh_ 3 2 0 0 0 0 wA c38_ [(0, 11, false), (1, 10, false)] [])) <|
                ww (qg_ n 3 2 0 0 0 0 wA c38_ hc38) <|
                yy 111 (.call (qe_ c38_ g2 c39_ [] [])) <|
                ww (qb_ n c38_ g2 c39_ hc39) <|
                k
               by_cases hc40 : c39_ = true
               ·rw [if_pos hc40] at h
                cases h
               ·rw [if_neg hc40] at h
                obtain rfl := oI h
                exact runF2 hm (kW [6] [] 0 0) (k0 <|
                 k4 <|
                 k8 <|
                 k10 <|
                 k13 <|
                 k16 <|
                 k25 <|
                 k35 <|
                 k43 <|
                 k53 <|
                 k61 <|
                 yy 112 (vt) <|
                 ww (p := (Value.bool (!c39_)) = (Value.bool true)) (vBn (Bool.eq_false_iff.2 hc40)) <|
                 ee) (by kernel_rfl)
              ·rw [if_neg hc37] at h
               cases h
             ·rw [if_neg hc36] at h
              by_cases hc37 : c35_ = true
              ·rw [if_pos hc37] at h
               cases h
              ·rw [if_neg hc37] at h
               obtain ⟨c38_, hc38, h⟩ := oB h
               obtain ⟨c39_, hc39, h⟩ := oB h
               have k61 := fun {A L l} (k : PL A L l) => yy 102 (vt) <|
                ww (p := (Value.bool (c34_ == c35_)) = (Value.bool true)) (vEqB (Bool.eq_false_iff.2 hc36) (Bool.eq_false_iff.2 hc37)) <|
                yy 109 (.call (qh_ 3 2 0 0 0 0 wA c38_ [(0, 11, false), (1, 10, false)] [])) <|
                ww (qg_ n 3 2 0 0 0 0 wA c38_ hc38) <|
                yy 111 (.call (qe_ c38_ g2 c39_ [] [])) <|
                ww (qb_ n c38_ g2 c39_ hc39) <|
                k
               by_cases hc40 : c39_ = true
               ·rw [if_pos hc40] at h
                cases h
               ·rw [if_neg hc40] at h
                obtain rfl := oI h
                exact runF2 hm (kW [6] [] 0 0) (k0 <|
                 k4 <|
                 k8 <|
                 k10 <|
                 k13 <|
                 k16 <|
                 k25 <|
                 k35 <|
                 k43 <|
                 k53 <|
                 k61 <|
                 yy 112 (vt) <|
                 ww (p := (Value.bool (!c39_)) = (Value.bool true)) (vBn (Bool.eq_false_iff.2 hc40)) <|
                 ee) (by kernel_rfl)
            ·rw [if_neg hc32] at h
             cases h
           ·rw [if_neg hc31] at h
            by_cases hc32 : c30_ = true
            ·rw [if_pos hc32] at h
             cases h
            ·rw [if_neg hc32] at h
             obtain ⟨c33_, hc33, h⟩ := oB h
             obtain ⟨c34_, hc34, h⟩ := oB h
             obtain ⟨c35_, hc35, h⟩ := oB h
             have k53 := fun {A L l} (k : PL A L l) => yy 89 (vt) <|
              ww (p := (Value.bool (c28_ == c30_)) = (Value.bool true)) (vEqB (Bool.eq_false_iff.2 hc31) (Bool.eq_false_iff.2 hc32)) <|
              yy 96 (.call (qh_ 3 1 0 0 0 0 wA c33_ [(0, 9, false), (1, 8, false)] [])) <|
              ww (qg_ n 3 1 0 0 0 0 wA c33_ hc33) <|
              yy 98 (.call (qe_ c33_ g2 c34_ [] [])) <|
              ww (qb_ n c33_ g2 c34_ hc34) <|
              yy 101 (.call (qe_ wA g2 c35_ [] [])) <|
              ww (qb_ n wA g2 c35_ hc35) <|
              k
             by_cases hc36 : c34_ = true
             ·rw [if_pos hc36] at h
              by_cases hc37 : c35_ = true
              ·rw [if_pos hc37] at h
               obtain ⟨c38_, hc38, h⟩ := oB h
               obtain ⟨c39_, hc39, h⟩ := oB h
               have k61 := fun {A L l} (k : PL A L l) => yy 102 (vt) <|
                ww (p := (Value.bool (c34_ == c35_)) = (Value.bool true)) (vEqB hc36 hc37) <|
                yy 109 (.call (qh_ 3 2 0 0 0 0 wA c38_ [(0, 11, false), (1, 10, false)] [])) <|
                ww (qg_ n 3 2 0 0 0 0 wA c38_ hc38) <|
                yy 111 (.call (qe_ c38_ g2 c39_ [] [])) <|
                ww (qb_ n c38_ g2 c39_ hc39) <|
                k
               by_cases hc40 : c39_ = true
               ·rw [if_pos hc40] at h
                cases h
               ·rw [if_neg hc40] at h
                obtain rfl := oI h
                exact runF2 hm (kW [6] [] 0 0) (k0 <|
                 k4 <|
                 k8 <|
                 k10 <|
                 k13 <|
                 k16 <|
                 k25 <|
                 k35 <|
                 k43 <|
                 k53 <|
                 k61 <|
                 yy 112 (vt) <|
                 ww (p := (Value.bool (!c39_)) = (Value.bool true)) (vBn (Bool.eq_false_iff.2 hc40)) <|
                 ee) (by kernel_rfl)
              ·rw [if_neg hc37] at h
               cases h
             ·rw [if_neg hc36] at h
              by_cases hc37 : c35_ = true
              ·rw [if_pos hc37] at h
               cases h
              ·rw [if_neg hc37] at h
               obtain ⟨c38_, hc38, h⟩ := oB h
               obtain ⟨c39_, hc39, h⟩ := oB h
               have k61 := fun {A L l} (k : PL A L l) => yy 102 (vt) <|
                ww (p := (Value.bool (c34_ == c35_)) = (Value.bool true)) (vEqB (Bool.eq_false_iff.2 hc36) (Bool.eq_false_iff.2 hc37)) <|
                yy 109 (.call (qh_ 3 2 0 0 0 0 wA c38_ [(0, 11, false), (1, 10, false)] [])) <|
                ww (qg_ n 3 2 0 0 0 0 wA c38_ hc38) <|
                yy 111 (.call (qe_ c38_ g2 c39_ [] [])) <|
                ww (qb_ n c38_ g2 c39_ hc39) <|
                k
               by_cases hc40 : c39_ = true
               ·rw [if_pos hc40] at h
                cases h
               ·rw [if_neg hc40] at h
                obtain rfl := oI h
                exact runF2 hm (kW [6] [] 0 0) (k0 <|
                 k4 <|
                 k8 <|
                 k10 <|
                 k13 <|
                 k16 <|
                 k25 <|
                 k35 <|
                 k43 <|
                 k53 <|
                 k61 <|
                 yy 112 (vt) <|
                 ww (p := (Value.bool (!c39_)) = (Value.bool true)) (vBn (Bool.eq_false_iff.2 hc40)) <|
                 ee) (by kernel_rfl)
          ·rw [if_neg hc26] at h
           cases h
       ·rw [if_neg hc16] at h
        cases h
      ·rw [if_neg hc15] at h
       by_cases hc16 : c12_ = true
       ·rw [if_pos hc16] at h
        cases h
       ·rw [if_neg hc16] at h
        obtain ⟨c17_, hc17, h⟩ := oB h
        obtain ⟨c18_, hc18, h⟩ := oB h
        obtain ⟨c19_, hc19, h⟩ := oB h
        obtain ⟨c20_, hc20, h⟩ := oB h
        have k25 := fun {A L l} (k : PL A L l) => yy 50 (vt) <|
         ww (p := (Value.bool (c14_ == c12_)) = (Value.bool true)) (vEqB (Bool.eq_false_iff.2 hc15) (Bool.eq_false_iff.2 hc16)) <|
         yy 55 (.call (qu_ 3 wA c11_ c17_ [(0, 2, false)] [])) <|
         ww (qr_ n 3 wA c11_ c17_ hc17) <|
         yy 57 (.call (qe_ c17_ g2 c18_ [] [])) <|
         ww (qb_ n c17_ g2 c18_ hc18) <|
         yy 60 (.call (qq_ 6 wA c19_ [(0, 3, false)] [])) <|
         ww (qk_ n 6 wA c19_ hc19) <|
         yy 62 (.call (qe_ c19_ g2 c20_ [] [])) <|
         ww (qb_ n c19_ g2 c20_ hc20) <|
         k
        by_cases hc21 : c18_ = true
        ·rw [if_pos hc21] at h
         by_cases hc22 : c20_ = true
         ·rw [if_pos hc22] at h
          obtain ⟨c23_, hc23, h⟩ := oB h
          obtain ⟨c24_, hc24, h⟩ := oB h
          obtain ⟨c25_, hc25, h⟩ := oB h
          have k35 := fun {A L l} (k : PL A L l) => yy 63 (vt) <|
           ww (p := (Value.bool (c18_ == c20_)) = (Value.bool true)) (vEqB hc21 hc22) <|
           yy 68 (.call (qq_ 6 wA c23_ [(0, 4, false)] [])) <|
           ww (qk_ n 6 wA c23_ hc23) <|
           yy 70 (.call (qq_ 7 c23_ c24_ [(0, 5, false)] [])) <|
           ww (qk_ n 7 c23_ c24_ hc24) <|
           yy 72 (.call (qe_ c24_ g2 c25_ [] [])) <|
           ww (qb_ n c24_ g2 c25_ hc25) <|
           k
          by_cases hc26 : c25_ = true
          ·rw [if_pos hc26] at h
           cases h
          ·rw [if_neg hc26] at h
           obtain ⟨c27_, hc27, h⟩ := oB h
           obtain ⟨c28_, hc28, h⟩ := oB h
           obtain ⟨c29_, hc29, h⟩ := oB h
           obtain ⟨c30_, hc30, h⟩ := oB h
           have k43 := fun {A L l} (k : PL A L l) => yy 74 (vt) <|
            ww (p := (Value.bool (c25_ == c12_)) = (Value.bool true)) (vEqB (Bool.eq_false_iff.2 hc26) (Bool.eq_false_iff.2 hc16)) <|
            yy 80 (.call (qu_ 4 wA wB c27_ [(0, 6, false)] [])) <|
            ww (qr_ n 4 wA wB c27_ hc27) <|
            yy 82 (.call (qe_ c27_ g2 c28_ [] [])) <|
            ww (qb_ n c27_ g2 c28_ hc28) <|
            yy 86 (.call (qu_ 4 wB wA c29_ [(0, 7, false)] [])) <|
            ww (qr_ n 4 wB wA c29_ hc29) <|
            yy 88 (.call (qe_ c29_ g2 c30_ [] [])) <|
            ww (qb_ n c29_ g2 c30_ hc30) <|
            k
           by_cases hc31 : c28_ = true
           ·rw [if_pos hc31] at h
            by_cases hc32 : c30_ = true
            ·rw [if_pos hc32] at h
             obtain ⟨c33_, hc33, h⟩ := oB h
             obtain ⟨c34_, hc34, h⟩ := oB h
             obtain ⟨c35_, hc35, h⟩ := oB h
             have k53 := fun {A L l} (k : PL A L l) => yy 89 (vt) <|
              ww (p := (Value.bool (c28_ == c30_)) = (Value.bool true)) (vEqB hc31 hc32) <|
              yy 96 (.call (qh_ 3 1 0 0 0 0 wA c33_ [(0, 9, false), (1, 8, false)] [])) <|
              ww (qg_ n 3 1 0 0 0 0 wA c33_ hc33) <|
              yy 98 (.call (qe_ c33_ g2 c34_ [] [])) <|
              ww (qb_ n c33_ g2 c34_ hc34) <|
              yy 101 (.call (qe_ wA g2 c35_ [] [])) <|
              ww (qb_ n wA g2 c35_ hc35) <|
              k
             by_cases hc36 : c34_ = true
             ·rw [if_pos hc36] at h
              by_cases hc37 : c35_ = true
              ·rw [if_pos hc37] at h
               obtain ⟨c38_, hc38, h⟩ := oB h
               obtain ⟨c39_, hc39, h⟩ := oB h
               have k61 := fun {A L l} (k : PL A L l) => yy 102 (vt) <|
                ww (p := (Value.bool (c34_ == c35_)) = (Value.bool true)) (vEqB hc36 hc37) <|
                yy 109 (.call (qh_ 3 2 0 0 0 0 wA c38_ [(0, 11, false), (1, 10, false)] [])) <|
                ww (qg_ n 3 2 0 0 0 0 wA c38_ hc38) <|
                yy 111 (.call (qe_ c38_ g2 c39_ [] [])) <|
                ww (qb_ n c38_ g2 c39_ hc39) <|
                k
               by_cases hc40 : c39_ = true
               ·rw [if_pos hc40] at h
                cases h
               ·rw [if_neg hc40] at h
                obtain rfl := oI h
                exact runF2 hm (kW [6] [] 0 0) (k0 <|
                 k4 <|
                 k8 <|
                 k10 <|
                 k13 <|
                 k16 <|
                 k25 <|
                 k35 <|
                 k43 <|
                 k53 <|
                 k61 <|
                 yy 112 (vt) <|
                 ww (p := (Value.bool (!c39_)) = (Value.bool true)) (vBn (Bool.eq_false_iff.2 hc40)) <|
                 ee) (by kernel_rfl)
              ·rw [if_neg hc37] at h
               cases h
             ·rw [if_neg hc36] at h
              by_cases hc37 : c35_ = true
              ·rw [if_pos hc37] at h
               cases h
              ·rw [if_neg hc37] at h
               obtain ⟨c38_, hc38, h⟩ := oB h
               obtain ⟨c39_, hc39, h⟩ := oB h
               have k61 := fun {A L l} (k : PL A L l) => yy 102 (vt) <|
                ww (p := (Value.bool (c34_ == c35_)) = (Value.bool true)) (vEqB (Bool.eq_false_iff.2 hc36) (Bool.eq_false_iff.2 hc37)) <|
                yy 109 (.call (qh_ 3 2 0 0 0 0 wA c38_ [(0, 11, false), (1, 10, false)] [])) <|
                ww (qg_ n 3 2 0 0 0 0 wA c38_ hc38) <|
                yy 111 (.call (qe_ c38_ g2 c39_ [] [])) <|
                ww (qb_ n c38_ g2 c39_ hc39) <|
                k
               by_cases hc40 : c39_ = true
               ·rw [if_pos hc40] at h
                cases h
               ·rw [if_neg hc40] at h
                obtain rfl := oI h
                exact runF2 hm (kW [6] [] 0 0) (k0 <|
                 k4 <|
                 k8 <|
                 k10 <|
                 k13 <|
                 k16 <|
                 k25 <|
                 k35 <|
                 k43 <|
                 k53 <|
                 k61 <|
                 yy 112 (vt) <|
                 ww (p := (Value.bool (!c39_)) = (Value.bool true)) (vBn (Bool.eq_false_iff.2 hc40)) <|
                 ee) (by kernel_rfl)
            ·rw [if_neg hc32] at h
             cases h
           ·rw [if_neg hc31] at h
            by_cases hc32 : c30_ = true
            ·rw [if_pos hc32] at h
             cases h
            ·rw [if_neg hc32] at h
             obtain ⟨c33_, hc33, h⟩ := oB h
             obtain ⟨c34_, hc34, h⟩ := oB h
             obtain ⟨c35_, hc35, h⟩ := oB h
             have k53 := fun {A L l} (k : PL A L l) => yy 89 (vt) <|
              ww (p := (Value.bool (c28_ == c30_)) = (Value.bool true)) (vEqB (Bool.eq_false_iff.2 hc31) (Bool.eq_false_iff.2 hc32)) <|
              yy 96 (.call (qh_ 3 1 0 0 0 0 wA c33_ [(0, 9, false), (1, 8, false)] [])) <|
              ww (qg_ n 3 1 0 0 0 0 wA c33_ hc33) <|
              yy 98 (.call (qe_ c33_ g2 c34_ [] [])) <|
              ww (qb_ n c33_ g2 c34_ hc34) <|
              yy 101 (.call (qe_ wA g2 c35_ [] [])) <|
              ww (qb_ n wA g2 c35_ hc35) <|
              k
             by_cases hc36 : c34_ = true
             ·rw [if_pos hc36] at h
              by_cases hc37 : c35_ = true
              ·rw [if_pos hc37] at h
               obtain ⟨c38_, hc38, h⟩ := oB h
               obtain ⟨c39_, hc39, h⟩ := oB h
               have k61 := fun {A L l} (k : PL A L l) => yy 102 (vt) <|
                ww (p := (Value.bool (c34_ == c35_)) = (Value.bool true)) (vEqB hc36 hc37) <|
                yy 109 (.call (qh_ 3 2 0 0 0 0 wA c38_ [(0, 11, false), (1, 10, false)] [])) <|
                ww (qg_ n 3 2 0 0 0 0 wA c38_ hc38) <|
                yy 111 (.call (qe_ c38_ g2 c39_ [] [])) <|
                ww (qb_ n c38_ g2 c39_ hc39) <|
                k
               by_cases hc40 : c39_ = true
               ·rw [if_pos hc40] at h
                cases h
               ·rw [if_neg hc40] at h
                obtain rfl := oI h
                exact runF2 hm (kW [6] [] 0 0) (k0 <|
                 k4 <|
                 k8 <|
                 k10 <|
                 k13 <|
                 k16 <|
                 k25 <|
                 k35 <|
                 k43 <|
                 k53 <|
                 k61 <|
                 yy 112 (vt) <|
                 ww (p := (Value.bool (!c39_)) = (Value.bool true)) (vBn (Bool.eq_false_iff.2 hc40)) <|
                 ee) (by kernel_rfl)
              ·rw [if_neg hc37] at h
               cases h
             ·rw [if_neg hc36] at h
              by_cases hc37 : c35_ = true
              ·rw [if_pos hc37] at h
               cases h
              ·rw [if_neg hc37] at h
               obtain ⟨c38_, hc38, h⟩ := oB h
               obtain ⟨c39_, hc39, h⟩ := oB h
               have k61 := fun {A L l} (k : PL A L l) => yy 102 (vt) <|
                ww (p := (Value.bool (c34_ == c35_)) = (Value.bool true)) (vEqB (Bool.eq_false_iff.2 hc36) (Bool.eq_false_iff.2 hc37)) <|
                yy 109 (.call (qh_ 3 2 0 0 0 0 wA c38_ [(0, 11, false), (1, 10, false)] [])) <|
                ww (qg_ n 3 2 0 0 0 0 wA c38_ hc38) <|
                yy 111 (.call (qe_ c38_ g2 c39_ [] [])) <|
                ww (qb_ n c38_ g2 c39_ hc39) <|
                k
               by_cases hc40 : c39_ = true
               ·rw [if_pos hc40] at h
                cases h
               ·rw [if_neg hc40] at h
                obtain rfl := oI h
                exact runF2 hm (kW [6] [] 0 0) (k0 <|
                 k4 <|
                 k8 <|
                 k10 <|
                 k13 <|
                 k16 <|
                 k25 <|
                 k35 <|
                 k43 <|
                 k53 <|
                 k61 <|
                 yy 112 (vt) <|
                 ww (p := (Value.bool (!c39_)) = (Value.bool true)) (vBn (Bool.eq_false_iff.2 hc40)) <|
                 ee) (by kernel_rfl)
         ·rw [if_neg hc22] at h
          cases h
        ·rw [if_neg hc21] at h
         by_cases hc22 : c20_ = true
         ·rw [if_pos hc22] at h
          cases h
         ·rw [if_neg hc22] at h
          obtain ⟨c23_, hc23, h⟩ := oB h
          obtain ⟨c24_, hc24, h⟩ := oB h
          obtain ⟨c25_, hc25, h⟩ := oB h
          have k35 := fun {A L l} (k : PL A L l) => yy 63 (vt) <|
           ww (p := (Value.bool (c18_ == c20_)) = (Value.bool true)) (vEqB (Bool.eq_false_iff.2 hc21) (Bool.eq_false_iff.2 hc22)) <|
           yy 68 (.call (qq_ 6 wA c23_ [(0, 4, false)] [])) <|
           ww (qk_ n 6 wA c23_ hc23) <|
           yy 70 (.call (qq_ 7 c23_ c24_ [(0, 5, false)] [])) <|
           ww (qk_ n 7 c23_ c24_ hc24) <|
           yy 72 (.call (qe_ c24_ g2 c25_ [] [])) <|
           ww (qb_ n c24_ g2 c25_ hc25) <|
           k
          by_cases hc26 : c25_ = true
          ·rw [if_pos hc26] at h
           cases h
          ·rw [if_neg hc26] at h
           obtain ⟨c27_, hc27, h⟩ := oB h
           obtain ⟨c28_, hc28, h⟩ := oB h
           obtain ⟨c29_, hc29, h⟩ := oB h
           obtain ⟨c30_, hc30, h⟩ := oB h
           have k43 := fun {A L l} (k : PL A L l) => yy 74 (vt) <|
            ww (p := (Value.bool (c25_ == c12_)) = (Value.bool true)) (vEqB (Bool.eq_false_iff.2 hc26) (Bool.eq_false_iff.2 hc16)) <|
            yy 80 (.call (qu_ 4 wA wB c27_ [(0, 6, false)] [])) <|
            ww (qr_ n 4 wA wB c27_ hc27) <|
            yy 82 (.call (qe_ c27_ g2 c28_ [] [])) <|
            ww (qb_ n c27_ g2 c28_ hc28) <|
            yy 86 (.call (qu_ 4 wB wA c29_ [(0, 7, false)] [])) <|
            ww (qr_ n 4 wB wA c29_ hc29) <|
            yy 88 (.call (qe_ c29_ g2 c30_ [] [])) <|
            ww (qb_ n c29_ g2 c30_ hc30) <|
            k
           by_cases hc31 : c28_ = true
           ·rw [if_pos hc31] at h
            by_cases hc32 : c30_ = true
            ·rw [if_pos hc32] at h
             obtain ⟨c33_, hc33, h⟩ := oB h
             obtain ⟨c34_, hc34, h⟩ := oB h
             obtain ⟨c35_, hc35, h⟩ := oB h
             have k53 := fun {A L l} (k : PL A L l) => yy 89 (vt) <|
              ww (p := (Value.bool (c28_ == c30_)) = (Value.bool true)) (vEqB hc31 hc32) <|
              yy 96 (.call (qh_ 3 1 0 0 0 0 wA c33_ [(0, 9, false), (1, 8, false)] [])) <|
              ww (qg_ n 3 1 0 0 0 0 wA c33_ hc33) <|
              yy 98 (.call (qe_ c33_ g2 c34_ [] [])) <|
              ww (qb_ n c33_ g2 c34_ hc34) <|
              yy 101 (.call (qe_ wA g2 c35_ [] [])) <|
              ww (qb_ n wA g2 c35_ hc35) <|
              k
             by_cases hc36 : c34_ = true
             ·rw [if_pos hc36] at h
              by_cases hc37 : c35_ = true
              ·rw [if_pos hc37] at h
               obtain ⟨c38_, hc38, h⟩ := oB h
               obtain ⟨c39_, hc39, h⟩ := oB h
               have k61 := fun {A L l} (k : PL A L l) => yy 102 (vt) <|
                ww (p := (Value.bool (c34_ == c35_)) = (Value.bool true)) (vEqB hc36 hc37) <|
                yy 109 (.call (qh_ 3 2 0 0 0 0 wA c38_ [(0, 11, false), (1, 10, false)] [])) <|
                ww (qg_ n 3 2 0 0 0 0 wA c38_ hc38) <|
                yy 111 (.call (qe_ c38_ g2 c39_ [] [])) <|
                ww (qb_ n c38_ g2 c39_ hc39) <|
                k
               by_cases hc40 : c39_ = true
               ·rw [if_pos hc40] at h
                cases h
               ·rw [if_neg hc40] at h
                obtain rfl := oI h
                exact runF2 hm (kW [6] [] 0 0) (k0 <|
                 k4 <|
                 k8 <|
                 k10 <|
                 k13 <|
                 k16 <|
                 k25 <|
                 k35 <|
                 k43 <|
                 k53 <|
                 k61 <|
                 yy 112 (vt) <|
                 ww (p := (Value.bool (!c39_)) = (Value.bool true)) (vBn (Bool.eq_false_iff.2 hc40)) <|
                 ee) (by kernel_rfl)
              ·rw [if_neg hc37] at h
               cases h
             ·rw [if_neg hc36] at h
              by_cases hc37 : c35_ = true
              ·rw [if_pos hc37] at h
               cases h
              ·rw [if_neg hc37] at h
               obtain ⟨c38_, hc38, h⟩ := oB h
               obtain ⟨c39_, hc39, h⟩ := oB h
               have k61 := fun {A L l} (k : PL A L l) => yy 102 (vt) <|
                ww (p := (Value.bool (c34_ == c35_)) = (Value.bool true)) (vEqB (Bool.eq_false_iff.2 hc36) (Bool.eq_false_iff.2 hc37)) <|
                yy 109 (.call (qh_ 3 2 0 0 0 0 wA c38_ [(0, 11, false), (1, 10, false)] [])) <|
                ww (qg_ n 3 2 0 0 0 0 wA c38_ hc38) <|
                yy 111 (.call (qe_ c38_ g2 c39_ [] [])) <|
                ww (qb_ n c38_ g2 c39_ hc39) <|
                k
               by_cases hc40 : c39_ = true
               ·rw [if_pos hc40] at h
                cases h
               ·rw [if_neg hc40] at h
                obtain rfl := oI h
                exact runF2 hm (kW [6] [] 0 0) (k0 <|
                 k4 <|
                 k8 <|
                 k10 <|
                 k13 <|
                 k16 <|
                 k25 <|
                 k35 <|
                 k43 <|
                 k53 <|
                 k61 <|
                 yy 112 (vt) <|
                 ww (p := (Value.bool (!c39_)) = (Value.bool true)) (vBn (Bool.eq_false_iff.2 hc40)) <|
                 ee) (by kernel_rfl)
            ·rw [if_neg hc32] at h
             cases h
           ·rw [if_neg hc31] at h
            by_cases hc32 : c30_ = true
            ·rw [if_pos hc32] at h
             cases h
            ·rw [if_neg hc32] at h
             obtain ⟨c33_, hc33, h⟩ := oB h
             obtain ⟨c34_, hc34, h⟩ := oB h
             obtain ⟨c35_, hc35, h⟩ := oB h
             have k53 := fun {A L l} (k : PL A L l) => yy 89 (vt) <|
              ww (p := (Value.bool (c28_ == c30_)) = (Value.bool true)) (vEqB (Bool.eq_false_iff.2 hc31) (Bool.eq_false_iff.2 hc32)) <|
              yy 96 (.call (qh_ 3 1 0 0 0 0 wA c33_ [(0, 9, false), (1, 8, false)] [])) <|
              ww (qg_ n 3 1 0 0 0 0 wA c33_ hc33) <|
              yy 98 (.call (qe_ c33_ g2 c34_ [] [])) <|
              ww (qb_ n c33_ g2 c34_ hc34) <|
              yy 101 (.call (qe_ wA g2 c35_ [] [])) <|
              ww (qb_ n wA g2 c35_ hc35) <|
              k
             by_cases hc36 : c34_ = true
             ·rw [if_pos hc36] at h
              by_cases hc37 : c35_ = true
              ·rw [if_pos hc37] at h
               obtain ⟨c38_, hc38, h⟩ := oB h
               obtain ⟨c39_, hc39, h⟩ := oB h
               have k61 := fun {A L l} (k : PL A L l) => yy 102 (vt) <|
                ww (p := (Value.bool (c34_ == c35_)) = (Value.bool true)) (vEqB hc36 hc37) <|
                yy 109 (.call (qh_ 3 2 0 0 0 0 wA c38_ [(0, 11, false), (1, 10, false)] [])) <|
                ww (qg_ n 3 2 0 0 0 0 wA c38_ hc38) <|
                yy 111 (.call (qe_ c38_ g2 c39_ [] [])) <|
                ww (qb_ n c38_ g2 c39_ hc39) <|
                k
               by_cases hc40 : c39_ = true
               ·rw [if_pos hc40] at h
                cases h
               ·rw [if_neg hc40] at h
                obtain rfl := oI h
                exact runF2 hm (kW [6] [] 0 0) (k0 <|
                 k4 <|
                 k8 <|
                 k10 <|
                 k13 <|
                 k16 <|
                 k25 <|
                 k35 <|
                 k43 <|
                 k53 <|
                 k61 <|
                 yy 112 (vt) <|
                 ww (p := (Value.bool (!c39_)) = (Value.bool true)) (vBn (Bool.eq_false_iff.2 hc40)) <|
                 ee) (by kernel_rfl)
              ·rw [if_neg hc37] at h
               cases h
             ·rw [if_neg hc36] at h
              by_cases hc37 : c35_ = true
              ·rw [if_pos hc37] at h
               cases h
              ·rw [if_neg hc37] at h
               obtain ⟨c38_, hc38, h⟩ := oB h
               obtain ⟨c39_, hc39, h⟩ := oB h
               have k61 := fun {A L l} (k : PL A L l) => yy 102 (vt) <|
                ww (p := (Value.bool (c34_ == c35_)) = (Value.bool true)) (vEqB (Bool.eq_false_iff.2 hc36) (Bool.eq_false_iff.2 hc37)) <|
                yy 109 (.call (qh_ 3 2 0 0 0 0 wA c38_ [(0, 11, false), (1, 10, false)] [])) <|
                ww (qg_ n 3 2 0 0 0 0 wA c38_ hc38) <|
                yy 111 (.call (qe_ c38_ g2 c39_ [] [])) <|
                ww (qb_ n c38_ g2 c39_ hc39) <|
                k
               by_cases hc40 : c39_ = true
               ·rw [if_pos hc40] at h
                cases h
               ·rw [if_neg hc40] at h
                obtain rfl := oI h
                exact runF2 hm (kW [6] [] 0 0) (k0 <|
                 k4 <|
                 k8 <|
                 k10 <|
                 k13 <|
                 k16 <|
                 k25 <|
                 k35 <|
                 k43 <|
                 k53 <|
                 k61 <|
                 yy 112 (vt) <|
                 ww (p := (Value.bool (!c39_)) = (Value.bool true)) (vBn (Bool.eq_false_iff.2 hc40)) <|
                 ee) (by kernel_rfl)
     ·rw [if_neg hc10] at h
      obtain rfl := oI h
      exact runF2 hm (kW [6] [] 0 0) (k0 <|
       k4 <|
       k8 <|
       k10 <|
       k13 <|
       zz 30 (xnT hc10) <|
       ee) (by kernel_rfl)
    ·rw [if_neg hc8] at h
     obtain rfl := oI h
     exact runF2 hm (kW [6] [] 0 0) (k0 <|
      k4 <|
      k8 <|
      k10 <|
      zz 25 (xnT hc8) <|
      ee) (by kernel_rfl)
  ·rw [if_neg hc5] at h
   obtain rfl := oI h
   exact runF2 hm (kW [6] [] 0 0) (k0 <|
    k4 <|
    yy 15 (vt) <|
    ww (p := (Value.bool (!c4_)) = (Value.bool true)) (vBn (Bool.eq_false_iff.2 hc5)) <|
    ee) (by kernel_rfl)
 ·rw [if_neg hc3] at h
  obtain rfl := oI h
  exact runF2 hm (kW [6] [] 0 0) (k0 <|
   yy 11 (vt) <|
   ww (p := (Value.bool (!c2_)) = (Value.bool true)) (vBn (Bool.eq_false_iff.2 hc3)) <|
   ee) (by kernel_rfl)

end Go.Proofs.YtgiceoflfmmlcaaDoor.rxl02
