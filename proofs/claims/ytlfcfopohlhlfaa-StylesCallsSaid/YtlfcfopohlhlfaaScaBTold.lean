/-
  What functions do, told by pure functions. No condition.
-/
import Derived.Test.YtlfcfopohlhlfaaScaATold
set_option linter.unusedSimpArgs false
set_option linter.unusedVariables false
set_option linter.unusedSectionVars false
set_option linter.unnecessarySimpa false
set_option maxRecDepth 100000
noncomputable section
namespace Go.Proofs.Ytlfcfopohlhlfaa.sca26
open Go Go.Proofs.Ytlfcfopohlhlfaa Ax
variable [Args]
def qpz_ (a0 : W8) (r : Bool) : Value := match r with
 | o0 => (bO o0)
def qp0_ (a0 : W8) (r : Bool) : AH := match r with
 | o0 => ⟨sB [], 0, 0⟩
abbrev qut_ (a0 : W8) (r : Bool) : Prop := Gv P (.func 47) [(wlV a0)] ⟨sB [], 0, 0⟩ (qpz_ a0 r) (qp0_ a0 r)
abbrev quu_ (a0 : W8) (r : Bool) (ins outs : BL) : CallA := ⟨0, ins, qpz_ a0 r, qp0_ a0 r, outs⟩
def qhg_ (x0 : W8) (x3 : Int) (st : List (Int × Int × Int) × Nat × Int) : XSt := match st with
 | (x1, x2, x4) => (sT 99 [(0, (wlV x0)), (3, (slQ x1 0 x2 3)), (8, (wlV x0)), (9, (i6 x3)), (10, (i6 x4))], [], ⟨sB [(0, (nblkR qe8_ x1 76))], 1, 0⟩)
def qci_ (x0 : W8) (x3 : Int) (r : (Unit) ⊕ (List (Int × Int × Int) × Nat)) : Ex × XSt := match r with
 | .inl _ => (.ret, (sT 99 [(2, (bO false))], [], ⟨sB [], 0, 0⟩))
 | .inr (z0, z1) => (.exit 0, (sT 99 [(3, (slQ z0 0 z1 3))], [], ⟨sB [(0, (nblkR qe8_ z0 76))], 1, 0⟩))
abbrev qsg_ (rnd : Option Nat) (x0 : W8) (x3 : Int) (st : List (Int × Int × Int) × Nat × Int) (c : Ex × XSt) : Prop := CG P rnd (fnN P 47) 0 (qx_ P 47 [false, false, true, false, true, true]) (qhg_ x0 x3 st) c
abbrev qsh_ (rd : Option Nat) (x0 : W8) (x3 : Int) (st : List (Int × Int × Int) × Nat × Int) (r : (Unit) ⊕ (List (Int × Int × Int) × Nat)) : Prop := CG P rd (fnN P 47) 0 (qx_ P 47 [false, true, false, true, true]) (qhg_ x0 x3 st) (qci_ x0 x3 r)
def qb_ (n : Nat) (x0 : W8) (x3 : Int) (st : List (Int × Int × Int) × Nat × Int) : Option ((List (Int × Int × Int) × Nat × Int) ⊕ ((Unit) ⊕ (List (Int × Int × Int) × Nat))) := match st with
 | (x1, x2, x4) =>
  match x1 with
  | [] =>
   if x4 < x3 then
    if 0 ≤ x4 ∧ x4 < (((x0).l.length : Nat) : Int) then
     ((some (((x0).l).getD (x4).toNat (0, 0, 0, 0, 0, 0, nl0, 0)))).bind fun y3_ =>
     if x4 > 0 then
      some (.inr (.inl ()))
     else
      if ((((y3_.2.2.2.2.2.2.1)).l.length : Nat) : Int) > 0 then
       some (.inl ([(x4, (0 : Int), (y3_.2.2.1))], 1, (w64 (x4 + 1))))
      else
       some (.inl (([] : List (Int × Int × Int)), 0, (w64 (x4 + 1))))
    else none
   else
    some (.inr (.inr (([] : List (Int × Int × Int)), 0)))
  | x1a :: x1t =>
   if x4 < x3 then
    if 0 ≤ x4 ∧ x4 < (((x0).l.length : Nat) : Int) then
     ((some (((x0).l).getD (x4).toNat (0, 0, 0, 0, 0, 0, nl0, 0)))).bind fun y3_ =>
     if x4 > 0 then
      if ((x2 : Nat) : Int) = 0 then
       some (.inr (.inl ()))
      else
       ((some (w64 (((x2 : Nat) : Int) - 1)))).bind fun y6_ =>
       if 0 ≤ y6_ ∧ y6_ < ((x2 : Nat) : Int) then
        if (y6_).toNat < ((x1a :: x1t)).length then
         ((some (((x1a :: x1t)).getD (y6_).toNat (0, 0, 0)))).bind fun y9_ =>
         if 0 ≤ (y9_.1) ∧ (y9_.1) < (((x0).l.length : Nat) : Int) then
          ((some (((x0).l).getD ((y9_.1)).toNat (0, 0, 0, 0, 0, 0, nl0, 0)))).bind fun y11_ =>
          if 0 ≤ (y9_.2.1) ∧ (y9_.2.1) < ((((y11_.2.2.2.2.2.2.1)).l.length : Nat) : Int) then
           if ((y9_.2.1)).toNat < (((y11_.2.2.2.2.2.2.1)).l).length then
            ((some ((((y11_.2.2.2.2.2.2.1)).l).getD ((y9_.2.1)).toNat 0))).bind fun y14_ =>
            if y14_ = x4 then
             if (y3_.2.2.1) < (y9_.2.2) then
              some (.inr (.inl ()))
             else
              if (y3_.2.2.2.2.1) > (y11_.2.2.2.2.1) then
               some (.inr (.inl ()))
              else
               if (w64 ((y9_.2.1) + 1)) = ((((y11_.2.2.2.2.2.2.1)).l.length : Nat) : Int) then
                if 0 ≤ y6_ ∧ y6_ ≤ ((x2 : Nat) : Int) then
                 if ((((y3_.2.2.2.2.2.2.1)).l.length : Nat) : Int) > 0 then
                  if (y6_).toNat ≤ ((((x1a :: x1t)).set (y6_).toNat ((y9_.1), (w64 ((y9_.2.1) + 1)), (y3_.2.2.2.2.1)))).length then
                   if ((y6_).toNat + 1) * 24 ≤ 140737488355328 then
                    some (.inl (((List.take (y6_).toNat (((x1a :: x1t)).set (y6_).toNat ((y9_.1), (w64 ((y9_.2.1) + 1)), (y3_.2.2.2.2.1)))) ++ [(x4, (0 : Int), (y3_.2.2.1))]), ((((List.take (y6_).toNat (((x1a :: x1t)).set (y6_).toNat ((y9_.1), (w64 ((y9_.2.1) + 1)), (y3_.2.2.2.2.1)))) ++ [(x4, (0 : Int), (y3_.2.2.1))])).length), (w64 (x4 + 1))))
                   else none
                  else none
                 else
                  some (.inl ((((x1a :: x1t)).set (y6_).toNat ((y9_.1), (w64 ((y9_.2.1) + 1)), (y3_.2.2.2.2.1))), ((y6_).toNat), (w64 (x4 + 1))))
                else none
               else
                if ((((y3_.2.2.2.2.2.2.1)).l.length : Nat) : Int) > 0 then
                 if x2 ≤ ((((x1a :: x1t)).set (y6_).toNat ((y9_.1), (w64 ((y9_.2.1) + 1)), (y3_.2.2.2.2.1)))).length then
                  if (x2 + 1) * 24 ≤ 140737488355328 then
                   some (.inl (((List.take x2 (((x1a :: x1t)).set (y6_).toNat ((y9_.1), (w64 ((y9_.2.1) + 1)), (y3_.2.2.2.2.1)))) ++ [(x4, (0 : Int), (y3_.2.2.1))]), ((((List.take x2 (((x1a :: x1t)).set (y6_).toNat ((y9_.1), (w64 ((y9_.2.1) + 1)), (y3_.2.2.2.2.1)))) ++ [(x4, (0 : Int), (y3_.2.2.1))])).length), (w64 (x4 + 1))))
                  else none
                 else none
                else
                 some (.inl ((((x1a :: x1t)).set (y6_).toNat ((y9_.1), (w64 ((y9_.2.1) + 1)), (y3_.2.2.2.2.1))), x2, (w64 (x4 + 1))))
            else
             some (.inr (.inl ()))
           else none
          else none
         else none
        else none
       else none
     else
      if ((((y3_.2.2.2.2.2.2.1)).l.length : Nat) : Int) > 0 then
       if x2 ≤ ((x1a :: x1t)).length then
        if (x2 + 1) * 24 ≤ 140737488355328 then
         some (.inl (((List.take x2 (x1a :: x1t)) ++ [(x4, (0 : Int), (y3_.2.2.1))]), ((((List.take x2 (x1a :: x1t)) ++ [(x4, (0 : Int), (y3_.2.2.1))])).length), (w64 (x4 + 1))))
        else none
       else none
      else
       some (.inl ((x1a :: x1t), x2, (w64 (x4 + 1))))
    else none
   else
    some (.inr (.inr ((x1a :: x1t), x2)))
def qfo_ (n : Nat) (x0 : W8) (x3 : Int) (st : List (Int × Int × Int) × Nat × Int) : Option ((Unit) ⊕ (List (Int × Int × Int) × Nat)) := iterM (qb_ n x0 x3) n st
theorem qnv_ (n : Nat) {rnd : Option Nat} (x0 : W8) (x3 : Int) (st : List (Int × Int × Int) × Nat × Int) (o : (List (Int × Int × Int) × Nat × Int) ⊕ ((Unit) ⊕ (List (Int × Int × Int) × Nat))) (h : qb_ n x0 x3 st = some o) : qsg_ rnd x0 x3 st (Sum.elim (fun s => (.normal, qhg_ x0 x3 s)) (fun r => qci_ x0 x3 r) o) := by
 obtain ⟨x1, x2, x4⟩ := st
 unfold qb_ at h
 dsimp only at h
 cases x1 with
 | nil =>
  dsimp only at h
  by_cases hy1 : x4 < x3
  ·rw [if_pos hy1] at h
   obtain ⟨hy2, h⟩ := gd h
   obtain ⟨y3_, hy3, h⟩ := oB h
   have k0 := fun {A L l} (k : PL A L l) => zz 1 (xdT hy1) <|
    zz 8 (xk4 (x0).num (x0).off (x0).cap hy2) <|
    zz 9 (lk5 hy3 (qbp_ hy2)) <|
    k
   by_cases hy4 : x4 > 0
   ·rw [if_pos hy4] at h
    obtain rfl := oI h
    exact runC2 hm (kW [2] [] 0 0) (k0 <|
     zz 16 (xdT hy4) <|
     ee) (by kernel_rfl)
   ·rw [if_neg hy4] at h
    have k3 := fun {A L l} (k : PL A L l) => zz 16 (xdF hy4) <|
     k
    by_cases hy5 : ((((y3_.2.2.2.2.2.2.1)).l.length : Nat) : Int) > 0
    ·rw [if_pos hy5] at h
     obtain rfl := oI h
     exact runC2 hm (kW [0, 3, 8, 9, 10] [(0, 3, false)] 1 0) (k0 <|
      k3 <|
      zz 22 (xdT hy5) <|
      ee) (by kernel_rfl)
    ·rw [if_neg hy5] at h
     obtain rfl := oI h
     exact runC2 hm (kW [0, 3, 8, 9, 10] [] 1 0) (k0 <|
      k3 <|
      zz 22 (xdF hy5) <|
      ee) (by kernel_rfl)
  ·rw [if_neg hy1] at h
   obtain rfl := oI h
   exact runC2 hm (kW [3] [] 1 0) (zz 1 (xdF hy1) <|
    ee) (by kernel_rfl)
 | cons x1a x1t =>
  dsimp only at h
  by_cases hy1 : x4 < x3
  ·rw [if_pos hy1] at h
   obtain ⟨hy2, h⟩ := gd h
   obtain ⟨y3_, hy3, h⟩ := oB h
   have k0 := fun {A L l} (k : PL A L l) => zz 1 (xdT hy1) <|
    zz 8 (xk4 (x0).num (x0).off (x0).cap hy2) <|
    zz 9 (lk5 hy3 (qbp_ hy2)) <|
    k
   by_cases hy4 : x4 > 0
   ·rw [if_pos hy4] at h
    have k3 := fun {A L l} (k : PL A L l) => zz 16 (xdT hy4) <|
     k
    by_cases hy5 : ((x2 : Nat) : Int) = 0
    ·rw [if_pos hy5] at h
     obtain rfl := oI h
     exact runC2 hm (kW [2] [] 0 0) (k0 <|
      k3 <|
      zz 22 (xeT hy5) <|
      ee) (by kernel_rfl)
    ·rw [if_neg hy5] at h
     obtain ⟨y6_, hy6, h⟩ := oB h
     obtain ⟨hy7, h⟩ := gd h
     obtain ⟨hy8, h⟩ := gd h
     obtain ⟨y9_, hy9, h⟩ := oB h
     obtain ⟨hy10, h⟩ := gd h
     obtain ⟨y11_, hy11, h⟩ := oB h
     obtain ⟨hy12, h⟩ := gd h
     obtain ⟨hy13, h⟩ := gd h
     obtain ⟨y14_, hy14, h⟩ := oB h
     have k4 := fun {A L l} (k : PL A L l) => zz 22 (xeF hy5) <|
      zz 28 (xnm hy6) <|
      zz 29 (xk17 0 U3 hy7) <|
      zz 36 (ok18 hy9 (hy8)) <|
      zz 37 (xk4 (x0).num (x0).off (x0).cap hy10) <|
      zz 38 (lk5 hy11 (qbp_ hy10)) <|
      zz 48 (ok19 hy9 (hy8)) <|
      zz 49 (xk10 (Nat.add ((y11_.2.2.2.2.2.2.1)).num 64) ((y11_.2.2.2.2.2.2.1)).off ((y11_.2.2.2.2.2.2.1)).cap hy12) <|
      zz 50 (nk11 hy14 hy13) <|
      k
     by_cases hy15 : y14_ = x4
     ·rw [if_pos hy15] at h
      have k13 := fun {A L l} (k : PL A L l) => zz 52 (xnF hy15) <|
       zz 59 (ok20 hy9 (hy8)) <|
       k
      by_cases hy16 : (y3_.2.2.1) < (y9_.2.2)
      ·rw [if_pos hy16] at h
       obtain rfl := oI h
       exact runC2 hm (kW [2] [] 0 0) (k0 <|
        k3 <|
        k4 <|
        k13 <|
        zz 60 (xdT hy16) <|
        ee) (by kernel_rfl)
      ·rw [if_neg hy16] at h
       have k15 := fun {A L l} (k : PL A L l) => zz 60 (xdF hy16) <|
        k
       by_cases hy17 : (y3_.2.2.2.2.1) > (y11_.2.2.2.2.1)
       ·rw [if_pos hy17] at h
        obtain rfl := oI h
        exact runC2 hm (kW [2] [] 0 0) (k0 <|
         k3 <|
         k4 <|
         k13 <|
         k15 <|
         zz 67 (xdT hy17) <|
         ee) (by kernel_rfl)
       ·rw [if_neg hy17] at h
        have k16 := fun {A L l} (k : PL A L l) => zz 67 (xdF hy17) <|
         zz 76 (ok19 hy9 (hy8)) <|
         yy 82 (.sto (layT (rows qe8_ (((x1a :: x1t)).set (y6_).toNat ((y9_.1), (w64 ((y9_.2.1) + 1)), (y9_.2.2)))))) <|
         ww (p := ∃ old, rdT (layT (rows qe8_ (x1a :: x1t))) 1 (Nat.add ((y6_).toNat * 3) 1) = some old) (Exists.elim (rows_stN qg4_ (0, 0, 0) (hr := hy9) (i := (y6_).toNat) (j := 1) (l := [(i6 (w64 ((y9_.2.1) + 1)))]) ((y9_.1), (w64 ((y9_.2.1) + 1)), (y9_.2.2)) (Nat.add ((y6_).toNat * 3) 1) rfl (hy8) (Nat.le_of_ble_eq_true rfl) rfl) fun o h => ⟨o, h.1⟩) <|
         ww (p := layL [(i6 (w64 ((y9_.2.1) + 1)))] (Nat.add ((y6_).toNat * 3) 1) (layT (rows qe8_ (x1a :: x1t))) = layT (rows qe8_ (((x1a :: x1t)).set (y6_).toNat ((y9_.1), (w64 ((y9_.2.1) + 1)), (y9_.2.2))))) (Exists.elim (rows_stN qg4_ (0, 0, 0) (hr := hy9) (i := (y6_).toNat) (j := 1) (l := [(i6 (w64 ((y9_.2.1) + 1)))]) ((y9_.1), (w64 ((y9_.2.1) + 1)), (y9_.2.2)) (Nat.add ((y6_).toNat * 3) 1) rfl (hy8) (Nat.le_of_ble_eq_true rfl) rfl) fun o h => h.2) <|
         yy 85 (.sto (layT (rows qe8_ (((x1a :: x1t)).set (y6_).toNat ((y9_.1), (w64 ((y9_.2.1) + 1)), (y3_.2.2.2.2.1)))))) <|
         ww (p := ∃ old, rdT (layT (rows qe8_ (((x1a :: x1t)).set (y6_).toNat ((y9_.1), (w64 ((y9_.2.1) + 1)), (y9_.2.2))))) 1 (Nat.add ((y6_).toNat * 3) 2) = some old) (Exists.elim (rows_stS qg4_ (i := (y6_).toNat) (j := 2) (l := [(i6 (y3_.2.2.2.2.1))]) ((y9_.1), (w64 ((y9_.2.1) + 1)), (y9_.2.2)) ((y9_.1), (w64 ((y9_.2.1) + 1)), (y3_.2.2.2.2.1)) (Nat.add ((y6_).toNat * 3) 2) rfl (hy8) (Nat.le_of_ble_eq_true rfl) rfl) fun o h => ⟨o, h.1⟩) <|
         ww (p := layL [(i6 (y3_.2.2.2.2.1))] (Nat.add ((y6_).toNat * 3) 2) (layT (rows qe8_ (((x1a :: x1t)).set (y6_).toNat ((y9_.1), (w64 ((y9_.2.1) + 1)), (y9_.2.2))))) = layT (rows qe8_ (((x1a :: x1t)).set (y6_).toNat ((y9_.1), (w64 ((y9_.2.1) + 1)), (y3_.2.2.2.2.1))))) (Exists.elim (rows_stS qg4_ (i := (y6_).toNat) (j := 2) (l := [(i6 (y3_.2.2.2.2.1))]) ((y9_.1), (w64 ((y9_.2.1) + 1)), (y9_.2.2)) ((y9_.1), (w64 ((y9_.2.1) + 1)), (y3_.2.2.2.2.1)) (Nat.add ((y6_).toNat * 3) 2) rfl (hy8) (Nat.le_of_ble_eq_true rfl) rfl) fun o h => h.2) <|
         yy 90 (.ld (i6 (w64 ((y9_.2.1) + 1)))) <|
         ww (p := (layT (rows qe8_ (((x1a :: x1t)).set (y6_).toNat ((y9_.1), (w64 ((y9_.2.1) + 1)), (y3_.2.2.2.2.1))))).get (Nat.add ((y6_).toNat * 3) 1) = some (i6 (w64 ((y9_.2.1) + 1)))) (rows_ldS qg4_ (i := (y6_).toNat) (j := 1) ((y9_.1), (w64 ((y9_.2.1) + 1)), (y3_.2.2.2.2.1)) (Nat.add ((y6_).toNat * 3) 1) rfl (hy8) (by decide) rfl) <|
         k
        by_cases hy18 : (w64 ((y9_.2.1) + 1)) = ((((y11_.2.2.2.2.2.2.1)).l.length : Nat) : Int)
        ·rw [if_pos hy18] at h
         obtain ⟨hy19, h⟩ := gd h
         have k26 := fun {A L l} (k : PL A L l) => zz 94 (xeT hy18) <|
          zz 99 (xnm hy6) <|
          yy 100 (.pur (sN 0 0 (y6_).toNat (Nat.add big 3))) <|
          ww (p := qks_ P 73 (sN 0 0 x2 (Nat.add big 3)) none (some (i6 y6_)) none Ax.h0 = some ((sN 0 0 (y6_).toNat (Nat.add big 3)), Ax.h0)) (slRowHi (e := 76) (es := 3) (by kernel_rfl) (by kernel_rfl) rfl rfl hy19) <|
          k
         by_cases hy20 : ((((y3_.2.2.2.2.2.2.1)).l.length : Nat) : Int) > 0
         ·rw [if_pos hy20] at h
          obtain ⟨hy21, h⟩ := gd h
          obtain ⟨hy22, h⟩ := gd h
          obtain rfl := oI h
          obtain ⟨za, zt, hz⟩ : ∃ a t, ((List.take (y6_).toNat (((x1a :: x1t)).set (y6_).toNat ((y9_.1), (w64 ((y9_.2.1) + 1)), (y3_.2.2.2.2.1)))) ++ [(x4, (0 : Int), (y3_.2.2.1))]) = a :: t := qwb_ (List.take (y6_).toNat (((x1a :: x1t)).set (y6_).toNat ((y9_.1), (w64 ((y9_.2.1) + 1)), (y3_.2.2.2.2.1)))) (x4, (0 : Int), (y3_.2.2.1))
          rw [hz]
          try rw [hz] at k0
          try rw [hz] at k3
          try rw [hz] at k4
          try rw [hz] at k13
          try rw [hz] at k15
          try rw [hz] at k16
          try rw [hz] at k26
          exact runC2 hm (kW [0, 3, 8, 9, 10] [(0, 4, true)] 1 0) (k0 <|
           k3 <|
           k4 <|
           k13 <|
           k15 <|
           k16 <|
           k26 <|
           zz 106 (xdT hy20) <|
           yy 114 (.app ⟨none, rows qe8_ (List.take (y6_).toNat (((x1a :: x1t)).set (y6_).toNat ((y9_.1), (w64 ((y9_.2.1) + 1)), (y3_.2.2.2.2.1)))), (rows qe8_ (za :: zt)), ((za :: zt)).length, false⟩) <|
           ww (p := 0 < 1) ((by decide)) <|
           ww (p := rdT (layT (rows qe8_ (((x1a :: x1t)).set (y6_).toNat ((y9_.1), (w64 ((y9_.2.1) + 1)), (y3_.2.2.2.2.1))))) (Nat.mul (y6_).toNat 3) 0 = some (rows qe8_ (List.take (y6_).toNat (((x1a :: x1t)).set (y6_).toNat ((y9_.1), (w64 ((y9_.2.1) + 1)), (y3_.2.2.2.2.1)))))) (qrm_ qg4_ _ _ hy21) <|
           ww (p := fits (Nat.add (y6_).toNat 1) 24 = true) (qtx_ hy22 (by have := hy22; show (_ : Nat) + _ ≤ _; omega)) <|
           ww (p := qcr_ [(i6 x4), (i6 (0 : Int)), (i6 (y3_.2.2.1))] = true) (rfl) <|
           ww (p := qcr_ (rows qe8_ (List.take (y6_).toNat (((x1a :: x1t)).set (y6_).toNat ((y9_.1), (w64 ((y9_.2.1) + 1)), (y3_.2.2.2.2.1))))) = true) (qqv_ qg4_ _) <|
           ww (p := rows qe8_ (List.take (y6_).toNat (((x1a :: x1t)).set (y6_).toNat ((y9_.1), (w64 ((y9_.2.1) + 1)), (y3_.2.2.2.2.1)))) ++ [(i6 x4), (i6 (0 : Int)), (i6 (y3_.2.2.1))] = (rows qe8_ (za :: zt))) (by rw [← hz]; exact (rows_app qe8_ (List.take (y6_).toNat (((x1a :: x1t)).set (y6_).toNat ((y9_.1), (w64 ((y9_.2.1) + 1)), (y3_.2.2.2.2.1)))) [(x4, (0 : Int), (y3_.2.2.1))])) <|
           ww (p := Nat.add (y6_).toNat 1 = ((za :: zt)).length) (by rw [← hz]; exact (take_len hy21 rfl)) <|
           ww (qm8_ qg4_ (za :: zt) 76) <|
           ee) (by kernel_rfl)
         ·rw [if_neg hy20] at h
          obtain rfl := oI h
          obtain ⟨za, zt, hz⟩ : ∃ a t, (((x1a :: x1t)).set (y6_).toNat ((y9_.1), (w64 ((y9_.2.1) + 1)), (y3_.2.2.2.2.1))) = a :: t := set_cons
          rw [hz]
          try rw [hz] at k0
          try rw [hz] at k3
          try rw [hz] at k4
          try rw [hz] at k13
          try rw [hz] at k15
          try rw [hz] at k16
          try rw [hz] at k26
          exact runC2 hm (kW [0, 3, 8, 9, 10] [(0, 0, true)] 1 0) (k0 <|
           k3 <|
           k4 <|
           k13 <|
           k15 <|
           k16 <|
           k26 <|
           zz 106 (xdF hy20) <|
           ww (qm8_ qg4_ (za :: zt) 76) <|
           ee) (by kernel_rfl)
        ·rw [if_neg hy18] at h
         have k26 := fun {A L l} (k : PL A L l) => zz 94 (xeF hy18) <|
          k
         by_cases hy19 : ((((y3_.2.2.2.2.2.2.1)).l.length : Nat) : Int) > 0
         ·rw [if_pos hy19] at h
          obtain ⟨hy20, h⟩ := gd h
          obtain ⟨hy21, h⟩ := gd h
          obtain rfl := oI h
          obtain ⟨za, zt, hz⟩ : ∃ a t, ((List.take x2 (((x1a :: x1t)).set (y6_).toNat ((y9_.1), (w64 ((y9_.2.1) + 1)), (y3_.2.2.2.2.1)))) ++ [(x4, (0 : Int), (y3_.2.2.1))]) = a :: t := qwb_ (List.take x2 (((x1a :: x1t)).set (y6_).toNat ((y9_.1), (w64 ((y9_.2.1) + 1)), (y3_.2.2.2.2.1)))) (x4, (0 : Int), (y3_.2.2.1))
          rw [hz]
          try rw [hz] at k0
          try rw [hz] at k3
          try rw [hz] at k4
          try rw [hz] at k13
          try rw [hz] at k15
          try rw [hz] at k16
          try rw [hz] at k26
          exact runC2 hm (kW [0, 3, 8, 9, 10] [(0, 4, true)] 1 0) (k0 <|
           k3 <|
           k4 <|
           k13 <|
           k15 <|
           k16 <|
           k26 <|
           zz 100 (xdT hy19) <|
           yy 108 (.app ⟨none, rows qe8_ (List.take x2 (((x1a :: x1t)).set (y6_).toNat ((y9_.1), (w64 ((y9_.2.1) + 1)), (y3_.2.2.2.2.1)))), (rows qe8_ (za :: zt)), ((za :: zt)).length, false⟩) <|
           ww (p := 0 < 1) ((by decide)) <|
           ww (p := rdT (layT (rows qe8_ (((x1a :: x1t)).set (y6_).toNat ((y9_.1), (w64 ((y9_.2.1) + 1)), (y3_.2.2.2.2.1))))) (Nat.mul x2 3) 0 = some (rows qe8_ (List.take x2 (((x1a :: x1t)).set (y6_).toNat ((y9_.1), (w64 ((y9_.2.1) + 1)), (y3_.2.2.2.2.1)))))) (qrm_ qg4_ _ _ hy20) <|
           ww (p := fits (Nat.add x2 1) 24 = true) (qtx_ hy21 (by have := hy21; show (_ : Nat) + _ ≤ _; omega)) <|
           ww (p := qcr_ [(i6 x4), (i6 (0 : Int)), (i6 (y3_.2.2.1))] = true) (rfl) <|
           ww (p := qcr_ (rows qe8_ (List.take x2 (((x1a :: x1t)).set (y6_).toNat ((y9_.1), (w64 ((y9_.2.1) + 1)), (y3_.2.2.2.2.1))))) = true) (qqv_ qg4_ _) <|
           ww (p := rows qe8_ (List.take x2 (((x1a :: x1t)).set (y6_).toNat ((y9_.1), (w64 ((y9_.2.1) + 1)), (y3_.2.2.2.2.1)))) ++ [(i6 x4), (i6 (0 : Int)), (i6 (y3_.2.2.1))] = (rows qe8_ (za :: zt))) (by rw [← hz]; exact (rows_app qe8_ (List.take x2 (((x1a :: x1t)).set (y6_).toNat ((y9_.1), (w64 ((y9_.2.1) + 1)), (y3_.2.2.2.2.1)))) [(x4, (0 : Int), (y3_.2.2.1))])) <|
           ww (p := Nat.add x2 1 = ((za :: zt)).length) (by rw [← hz]; exact (take_len hy20 rfl)) <|
           ww (qm8_ qg4_ (za :: zt) 76) <|
           ee) (by kernel_rfl)
         ·rw [if_neg hy19] at h
          obtain rfl := oI h
          obtain ⟨za, zt, hz⟩ : ∃ a t, (((x1a :: x1t)).set (y6_).toNat ((y9_.1), (w64 ((y9_.2.1) + 1)), (y3_.2.2.2.2.1))) = a :: t := set_cons
          rw [hz]
          try rw [hz] at k0
          try rw [hz] at k3
          try rw [hz] at k4
          try rw [hz] at k13
          try rw [hz] at k15
          try rw [hz] at k16
          try rw [hz] at k26
          exact runC2 hm (kW [0, 3, 8, 9, 10] [(0, 0, true)] 1 0) (k0 <|
           k3 <|
           k4 <|
           k13 <|
           k15 <|
           k16 <|
           k26 <|
           zz 100 (xdF hy19) <|
           ww (qm8_ qg4_ (za :: zt) 76) <|
           ee) (by kernel_rfl)
     ·rw [if_neg hy15] at h
      obtain rfl := oI h
      exact runC2 hm (kW [2] [] 0 0) (k0 <|
       k3 <|
       k4 <|
       zz 52 (xnT hy15) <|
       ee) (by kernel_rfl)
   ·rw [if_neg hy4] at h
    have k3 := fun {A L l} (k : PL A L l) => zz 16 (xdF hy4) <|
     k
    by_cases hy5 : ((((y3_.2.2.2.2.2.2.1)).l.length : Nat) : Int) > 0
    ·rw [if_pos hy5] at h
     obtain ⟨hy6, h⟩ := gd h
     obtain ⟨hy7, h⟩ := gd h
     obtain rfl := oI h
     obtain ⟨za, zt, hz⟩ : ∃ a t, ((List.take x2 (x1a :: x1t)) ++ [(x4, (0 : Int), (y3_.2.2.1))]) = a :: t := qwb_ (List.take x2 (x1a :: x1t)) (x4, (0 : Int), (y3_.2.2.1))
     rw [hz]
     try rw [hz] at k0
     try rw [hz] at k3
     exact runC2 hm (kW [0, 3, 8, 9, 10] [(0, 3, true)] 1 0) (k0 <|
      k3 <|
      zz 22 (xdT hy5) <|
      yy 30 (.app ⟨none, rows qe8_ (List.take x2 (x1a :: x1t)), (rows qe8_ (za :: zt)), ((za :: zt)).length, false⟩) <|
      ww (p := 0 < 1) ((by decide)) <|
      ww (p := rdT (layT (rows qe8_ (x1a :: x1t))) (Nat.mul x2 3) 0 = some (rows qe8_ (List.take x2 (x1a :: x1t)))) (qrm_ qg4_ _ _ hy6) <|
      ww (p := fits (Nat.add x2 1) 24 = true) (qtx_ hy7 (by have := hy7; show (_ : Nat) + _ ≤ _; omega)) <|
      ww (p := qcr_ [(i6 x4), (i6 (0 : Int)), (i6 (y3_.2.2.1))] = true) (rfl) <|
      ww (p := qcr_ (rows qe8_ (List.take x2 (x1a :: x1t))) = true) (qqv_ qg4_ _) <|
      ww (p := rows qe8_ (List.take x2 (x1a :: x1t)) ++ [(i6 x4), (i6 (0 : Int)), (i6 (y3_.2.2.1))] = (rows qe8_ (za :: zt))) (by rw [← hz]; exact (rows_app qe8_ (List.take x2 (x1a :: x1t)) [(x4, (0 : Int), (y3_.2.2.1))])) <|
      ww (p := Nat.add x2 1 = ((za :: zt)).length) (by rw [← hz]; exact (take_len hy6 rfl)) <|
      ww (qm8_ qg4_ (za :: zt) 76) <|
      ee) (by kernel_rfl)
    ·rw [if_neg hy5] at h
     obtain rfl := oI h
     exact runC2 hm (kW [0, 3, 8, 9, 10] [(0, 0, true)] 1 0) (k0 <|
      k3 <|
      zz 22 (xdF hy5) <|
      ww (qm8_ qg4_ (x1a :: x1t) 76) <|
      ee) (by kernel_rfl)
  ·rw [if_neg hy1] at h
   obtain rfl := oI h
   exact runC2 hm (kW [3] [(0, 0, true)] 1 0) (zz 1 (xdF hy1) <|
    ww (qm8_ qg4_ (x1a :: x1t) 76) <|
    ee) (by kernel_rfl)
theorem qhj_ (n : Nat) {rnd : Option Nat} (x0 : W8) (x3 : Int) (st : List (Int × Int × Int) × Nat × Int) (r : (Unit) ⊕ (List (Int × Int × Int) × Nat)) (h : qfo_ n x0 x3 st = some r) : qsh_ rnd x0 x3 st r :=
 CG.iter (b := qx_ P 47 [false, false, true, false, true, true]) (by kernel_rfl) (body := qb_ n x0 x3) (S := qhg_ x0 x3) (X := qci_ x0 x3)
  (fun s s' h => qnv_ n x0 x3 s (.inl s') h)
  (fun s r h => qnv_ n x0 x3 s (.inr r) h)
  (fun r => by intro hx; rcases r with _ | _ <;> cases hx) h
def qex_ (n : Nat) (a0 : W8) : Option (Bool) :=
 match qfo_ n a0 (((a0).l.length : Nat) : Int) (([] : List (Int × Int × Int)), 0, 0) with
 | none => none
 | some (.inl _) =>
  some false
 | some (.inr (c1_0, c1_1)) =>
  match c1_0 with
  | [] =>
   some true
  | c1_0a :: c1_0t =>
   if ((c1_1 : Nat) : Int) = 0 then
    some true
   else
    some false
theorem qrp_ (n : Nat) (a0 : W8) (r : Bool) (h : qex_ n a0 = some r) : qut_ a0 r := by
 unfold qex_ at h
 rcases hc1 : qfo_ n a0 (((a0).l.length : Nat) : Int) (([] : List (Int × Int × Int)), 0, 0) with _ | (⟨⟩ | ⟨c1_0, c1_1⟩)
 ·rw [hc1] at h; cases h
 ·rw [hc1] at h
  dsimp only at h
  obtain rfl := oI h
  exact runF2 hm (kW [2] [] 0 0) (ww (qhj_ n (rnd := none) a0 (((a0).l.length : Nat) : Int) (([] : List (Int × Int × Int)), 0, 0) (.inl ()) hc1) <|
   ll 10 ⟨(kW [0, 3, 8, 9, 10] [] 1 0), (qci_ a0 (((a0).l.length : Nat) : Int) (.inl ())).1, (qci_ a0 (((a0).l.length : Nat) : Int) (.inl ())).2⟩ <|
   ee) (by kernel_rfl)
 ·rw [hc1] at h
  dsimp only at h
  cases c1_0 with
  | nil =>
   dsimp only at h
   obtain rfl := oI h
   exact runF2 hm (kW [2] [] 0 0) (ww (qhj_ n (rnd := none) a0 (((a0).l.length : Nat) : Int) (([] : List (Int × Int × Int)), 0, 0) (.inr (([] : List (Int × Int × Int)), c1_1)) hc1) <|
    ll 10 ⟨(kW [0, 3, 8, 9, 10] [] 1 0), (qci_ a0 (((a0).l.length : Nat) : Int) (.inr (([] : List (Int × Int × Int)), c1_1))).1, (qci_ a0 (((a0).l.length : Nat) : Int) (.inr (([] : List (Int × Int × Int)), c1_1))).2⟩ <|
    ee) (by kernel_rfl)
  | cons c1_0a c1_0t =>
   dsimp only at h
   have k0 := fun {A L l} (k : PL A L l) => ww (qhj_ n (rnd := none) a0 (((a0).l.length : Nat) : Int) (([] : List (Int × Int × Int)), 0, 0) (.inr ((c1_0a :: c1_0t), c1_1)) hc1) <|
    ll 10 ⟨(kW [0, 3, 8, 9, 10] [] 1 0), (qci_ a0 (((a0).l.length : Nat) : Int) (.inr ((c1_0a :: c1_0t), c1_1))).1, (qci_ a0 (((a0).l.length : Nat) : Int) (.inr ((c1_0a :: c1_0t), c1_1))).2⟩ <|
    k
   by_cases hc2 : ((c1_1 : Nat) : Int) = 0
   ·rw [if_pos hc2] at h
    obtain rfl := oI h
    exact runF2 hm (kW [2] [] 0 0) (k0 <|
     zz 14 (xeT hc2) <|
     ee) (by kernel_rfl)
   ·rw [if_neg hc2] at h
    obtain rfl := oI h
    exact runF2 hm (kW [2] [] 0 0) (k0 <|
     zz 14 (xeF hc2) <|
     ee) (by kernel_rfl)

def qr6_ (a0 : Int) (a1 : Int) (a2 : Int) (a3 : Int) (a4 : Int) (a5 : Int) (a6 : NL) (a7 : Int) (r : Bool) : Value := match r with
 | o0 => (bO o0)
def qr7_ (a0 : Int) (a1 : Int) (a2 : Int) (a3 : Int) (a4 : Int) (a5 : Int) (a6 : NL) (a7 : Int) (r : Bool) : AH := match r with
 | o0 => ⟨sB [], 0, 0⟩
abbrev G_treesoundq1 (a0 : Int) (a1 : Int) (a2 : Int) (a3 : Int) (a4 : Int) (a5 : Int) (a6 : NL) (a7 : Int) (r : Bool) : Prop := Gv P (.func 48) [(Value.agg #[(i6 a0), (i6 a1), (i6 a2), (i6 a3), (i6 a4), (i6 a5), (nlV a6), (Value.int .u64 a7)])] ⟨sB [], 0, 0⟩ (qr6_ a0 a1 a2 a3 a4 a5 a6 a7 r) (qr7_ a0 a1 a2 a3 a4 a5 a6 a7 r)
abbrev C_treesoundq1 (a0 : Int) (a1 : Int) (a2 : Int) (a3 : Int) (a4 : Int) (a5 : Int) (a6 : NL) (a7 : Int) (r : Bool) (ins outs : BL) : CallA := ⟨0, ins, qr6_ a0 a1 a2 a3 a4 a5 a6 a7 r, qr7_ a0 a1 a2 a3 a4 a5 a6 a7 r, outs⟩
def qd9_ (n : Nat) (a0 : Int) (a1 : Int) (a2 : Int) (a3 : Int) (a4 : Int) (a5 : Int) (a6 : NL) (a7 : Int) : Option (Bool) :=
 if a2 < 0 then
  some false
 else
  if a2 > a4 then
   some false
  else
   if a5 ≤ a2 then
    some false
   else
    if a1 = 1 then
     if a3 = a2 then
      some true
     else
      some false
    else
     if a1 = 2 then
      if a3 = a2 then
       some true
      else
       some false
     else
      if a1 = 4 then
       if a3 = a2 then
        if a4 = a2 then
         if (((a6).l.length : Nat) : Int) = 0 then
          some true
         else
          some false
        else
         some false
       else
        some false
      else
       if a1 = 3 then
        if a3 ≥ a2 then
         if a3 ≤ a4 then
          if (((a6).l.length : Nat) : Int) = 0 then
           some true
          else
           some false
         else
          some false
        else
         some false
       else
        if a1 = 5 then
         if a3 ≥ a2 then
          if a3 ≤ a4 then
           if (((a6).l.length : Nat) : Int) = 0 then
            some true
           else
            some false
          else
           some false
         else
          some false
        else
         if a1 = 6 then
          if a3 ≥ a2 then
           if a3 ≤ a4 then
            if (((a6).l.length : Nat) : Int) = 0 then
             some true
            else
             some false
           else
            some false
          else
           some false
         else
          some false
theorem qt9_ (n : Nat) (a0 : Int) (a1 : Int) (a2 : Int) (a3 : Int) (a4 : Int) (a5 : Int) (a6 : NL) (a7 : Int) (r : Bool) (h : qd9_ n a0 a1 a2 a3 a4 a5 a6 a7 = some r) : G_treesoundq1 a0 a1 a2 a3 a4 a5 a6 a7 r := by
 unfold qd9_ at h
 by_cases hc1 : a2 < 0
 ·rw [if_pos hc1] at h
  obtain rfl := oI h
  exact runF2 hm (kW [2] [] 0 0) (zz 7 (xdT hc1) <|
   ee) (by kernel_rfl)
 ·rw [if_neg hc1] at h
  have k0 := fun {A L l} (k : PL A L l) => zz 7 (xdF hc1) <|
   k
  by_cases hc2 : a2 > a4
  ·rw [if_pos hc2] at h
   obtain rfl := oI h
   exact runF2 hm (kW [2] [] 0 0) (k0 <|
    zz 13 (xdT hc2) <|
    ee) (by kernel_rfl)
  ·rw [if_neg hc2] at h
   have k1 := fun {A L l} (k : PL A L l) => zz 13 (xdF hc2) <|
    k
   by_cases hc3 : a5 ≤ a2
   ·rw [if_pos hc3] at h
    obtain rfl := oI h
    exact runF2 hm (kW [2] [] 0 0) (k0 <|
     k1 <|
     zz 20 (xdT hc3) <|
     ee) (by kernel_rfl)
   ·rw [if_neg hc3] at h
    have k2 := fun {A L l} (k : PL A L l) => zz 20 (xdF hc3) <|
     k
    by_cases hc4 : a1 = 1
    ·rw [if_pos hc4] at h
     have k3 := fun {A L l} (k : PL A L l) => zz 30 (xeT hc4) <|
      k
     by_cases hc5 : a3 = a2
     ·rw [if_pos hc5] at h
      obtain rfl := oI h
      exact runF2 hm (kW [2] [] 0 0) (k0 <|
       k1 <|
       k2 <|
       k3 <|
       zz 39 (xeT hc5) <|
       ee) (by kernel_rfl)
     ·rw [if_neg hc5] at h
      obtain rfl := oI h
      exact runF2 hm (kW [2] [] 0 0) (k0 <|
       k1 <|
       k2 <|
       k3 <|
       zz 39 (xeF hc5) <|
       ee) (by kernel_rfl)
    ·rw [if_neg hc4] at h
     have k3 := fun {A L l} (k : PL A L l) => zz 30 (xeF hc4) <|
      k
     by_cases hc5 : a1 = 2
     ·rw [if_pos hc5] at h
      have k4 := fun {A L l} (k : PL A L l) => zz 33 (xeT hc5) <|
       k
      by_cases hc6 : a3 = a2
      ·rw [if_pos hc6] at h
       obtain rfl := oI h
       exact runF2 hm (kW [2] [] 0 0) (k0 <|
        k1 <|
        k2 <|
        k3 <|
        k4 <|
        zz 41 (xeT hc6) <|
        ee) (by kernel_rfl)
      ·rw [if_neg hc6] at h
       obtain rfl := oI h
       exact runF2 hm (kW [2] [] 0 0) (k0 <|
        k1 <|
        k2 <|
        k3 <|
        k4 <|
        zz 41 (xeF hc6) <|
        ee) (by kernel_rfl)
     ·rw [if_neg hc5] at h
      have k4 := fun {A L l} (k : PL A L l) => zz 33 (xeF hc5) <|
       k
      by_cases hc6 : a1 = 4
      ·rw [if_pos hc6] at h
       have k5 := fun {A L l} (k : PL A L l) => zz 37 (xeT hc6) <|
        k
       by_cases hc7 : a3 = a2
       ·rw [if_pos hc7] at h
        have k6 := fun {A L l} (k : PL A L l) => zz 45 (xeT hc7) <|
         k
        by_cases hc8 : a4 = a2
        ·rw [if_pos hc8] at h
         have k7 := fun {A L l} (k : PL A L l) => zz 51 (xeT hc8) <|
          k
         by_cases hc9 : (((a6).l.length : Nat) : Int) = 0
         ·rw [if_pos hc9] at h
          obtain rfl := oI h
          exact runF2 hm (kW [2] [] 0 0) (k0 <|
           k1 <|
           k2 <|
           k3 <|
           k4 <|
           k5 <|
           k6 <|
           k7 <|
           zz 57 (xeT hc9) <|
           ee) (by kernel_rfl)
         ·rw [if_neg hc9] at h
          obtain rfl := oI h
          exact runF2 hm (kW [2] [] 0 0) (k0 <|
           k1 <|
           k2 <|
           k3 <|
           k4 <|
           k5 <|
           k6 <|
           k7 <|
           zz 57 (xeF hc9) <|
           ee) (by kernel_rfl)
        ·rw [if_neg hc8] at h
         obtain rfl := oI h
         exact runF2 hm (kW [2] [] 0 0) (k0 <|
          k1 <|
          k2 <|
          k3 <|
          k4 <|
          k5 <|
          k6 <|
          zz 51 (xeF hc8) <|
          ee) (by kernel_rfl)
       ·rw [if_neg hc7] at h
        obtain rfl := oI h
        exact runF2 hm (kW [2] [] 0 0) (k0 <|
         k1 <|
         k2 <|
         k3 <|
         k4 <|
         k5 <|
         zz 45 (xeF hc7) <|
         ee) (by kernel_rfl)
      ·rw [if_neg hc6] at h
       have k5 := fun {A L l} (k : PL A L l) => zz 37 (xeF hc6) <|
        k
       by_cases hc7 : a1 = 3
       ·rw [if_pos hc7] at h
        have k6 := fun {A L l} (k : PL A L l) => zz 42 (xeT hc7) <|
         k
        by_cases hc8 : a3 ≥ a2
        ·rw [if_pos hc8] at h
         have k7 := fun {A L l} (k : PL A L l) => zz 51 (xdT hc8) <|
          k
         by_cases hc9 : a3 ≤ a4
         ·rw [if_pos hc9] at h
          have k8 := fun {A L l} (k : PL A L l) => zz 57 (xdT hc9) <|
           k
          by_cases hc10 : (((a6).l.length : Nat) : Int) = 0
          ·rw [if_pos hc10] at h
           obtain rfl := oI h
           exact runF2 hm (kW [2] [] 0 0) (k0 <|
            k1 <|
            k2 <|
            k3 <|
            k4 <|
            k5 <|
            k6 <|
            k7 <|
            k8 <|
            zz 63 (xeT hc10) <|
            ee) (by kernel_rfl)
          ·rw [if_neg hc10] at h
           obtain rfl := oI h
           exact runF2 hm (kW [2] [] 0 0) (k0 <|
            k1 <|
            k2 <|
            k3 <|
            k4 <|
            k5 <|
            k6 <|
            k7 <|
            k8 <|
            zz 63 (xeF hc10) <|
            ee) (by kernel_rfl)
         ·rw [if_neg hc9] at h
          obtain rfl := oI h
          exact runF2 hm (kW [2] [] 0 0) (k0 <|
           k1 <|
           k2 <|
           k3 <|
           k4 <|
           k5 <|
           k6 <|
           k7 <|
           zz 57 (xdF hc9) <|
           ee) (by kernel_rfl)
        ·rw [if_neg hc8] at h
         obtain rfl := oI h
         exact runF2 hm (kW [2] [] 0 0) (k0 <|
          k1 <|
          k2 <|
          k3 <|
          k4 <|
          k5 <|
          k6 <|
          zz 51 (xdF hc8) <|
          ee) (by kernel_rfl)
       ·rw [if_neg hc7] at h
        have k6 := fun {A L l} (k : PL A L l) => zz 42 (xeF hc7) <|
         k
        by_cases hc8 : a1 = 5
        ·rw [if_pos hc8] at h
         have k7 := fun {A L l} (k : PL A L l) => zz 46 (xeT hc8) <|
          k
         by_cases hc9 : a3 ≥ a2
         ·rw [if_pos hc9] at h
          have k8 := fun {A L l} (k : PL A L l) => zz 55 (xdT hc9) <|
           k
          by_cases hc10 : a3 ≤ a4
          ·rw [if_pos hc10] at h
           have k9 := fun {A L l} (k : PL A L l) => zz 61 (xdT hc10) <|
            k
           by_cases hc11 : (((a6).l.length : Nat) : Int) = 0
           ·rw [if_pos hc11] at h
            obtain rfl := oI h
            exact runF2 hm (kW [2] [] 0 0) (k0 <|
             k1 <|
             k2 <|
             k3 <|
             k4 <|
             k5 <|
             k6 <|
             k7 <|
             k8 <|
             k9 <|
             zz 67 (xeT hc11) <|
             ee) (by kernel_rfl)
           ·rw [if_neg hc11] at h
            obtain rfl := oI h
            exact runF2 hm (kW [2] [] 0 0) (k0 <|
             k1 <|
             k2 <|
             k3 <|
             k4 <|
             k5 <|
             k6 <|
             k7 <|
             k8 <|
             k9 <|
             zz 67 (xeF hc11) <|
             ee) (by kernel_rfl)
          ·rw [if_neg hc10] at h
           obtain rfl := oI h
           exact runF2 hm (kW [2] [] 0 0) (k0 <|
            k1 <|
            k2 <|
            k3 <|
            k4 <|
            k5 <|
            k6 <|
            k7 <|
            k8 <|
            zz 61 (xdF hc10) <|
            ee) (by kernel_rfl)
         ·rw [if_neg hc9] at h
          obtain rfl := oI h
          exact runF2 hm (kW [2] [] 0 0) (k0 <|
           k1 <|
           k2 <|
           k3 <|
           k4 <|
           k5 <|
           k6 <|
           k7 <|
           zz 55 (xdF hc9) <|
           ee) (by kernel_rfl)
        ·rw [if_neg hc8] at h
         have k7 := fun {A L l} (k : PL A L l) => zz 46 (xeF hc8) <|
          k
         by_cases hc9 : a1 = 6
         ·rw [if_pos hc9] at h
          have k8 := fun {A L l} (k : PL A L l) => zz 49 (xeT hc9) <|
           k
          by_cases hc10 : a3 ≥ a2
          ·rw [if_pos hc10] at h
           have k9 := fun {A L l} (k : PL A L l) => zz 57 (xdT hc10) <|
            k
           by_cases hc11 : a3 ≤ a4
           ·rw [if_pos hc11] at h
            have k10 := fun {A L l} (k : PL A L l) => zz 63 (xdT hc11) <|
             k
            by_cases hc12 : (((a6).l.length : Nat) : Int) = 0
            ·rw [if_pos hc12] at h
             obtain rfl := oI h
             exact runF2 hm (kW [2] [] 0 0) (k0 <|
              k1 <|
              k2 <|
              k3 <|
              k4 <|
              k5 <|
              k6 <|
              k7 <|
              k8 <|
              k9 <|
              k10 <|
              zz 69 (xeT hc12) <|
              ee) (by kernel_rfl)
            ·rw [if_neg hc12] at h
             obtain rfl := oI h
             exact runF2 hm (kW [2] [] 0 0) (k0 <|
              k1 <|
              k2 <|
              k3 <|
              k4 <|
              k5 <|
              k6 <|
              k7 <|
              k8 <|
              k9 <|
              k10 <|
              zz 69 (xeF hc12) <|
              ee) (by kernel_rfl)
           ·rw [if_neg hc11] at h
            obtain rfl := oI h
            exact runF2 hm (kW [2] [] 0 0) (k0 <|
             k1 <|
             k2 <|
             k3 <|
             k4 <|
             k5 <|
             k6 <|
             k7 <|
             k8 <|
             k9 <|
             zz 63 (xdF hc11) <|
             ee) (by kernel_rfl)
          ·rw [if_neg hc10] at h
           obtain rfl := oI h
           exact runF2 hm (kW [2] [] 0 0) (k0 <|
            k1 <|
            k2 <|
            k3 <|
            k4 <|
            k5 <|
            k6 <|
            k7 <|
            k8 <|
            zz 57 (xdF hc10) <|
            ee) (by kernel_rfl)
         ·rw [if_neg hc9] at h
          obtain rfl := oI h
          exact runF2 hm (kW [2] [] 0 0) (k0 <|
           k1 <|
           k2 <|
           k3 <|
           k4 <|
           k5 <|
           k6 <|
           k7 <|
           zz 49 (xeF hc9) <|
           ee) (by kernel_rfl)

def qr8_ (a0 : W8) (r : Int) : Value := match r with
 | o0 => (i6 o0)
def qr9_ (a0 : W8) (r : Int) : AH := match r with
 | o0 => ⟨sB [], 0, 0⟩
abbrev G_treeCheckq1 (a0 : W8) (r : Int) : Prop := Gv P (.func 43) [(wlV a0)] ⟨sB [], 0, 0⟩ (qr8_ a0 r) (qr9_ a0 r)
abbrev C_treeCheckq1 (a0 : W8) (r : Int) (ins outs : BL) : CallA := ⟨0, ins, qr8_ a0 r, qr9_ a0 r, outs⟩
def qi2_ (x0 : W8) (x1 : Int) (st : Int) : XSt := match st with
 | x2 => (sT 36 [(16, (wlV x0)), (17, (i6 x1)), (18, (i6 x2))], [], ⟨sB [], 0, 0⟩)
def qey_ (x0 : W8) (x1 : Int) (r : (Unit) ⊕ (Unit)) : Ex × XSt := match r with
 | .inl _ => (.ret, (sT 36 [(2, (i6 (2 : Int)))], [], ⟨sB [], 0, 0⟩))
 | .inr _ => (.exit 0, (sT 36 [], [], ⟨sB [], 0, 0⟩))
abbrev quv_ (rd : Option Nat) (x0 : W8) (x1 : Int) (st : Int) (r : (Unit) ⊕ (Unit)) : Prop := CG P rd (fnN P 43) 0 (qx_ P 43 [false, true, false, true, true, true]) (qi2_ x0 x1 st) (qey_ x0 x1 r)
def qca_ (n : Nat) (x0 : W8) (x1 : Int) (st : Int) : Option ((Int) ⊕ ((Unit) ⊕ (Unit))) := match st with
 | x2 =>
  if x2 < x1 then
   if 0 ≤ x2 ∧ x2 < (((x0).l.length : Nat) : Int) then
    ((some (((x0).l).getD (x2).toNat (0, 0, 0, 0, 0, 0, nl0, 0)))).bind fun y3_ =>
    (qd9_ n (y3_.1) (y3_.2.1) (y3_.2.2.1) (y3_.2.2.2.1) (y3_.2.2.2.2.1) (y3_.2.2.2.2.2.1) (y3_.2.2.2.2.2.2.1) (y3_.2.2.2.2.2.2.2)).bind fun y4_ =>
    if y4_ = true then
     if (y3_.2.1) = 1 then
      if x2 > 0 then
       some (.inr (.inl ()))
      else
       some (.inl (w64 (x2 + 1)))
     else
      some (.inl (w64 (x2 + 1)))
    else
     some (.inr (.inl ()))
   else none
  else
   some (.inr (.inr ()))
def qha_ (n : Nat) (x0 : W8) (x1 : Int) (st : Int) : Option ((Unit) ⊕ (Unit)) := iterM (qca_ n x0 x1) n st
theorem qp1_ (n : Nat) {rnd : Option Nat} (x0 : W8) (x1 : Int) (x2 : Int) (o : (Int) ⊕ ((Unit) ⊕ (Unit))) (h : qca_ n x0 x1 x2 = some o) : CG P rnd (fnN P 43) 0 (qx_ P 43 [false, false, true, false, true, true, true]) (qi2_ x0 x1 x2) (Sum.elim (fun s => (.normal, qi2_ x0 x1 s)) (fun r => qey_ x0 x1 r) o) := by
 unfold qca_ at h
 dsimp only at h
 by_cases hy1 : x2 < x1
 ·rw [if_pos hy1] at h
  obtain ⟨hy2, h⟩ := gd h
  obtain ⟨y3_, hy3, h⟩ := oB h
  obtain ⟨y4_, hy4, h⟩ := oB h
  have k0 := fun {A L l} (k : PL A L l) => zz 1 (xdT hy1) <|
   zz 8 (xk4 (x0).num (x0).off (x0).cap hy2) <|
   zz 9 (lk5 hy3 (qbp_ hy2)) <|
   yy 15 (.call (C_treesoundq1 (y3_.1) (y3_.2.1) (y3_.2.2.1) (y3_.2.2.2.1) (y3_.2.2.2.2.1) (y3_.2.2.2.2.2.1) (y3_.2.2.2.2.2.2.1) (y3_.2.2.2.2.2.2.2) y4_ [] [])) <|
   ww (qt9_ n (y3_.1) (y3_.2.1) (y3_.2.2.1) (y3_.2.2.2.1) (y3_.2.2.2.2.1) (y3_.2.2.2.2.2.1) (y3_.2.2.2.2.2.2.1) (y3_.2.2.2.2.2.2.2) y4_ hy4) <|
   k
  by_cases hy5 : y4_ = true
  ·rw [if_pos hy5] at h
   have k5 := fun {A L l} (k : PL A L l) => yy 16 (vf) <|
    ww (p := (Value.bool (!y4_)) = (Value.bool false)) (vBn hy5) <|
    k
   by_cases hy6 : (y3_.2.1) = 1
   ·rw [if_pos hy6] at h
    have k7 := fun {A L l} (k : PL A L l) => zz 20 (xeT hy6) <|
     k
    by_cases hy7 : x2 > 0
    ·rw [if_pos hy7] at h
     obtain rfl := oI h
     exact runC2 hm (kW [2] [] 0 0) (k0 <|
      k5 <|
      k7 <|
      zz 23 (xdT hy7) <|
      ee) (by kernel_rfl)
    ·rw [if_neg hy7] at h
     obtain rfl := oI h
     exact runC2 hm (kW [16, 17, 18] [] 0 0) (k0 <|
      k5 <|
      k7 <|
      zz 23 (xdF hy7) <|
      ee) (by kernel_rfl)
   ·rw [if_neg hy6] at h
    obtain rfl := oI h
    exact runC2 hm (kW [16, 17, 18] [] 0 0) (k0 <|
     k5 <|
     zz 20 (xeF hy6) <|
     ee) (by kernel_rfl)
  ·rw [if_neg hy5] at h
   obtain rfl := oI h
   exact runC2 hm (kW [2] [] 0 0) (k0 <|
    yy 16 (vt) <|
    ww (p := (Value.bool (!y4_)) = (Value.bool true)) (vBn (Bool.eq_false_iff.2 hy5)) <|
    ee) (by kernel_rfl)
 ·rw [if_neg hy1] at h
  obtain rfl := oI h
  exact runC2 hm (kW [] [] 0 0) (zz 1 (xdF hy1) <|
   ee) (by kernel_rfl)
theorem qm0_ (n : Nat) {rnd : Option Nat} (x0 : W8) (x1 : Int) (st : Int) (r : (Unit) ⊕ (Unit)) (h : qha_ n x0 x1 st = some r) : quv_ rnd x0 x1 st r :=
 CG.iter (b := qx_ P 43 [false, false, true, false, true, true, true]) (by kernel_rfl) (body := qca_ n x0 x1) (S := qi2_ x0 x1) (X := qey_ x0 x1)
  (fun s s' h => qp1_ n x0 x1 s (.inl s') h)
  (fun s r h => qp1_ n x0 x1 s (.inr r) h)
  (fun r => by intro hx; rcases r with _ | _ <;> cases hx) h
def qea_ (n : Nat) (a0 : W8) : Option (Int) :=
 if (((a0).l.length : Nat) : Int) > 524288 then
  some 3
 else
  if (((a0).l.length : Nat) : Int) = 0 then
   some 2
  else
   (qex_ n a0).bind fun c3_ =>
   if c3_ = true then
    match qha_ n a0 (((a0).l.length : Nat) : Int) 0 with
    | none => none
    | some (.inl _) =>
     some 2
    | some (.inr _) =>
     some 0
   else
    some 2
theorem qua_ (n : Nat) (a0 : W8) (r : Int) (h : qea_ n a0 = some r) : G_treeCheckq1 a0 r := by
 unfold qea_ at h
 by_cases hc1 : (((a0).l.length : Nat) : Int) > 524288
 ·rw [if_pos hc1] at h
  obtain rfl := oI h
  exact runF2 hm (kW [2] [] 0 0) (zz 6 (xdT hc1) <|
   ee) (by kernel_rfl)
 ·rw [if_neg hc1] at h
  have k0 := fun {A L l} (k : PL A L l) => zz 6 (xdF hc1) <|
   k
  by_cases hc2 : (((a0).l.length : Nat) : Int) = 0
  ·rw [if_pos hc2] at h
   obtain rfl := oI h
   exact runF2 hm (kW [2] [] 0 0) (k0 <|
    zz 12 (xeT hc2) <|
    ee) (by kernel_rfl)
  ·rw [if_neg hc2] at h
   obtain ⟨c3_, hc3, h⟩ := oB h
   have k1 := fun {A L l} (k : PL A L l) => zz 12 (xeF hc2) <|
    yy 15 (.call (quu_ a0 c3_ [] [])) <|
    ww (qrp_ n a0 c3_ hc3) <|
    k
   by_cases hc4 : c3_ = true
   ·rw [if_pos hc4] at h
    have k4 := fun {A L l} (k : PL A L l) => yy 16 (vf) <|
     ww (p := (Value.bool (!c3_)) = (Value.bool false)) (vBn hc4) <|
     k
    rcases hc5 : qha_ n a0 (((a0).l.length : Nat) : Int) 0 with _ | (⟨⟩ | ⟨⟩)
    ·rw [hc5] at h; cases h
    ·rw [hc5] at h
     dsimp only at h
     obtain rfl := oI h
     exact runF2 hm (kW [2] [] 0 0) (k0 <|
      k1 <|
      k4 <|
      ww (qm0_ n (rnd := none) a0 (((a0).l.length : Nat) : Int) 0 (.inl ()) hc5) <|
      ll 25 ⟨(kW [16, 17, 18] [] 0 0), (qey_ a0 (((a0).l.length : Nat) : Int) (.inl ())).1, (qey_ a0 (((a0).l.length : Nat) : Int) (.inl ())).2⟩ <|
      ee) (by kernel_rfl)
    ·rw [hc5] at h
     dsimp only at h
     obtain rfl := oI h
     exact runF2 hm (kW [2] [] 0 0) (k0 <|
      k1 <|
      k4 <|
      ww (qm0_ n (rnd := none) a0 (((a0).l.length : Nat) : Int) 0 (.inr ()) hc5) <|
      ll 25 ⟨(kW [16, 17, 18] [] 0 0), (qey_ a0 (((a0).l.length : Nat) : Int) (.inr ())).1, (qey_ a0 (((a0).l.length : Nat) : Int) (.inr ())).2⟩ <|
      ee) (by kernel_rfl)
   ·rw [if_neg hc4] at h
    obtain rfl := oI h
    exact runF2 hm (kW [2] [] 0 0) (k0 <|
     k1 <|
     yy 16 (vt) <|
     ww (p := (Value.bool (!c3_)) = (Value.bool true)) (vBn (Bool.eq_false_iff.2 hc4)) <|
     ee) (by kernel_rfl)

def qvi_ (a0 : W8) (a1 : Int) (r : Bool) : Value := match r with
 | o0 => (bO o0)
def qvj_ (a0 : W8) (a1 : Int) (r : Bool) : AH := match r with
 | o0 => ⟨sB [], 0, 0⟩
abbrev G_treehasq1 (a0 : W8) (a1 : Int) (r : Bool) : Prop := Gv P (.func 36) [(wlV a0), (i6 a1)] ⟨sB [], 0, 0⟩ (qvi_ a0 a1 r) (qvj_ a0 a1 r)
abbrev C_treehasq1 (a0 : W8) (a1 : Int) (r : Bool) (ins outs : BL) : CallA := ⟨0, ins, qvi_ a0 a1 r, qvj_ a0 a1 r, outs⟩
def qgk_ (n : Nat) (a0 : W8) (a1 : Int) : Option (Bool) :=
 if a1 ≥ 0 then
  if a1 < (((a0).l.length : Nat) : Int) then
   (qea_ n a0).bind fun c3_ =>
   if c3_ = 0 then
    some true
   else
    some false
  else
   some false
 else
  some false
theorem qwe_ (n : Nat) (a0 : W8) (a1 : Int) (r : Bool) (h : qgk_ n a0 a1 = some r) : G_treehasq1 a0 a1 r := by
 unfold qgk_ at h
 by_cases hc1 : a1 ≥ 0
 ·rw [if_pos hc1] at h
  have k0 := fun {A L l} (k : PL A L l) => zz 4 (xdT hc1) <|
   k
  by_cases hc2 : a1 < (((a0).l.length : Nat) : Int)
  ·rw [if_pos hc2] at h
   obtain ⟨c3_, hc3, h⟩ := oB h
   have k1 := fun {A L l} (k : PL A L l) => zz 9 (xdT hc2) <|
    yy 13 (.call (C_treeCheckq1 a0 c3_ [] [])) <|
    ww (qua_ n a0 c3_ hc3) <|
    k
   by_cases hc4 : c3_ = 0
   ·rw [if_pos hc4] at h
    obtain rfl := oI h
    exact runF2 hm (kW [4] [] 0 0) (k0 <|
     k1 <|
     zz 14 (xeT hc4) <|
     ee) (by kernel_rfl)
   ·rw [if_neg hc4] at h
    obtain rfl := oI h
    exact runF2 hm (kW [4] [] 0 0) (k0 <|
     k1 <|
     zz 14 (xeF hc4) <|
     ee) (by kernel_rfl)
  ·rw [if_neg hc2] at h
   obtain rfl := oI h
   exact runF2 hm (kW [4] [] 0 0) (k0 <|
    zz 9 (xdF hc2) <|
    ee) (by kernel_rfl)
 ·rw [if_neg hc1] at h
  obtain rfl := oI h
  exact runF2 hm (kW [4] [] 0 0) (zz 4 (xdF hc1) <|
   ee) (by kernel_rfl)

def qp2_ (a0 : Int) (r : Unit) : Value := match r with
 | _ => (bO false)
def qp3_ (a0 : Int) (r : Unit) : AH := match r with
 | _ => ⟨sB [], 0, 0⟩
abbrev quw_ (a0 : Int) (r : Unit) : Prop := Gv P (.func 49) [(i6 a0)] ⟨sB [], 0, 0⟩ (qp2_ a0 r) (qp3_ a0 r)
abbrev qux_ (a0 : Int) (r : Unit) (ins outs : BL) : CallA := ⟨0, ins, qp2_ a0 r, qp3_ a0 r, outs⟩
def qi3_ (n : Nat) (a0 : Int) : Option (Unit) :=
 some ()
theorem qrq_ (n : Nat) (a0 : Int) (r : Unit) (h : qi3_ n a0 = some r) : quw_ a0 r := by
 unfold qi3_ at h
 obtain rfl := oI h
 exact runF2 hm (kW [2] [] 0 0) (zz 5 (xnF (a := a0) rfl) <|
  ee) (by kernel_rfl)

def qq2_ (a0 : Int) (a1 : Int) (r : Bool) : Value := match r with
 | o0 => (bO o0)
def qq3_ (a0 : Int) (a1 : Int) (r : Bool) : AH := match r with
 | o0 => ⟨sB [], 0, 0⟩
abbrev qwf_ (a0 : Int) (a1 : Int) (r : Bool) : Prop := Gv P (.func 44) [(i6 a0), (i6 a1)] ⟨sB [], 0, 0⟩ (qq2_ a0 a1 r) (qq3_ a0 a1 r)
abbrev qwg_ (a0 : Int) (a1 : Int) (r : Bool) (ins outs : BL) : CallA := ⟨0, ins, qq2_ a0 a1 r, qq3_ a0 a1 r, outs⟩
def qie_ (n : Nat) (a0 : Int) (a1 : Int) : Option (Bool) :=
 (qi3_ n a0).bind fun _ =>
 if a0 < a1 then
  some true
 else
  some false
theorem qsi_ (n : Nat) (a0 : Int) (a1 : Int) (r : Bool) (h : qie_ n a0 a1 = some r) : qwf_ a0 a1 r := by
 unfold qie_ at h
 obtain ⟨_, hc1, h⟩ := oB h
 have k0 := fun {A L l} (k : PL A L l) => yy 4 (.call (qux_ a0 () [] [])) <|
  ww (qrq_ n a0 () hc1) <|
  k
 by_cases hc2 : a0 < a1
 ·rw [if_pos hc2] at h
  obtain rfl := oI h
  exact runF2 hm (kW [4] [] 0 0) (k0 <|
   zz 13 (xdT hc2) <|
   ee) (by kernel_rfl)
 ·rw [if_neg hc2] at h
  obtain rfl := oI h
  exact runF2 hm (kW [4] [] 0 0) (k0 <|
   zz 13 (xdF hc2) <|
   ee) (by kernel_rfl)

def qm1_ (a0 : Int) (r : Unit) : Value := match r with
 | _ => (bO false)
def qm2_ (a0 : Int) (r : Unit) : AH := match r with
 | _ => ⟨sB [], 0, 0⟩
abbrev qrr_ (a0 : Int) (r : Unit) : Prop := Gv P (.func 45) [(i6 a0)] ⟨sB [], 0, 0⟩ (qm1_ a0 r) (qm2_ a0 r)
abbrev qrs_ (a0 : Int) (r : Unit) (ins outs : BL) : CallA := ⟨0, ins, qm1_ a0 r, qm2_ a0 r, outs⟩
def qgl_ (n : Nat) (a0 : Int) : Option (Unit) :=
 some ()
theorem qpe_ (n : Nat) (a0 : Int) (r : Unit) (h : qgl_ n a0 = some r) : qrr_ a0 r := by
 unfold qgl_ at h
 obtain rfl := oI h
 exact runF2 hm (kW [2] [] 0 0) (zz 5 (xnF (a := a0) rfl) <|
  ee) (by kernel_rfl)

def qgb_ (a0 : NL) (a1 : Int) (r : Int × Bool) : Value := match r with
 | (o0, o1) => (Value.tuple #[(i6 o0), (bO o1)])
def qgc_ (a0 : NL) (a1 : Int) (r : Int × Bool) : AH := match r with
 | (o0, o1) => ⟨sB [], 0, 0⟩
abbrev qk4_ (a0 : NL) (a1 : Int) (r : Int × Bool) : Prop := Gv P (.func 37) [(nlV a0), (i6 a1)] ⟨sB [], 0, 0⟩ (qgb_ a0 a1 r) (qgc_ a0 a1 r)
abbrev qgd_ (a0 : NL) (a1 : Int) (r : Int × Bool) (ins outs : BL) : CallA := ⟨0, ins, qgb_ a0 a1 r, qgc_ a0 a1 r, outs⟩
def qcj_ (x0 : NL) (x1 : Int) (x2 : Int) (st : Int × Int) : XSt := match st with
 | (x3, x4) => (sT 54 [(0, (nlV x0)), (1, (i6 x1)), (6, (i6 x2)), (7, (i6 x3)), (8, (i6 x4))], [], ⟨sB [], 0, 0⟩)
def qbr_ (x0 : NL) (x1 : Int) (x2 : Int) (r : Int) : Ex × XSt := match r with
 | z0 => (.exit 0, (sT 54 [(0, (nlV x0)), (1, (i6 x1)), (6, (i6 x2)), (7, (i6 z0))], [], ⟨sB [], 0, 0⟩))
abbrev qjv_ (rnd : Option Nat) (x0 : NL) (x1 : Int) (x2 : Int) (st : Int × Int) (c : Ex × XSt) : Prop := CG P rnd (fnN P 37) 0 (qx_ P 37 [false, false, false, true, true, true]) (qcj_ x0 x1 x2 st) c
abbrev qjw_ (rd : Option Nat) (x0 : NL) (x1 : Int) (x2 : Int) (st : Int × Int) (r : Int) : Prop := CG P rd (fnN P 37) 0 (qx_ P 37 [false, false, true, true, true]) (qcj_ x0 x1 x2 st) (qbr_ x0 x1 x2 r)
def q5_ (n : Nat) (x0 : NL) (x1 : Int) (x2 : Int) (st : Int × Int) : Option ((Int × Int) ⊕ (Int)) := match st with
 | (x3, x4) =>
  if x3 < x4 then
   if 0 ≤ (IntKind.i64.wrap (Int.fdiv (IntKind.u64.wrap (w64 (x3 + x4))) 2)) ∧ (IntKind.i64.wrap (Int.fdiv (IntKind.u64.wrap (w64 (x3 + x4))) 2)) < (((x0).l.length : Nat) : Int) then
    if ((IntKind.i64.wrap (Int.fdiv (IntKind.u64.wrap (w64 (x3 + x4))) 2))).toNat < ((x0).l).length then
     ((some (((x0).l).getD ((IntKind.i64.wrap (Int.fdiv (IntKind.u64.wrap (w64 (x3 + x4))) 2))).toNat 0))).bind fun y4_ =>
     (qie_ n y4_ x1).bind fun y5_ =>
     if y5_ = true then
      ((some (w64 ((IntKind.i64.wrap (Int.fdiv (IntKind.u64.wrap (w64 (x3 + x4))) 2)) + 1)))).bind fun y7_ =>
      some (.inl (y7_, x4))
     else
      some (.inl (x3, (IntKind.i64.wrap (Int.fdiv (IntKind.u64.wrap (w64 (x3 + x4))) 2))))
    else none
   else none
  else
   some (.inr x3)
def qdp_ (n : Nat) (x0 : NL) (x1 : Int) (x2 : Int) (st : Int × Int) : Option (Int) := iterM (q5_ n x0 x1 x2) n st
theorem qfp_ (n : Nat) {rnd : Option Nat} (x0 : NL) (x1 : Int) (x2 : Int) (st : Int × Int) (o : (Int × Int) ⊕ (Int)) (h : q5_ n x0 x1 x2 st = some o) : qjv_ rnd x0 x1 x2 st (Sum.elim (fun s => (.normal, qcj_ x0 x1 x2 s)) (fun r => qbr_ x0 x1 x2 r) o) := by
 obtain ⟨x3, x4⟩ := st
 unfold q5_ at h
 dsimp only at h
 by_cases hy1 : x3 < x4
 ·rw [if_pos hy1] at h
  obtain ⟨hy2, h⟩ := gd h
  obtain ⟨hy3, h⟩ := gd h
  obtain ⟨y4_, hy4, h⟩ := oB h
  obtain ⟨y5_, hy5, h⟩ := oB h
  have k0 := fun {A L l} (k : PL A L l) => zz 4 (xdT hy1) <|
   zz 18 (xk10 (Nat.add (x0).num 64) (x0).off (x0).cap hy2) <|
   zz 19 (nk11 hy4 hy3) <|
   yy 21 (.call (qwg_ y4_ x1 y5_ [] [])) <|
   ww (qsi_ n y4_ x1 y5_ hy5) <|
   k
  by_cases hy6 : y5_ = true
  ·rw [if_pos hy6] at h
   obtain ⟨y7_, hy7, h⟩ := oB h
   obtain rfl := oI h
   exact runC2 hm (kW [0, 1, 6, 7, 8] [] 0 0) (k0 <|
    zz 22 (xbT hy6) <|
    zz 24 (xnm hy7) <|
    ee) (by kernel_rfl)
  ·rw [if_neg hy6] at h
   obtain rfl := oI h
   exact runC2 hm (kW [0, 1, 6, 7, 8] [] 0 0) (k0 <|
    zz 22 (xbF hy6) <|
    ee) (by kernel_rfl)
 ·rw [if_neg hy1] at h
  obtain rfl := oI h
  exact runC2 hm (kW [0, 1, 6, 7] [] 0 0) (zz 4 (xdF hy1) <|
   ee) (by kernel_rfl)
theorem qil_ (n : Nat) {rnd : Option Nat} (x0 : NL) (x1 : Int) (x2 : Int) (st : Int × Int) (r : Int) (h : qdp_ n x0 x1 x2 st = some r) : qjw_ rnd x0 x1 x2 st r :=
 CG.iter (b := qx_ P 37 [false, false, false, true, true, true]) (by kernel_rfl) (body := q5_ n x0 x1 x2) (S := qcj_ x0 x1 x2) (X := qbr_ x0 x1 x2)
  (fun s s' h => qfp_ n x0 x1 x2 s (.inl s') h)
  (fun s r h => qfp_ n x0 x1 x2 s (.inr r) h)
  (fun r => by intro hx; cases hx) h
def qe_ (n : Nat) (a0 : NL) (a1 : Int) : Option (Int × Bool) :=
 (qdp_ n a0 a1 (((a0).l.length : Nat) : Int) (0, (((a0).l.length : Nat) : Int))).bind fun c1_ =>
 if c1_ < (((a0).l.length : Nat) : Int) then
  if 0 ≤ c1_ ∧ c1_ < (((a0).l.length : Nat) : Int) then
   if (c1_).toNat < ((a0).l).length then
    ((some (((a0).l).getD (c1_).toNat 0))).bind fun c5_ =>
    if c5_ = a1 then
     some (c1_, true)
    else
     (qgl_ n c5_).bind fun _ =>
     some (c1_, false)
   else none
  else none
 else
  some (c1_, false)
theorem qfb_ (n : Nat) (a0 : NL) (a1 : Int) (r : Int × Bool) (h : qe_ n a0 a1 = some r) : qk4_ a0 a1 r := by
 unfold qe_ at h
 obtain ⟨c1_, hc1, h⟩ := oB h
 have k0 := fun {A L l} (k : PL A L l) => ww (qil_ n (rnd := none) a0 a1 (((a0).l.length : Nat) : Int) (0, (((a0).l.length : Nat) : Int)) c1_ hc1) <|
  ll 13 ⟨(kW [0, 1, 6, 7, 8] [] 0 0), (qbr_ a0 a1 (((a0).l.length : Nat) : Int) c1_).1, (qbr_ a0 a1 (((a0).l.length : Nat) : Int) c1_).2⟩ <|
  k
 by_cases hc2 : c1_ < (((a0).l.length : Nat) : Int)
 ·rw [if_pos hc2] at h
  obtain ⟨hc3, h⟩ := gd h
  obtain ⟨hc4, h⟩ := gd h
  obtain ⟨c5_, hc5, h⟩ := oB h
  have k2 := fun {A L l} (k : PL A L l) => zz 18 (xdT hc2) <|
   zz 22 (xk10 (Nat.add (a0).num 64) (a0).off (a0).cap hc3) <|
   zz 23 (nk11 hc5 hc4) <|
   k
  by_cases hc6 : c5_ = a1
  ·rw [if_pos hc6] at h
   obtain rfl := oI h
   exact runF2 hm (kW [4, 5] [] 0 0) (k0 <|
    k2 <|
    zz 25 (xeT hc6) <|
    ee) (by kernel_rfl)
  ·rw [if_neg hc6] at h
   obtain ⟨_, hc7, h⟩ := oB h
   obtain rfl := oI h
   exact runF2 hm (kW [4, 5] [] 0 0) (k0 <|
    k2 <|
    zz 25 (xeF hc6) <|
    zz 29 (xk10 (Nat.add (a0).num 64) (a0).off (a0).cap hc3) <|
    zz 30 (nk11 hc5 hc4) <|
    yy 31 (.call (qrs_ c5_ () [] [])) <|
    ww (qpe_ n c5_ () hc7) <|
    ee) (by kernel_rfl)
 ·rw [if_neg hc2] at h
  obtain rfl := oI h
  exact runF2 hm (kW [4, 5] [] 0 0) (k0 <|
   zz 18 (xdF hc2) <|
   ee) (by kernel_rfl)

def qub_ (a0 : W8) (a1 : Int) (r : NL) : Value := match r with
 | o0 => (nlV o0)
def quc_ (a0 : W8) (a1 : Int) (r : NL) : AH := match r with
 | o0 => ⟨sB [], 0, 0⟩
abbrev G_treePathq1 (a0 : W8) (a1 : Int) (r : NL) : Prop := Gv P (.func 27) [(wlV a0), (i6 a1)] ⟨sB [], 0, 0⟩ (qub_ a0 a1 r) (quc_ a0 a1 r)
abbrev C_treePathq1 (a0 : W8) (a1 : Int) (r : NL) (ins outs : BL) : CallA := ⟨0, ins, qub_ a0 a1 r, quc_ a0 a1 r, outs⟩
def qgm_ (x0 : W8) (x1 : Int) (st : Int × List Int) : XSt := match st with
 | (x2, x3) => (sT 50 [(0, (wlV x0)), (1, (i6 x1)), (5, (i6 x2)), (6, (sN 0 0 (x3).length (Nat.add big 1)))], [], ⟨sB [(0, (cB (iv x3) 3))], 1, 0⟩)
def qd5_ (x0 : W8) (x1 : Int) (r : List Int) : Ex × XSt := match r with
 | z0 => (.exit 0, (sT 50 [(6, (sN 0 0 (z0).length (Nat.add big 1)))], [], ⟨sB [(0, (cB (iv z0) 3))], 1, 0⟩))
abbrev qwh_ (rnd : Option Nat) (x0 : W8) (x1 : Int) (st : Int × List Int) (c : Ex × XSt) : Prop := CG P rnd (fnN P 27) 0 (qx_ P 27 [false, false, false, true, true, true, true]) (qgm_ x0 x1 st) c
def qer_ (n : Nat) (x0 : W8) (x1 : Int) (st : Int × List Int) : Option ((Int × List Int) ⊕ (List Int)) := match st with
 | (x2, x3) =>
  if x2 = x1 then
   some (.inr x3)
  else
   if 0 ≤ x2 ∧ x2 < (((x0).l.length : Nat) : Int) then
    ((some (((x0).l).getD (x2).toNat (0, 0, 0, 0, 0, 0, nl0, 0)))).bind fun y3_ =>
    (qe_ n (y3_.2.2.2.2.2.2.1) x1).bind fun t => match t with
    | (y4_0, y4_1) =>
     if y4_1 = true then
      if 0 ≤ y4_0 ∧ y4_0 < ((((y3_.2.2.2.2.2.2.1)).l.length : Nat) : Int) then
       if (y4_0).toNat < (((y3_.2.2.2.2.2.2.1)).l).length then
        ((some ((((y3_.2.2.2.2.2.2.1)).l).getD (y4_0).toNat 0))).bind fun y8_ =>
        if 0 ≤ y8_ ∧ y8_ < (((x0).l.length : Nat) : Int) then
         ((some (((x0).l).getD (y8_).toNat (0, 0, 0, 0, 0, 0, nl0, 0)))).bind fun y10_ =>
         if ((x3).length + 1) * 8 ≤ 140737488355328 then
          some (.inl (y8_, (x3 ++ [(y10_.1)])))
         else none
        else none
       else none
      else none
     else
      if 0 ≤ (w64 (y4_0 - 1)) ∧ (w64 (y4_0 - 1)) < ((((y3_.2.2.2.2.2.2.1)).l.length : Nat) : Int) then
       if ((w64 (y4_0 - 1))).toNat < (((y3_.2.2.2.2.2.2.1)).l).length then
        ((some ((((y3_.2.2.2.2.2.2.1)).l).getD ((w64 (y4_0 - 1))).toNat 0))).bind fun y8_ =>
        if 0 ≤ y8_ ∧ y8_ < (((x0).l.length : Nat) : Int) then
         ((some (((x0).l).getD (y8_).toNat (0, 0, 0, 0, 0, 0, nl0, 0)))).bind fun y10_ =>
         if ((x3).length + 1) * 8 ≤ 140737488355328 then
          some (.inl (y8_, (x3 ++ [(y10_.1)])))
         else none
        else none
       else none
      else none
   else none
def qkh_ (n : Nat) (x0 : W8) (x1 : Int) (st : Int × List Int) : Option (List Int) := iterM (qer_ n x0 x1) n st
theorem qq4_ (n : Nat) {rnd : Option Nat} (x0 : W8) (x1 : Int) (st : Int × List Int) (o : (Int × List Int) ⊕ (List Int)) (h : qer_ n x0 x1 st = some o) : qwh_ rnd x0 x1 st (Sum.elim (fun s => (.normal, qgm_ x0 x1 s)) (fun r => qd5_ x0 x1 r) o) := by
 obtain ⟨x2, x3⟩ := st
 unfold qer_ at h
 dsimp only at h
 by_cases hy1 : x2 = x1
 ·rw [if_pos hy1] at h
  obtain rfl := oI h
  exact runC2 hm (kW [6] [(0, 0, true)] 1 0) (zz 4 (xnF hy1) <|
   ww (qok_ x3 3) <|
   ee) (by kernel_rfl)
 ·rw [if_neg hy1] at h
  obtain ⟨hy2, h⟩ := gd h
  obtain ⟨y3_, hy3, h⟩ := oB h
  obtain ⟨⟨y4_0, y4_1⟩, hy4, h⟩ := oB h
  dsimp only at h
  have k0 := fun {A L l} (k : PL A L l) => zz 4 (xnT hy1) <|
   zz 10 (xk4 (x0).num (x0).off (x0).cap hy2) <|
   zz 11 (fk23 (x0).num (Nat.add (x0).off ((x2).toNat * 8))) <|
   zz 12 (lk24 hy3 (qbp_ hy2)) <|
   yy 17 (.call (qgd_ (y3_.2.2.2.2.2.2.1) x1 (y4_0, y4_1) [] [])) <|
   ww (qfb_ n (y3_.2.2.2.2.2.2.1) x1 (y4_0, y4_1) hy4) <|
   k
  by_cases hy5 : y4_1 = true
  ·rw [if_pos hy5] at h
   obtain ⟨hy6, h⟩ := gd h
   obtain ⟨hy7, h⟩ := gd h
   obtain ⟨y8_, hy8, h⟩ := oB h
   obtain ⟨hy9, h⟩ := gd h
   obtain ⟨y10_, hy10, h⟩ := oB h
   obtain ⟨hy11, h⟩ := gd h
   obtain rfl := oI h
   exact runC2 hm (kW [0, 1, 5, 6] [(0, 2, true)] 1 0) (k0 <|
    yy 26 (vf) <|
    ww (p := (Value.bool (!y4_1)) = (Value.bool false)) (vBn hy5) <|
    zz 31 (xk10 (Nat.add ((y3_.2.2.2.2.2.2.1)).num 64) ((y3_.2.2.2.2.2.2.1)).off ((y3_.2.2.2.2.2.2.1)).cap hy6) <|
    zz 32 (nk11 hy8 hy7) <|
    zz 37 (xk4 (x0).num (x0).off (x0).cap hy9) <|
    zz 38 (fk21 (x0).num (Nat.add (x0).off ((y8_).toNat * 8))) <|
    zz 39 (lk22 hy10 (qbp_ hy9)) <|
    yy 41 (.app ⟨none, iv x3, (iv (x3 ++ [(y10_.1)])), ((x3 ++ [(y10_.1)])).length, false⟩) <|
    ww (p := 0 < 1) ((by decide)) <|
    ww (p := rdT (layT (iv x3)) (Nat.mul (x3).length 1) 0 = some (iv x3)) (iv_rd _) <|
    ww (p := fits (Nat.add (x3).length 1) 8 = true) (qtx_ hy11 (by have := hy11; show (_ : Nat) + _ ≤ _; omega)) <|
    ww (p := qcr_ [(i6 (y10_.1))] = true) (rfl) <|
    ww (p := qcr_ (iv x3) = true) (iv_cells _) <|
    ww (p := iv x3 ++ [(i6 (y10_.1))] = (iv (x3 ++ [(y10_.1)]))) (by simp [iv]) <|
    ww (p := Nat.add (x3).length 1 = ((x3 ++ [(y10_.1)])).length) (by simp) <|
    ww (qok_ (x3 ++ [(y10_.1)]) 3) <|
    ee) (by kernel_rfl)
  ·rw [if_neg hy5] at h
   obtain ⟨hy6, h⟩ := gd h
   obtain ⟨hy7, h⟩ := gd h
   obtain ⟨y8_, hy8, h⟩ := oB h
   obtain ⟨hy9, h⟩ := gd h
   obtain ⟨y10_, hy10, h⟩ := oB h
   obtain ⟨hy11, h⟩ := gd h
   obtain rfl := oI h
   exact runC2 hm (kW [0, 1, 5, 6] [(0, 2, true)] 1 0) (k0 <|
    yy 26 (vt) <|
    ww (p := (Value.bool (!y4_1)) = (Value.bool true)) (vBn (Bool.eq_false_iff.2 hy5)) <|
    zz 34 (xk10 (Nat.add ((y3_.2.2.2.2.2.2.1)).num 64) ((y3_.2.2.2.2.2.2.1)).off ((y3_.2.2.2.2.2.2.1)).cap hy6) <|
    zz 35 (nk11 hy8 hy7) <|
    zz 40 (xk4 (x0).num (x0).off (x0).cap hy9) <|
    zz 41 (fk21 (x0).num (Nat.add (x0).off ((y8_).toNat * 8))) <|
    zz 42 (lk22 hy10 (qbp_ hy9)) <|
    yy 44 (.app ⟨none, iv x3, (iv (x3 ++ [(y10_.1)])), ((x3 ++ [(y10_.1)])).length, false⟩) <|
    ww (p := 0 < 1) ((by decide)) <|
    ww (p := rdT (layT (iv x3)) (Nat.mul (x3).length 1) 0 = some (iv x3)) (iv_rd _) <|
    ww (p := fits (Nat.add (x3).length 1) 8 = true) (qtx_ hy11 (by have := hy11; show (_ : Nat) + _ ≤ _; omega)) <|
    ww (p := qcr_ [(i6 (y10_.1))] = true) (rfl) <|
    ww (p := qcr_ (iv x3) = true) (iv_cells _) <|
    ww (p := iv x3 ++ [(i6 (y10_.1))] = (iv (x3 ++ [(y10_.1)]))) (by simp [iv]) <|
    ww (p := Nat.add (x3).length 1 = ((x3 ++ [(y10_.1)])).length) (by simp) <|
    ww (qok_ (x3 ++ [(y10_.1)]) 3) <|
    ee) (by kernel_rfl)
theorem qnw_ (n : Nat) {rnd : Option Nat} (x0 : W8) (x1 : Int) (st : Int × List Int) (r : List Int) (h : qkh_ n x0 x1 st = some r) : LG P rnd (fnN P 27) 0 (qx_ P 27 [false, false, false, true, true, true, true]) (qgm_ x0 x1 st) (qd5_ x0 x1 r) :=
 LG.iter (body := qer_ n x0 x1) (S := qgm_ x0 x1) (X := qd5_ x0 x1)
  (fun s s' h => qq4_ n x0 x1 s (.inl s') h)
  (fun s r h => qq4_ n x0 x1 s (.inr r) h)
  (fun r => by intro hx; cases hx) _ _ _ h
def qge_ (n : Nat) (a0 : W8) (a1 : Int) : Option (NL) :=
 (qgk_ n a0 a1).bind fun c1_ =>
 if c1_ = true then
  if 0 ≤ (0 : Int) ∧ (0 : Int) < (((a0).l.length : Nat) : Int) then
   ((some (((a0).l).getD ((0 : Int)).toNat (0, 0, 0, 0, 0, 0, nl0, 0)))).bind fun c4_ =>
   if (0 : Int) = a1 then
    if hc6 : [(c4_.1)].length ≤ 140737488355328 then
     some (frzL [(c4_.1)] hc6)
    else none
   else
    (qe_ n (c4_.2.2.2.2.2.2.1) a1).bind fun t => match t with
    | (c6_0, c6_1) =>
     if c6_1 = true then
      if 0 ≤ c6_0 ∧ c6_0 < ((((c4_.2.2.2.2.2.2.1)).l.length : Nat) : Int) then
       if (c6_0).toNat < (((c4_.2.2.2.2.2.2.1)).l).length then
        ((some ((((c4_.2.2.2.2.2.2.1)).l).getD (c6_0).toNat 0))).bind fun c10_ =>
        if 0 ≤ c10_ ∧ c10_ < (((a0).l.length : Nat) : Int) then
         ((some (((a0).l).getD (c10_).toNat (0, 0, 0, 0, 0, 0, nl0, 0)))).bind fun c12_ =>
         (qkh_ n a0 a1 (c10_, [(c4_.1), (c12_.1)])).bind fun c13_ =>
         if hc14 : c13_.length ≤ 140737488355328 then
          some (frzL c13_ hc14)
         else none
        else none
       else none
      else none
     else
      if 0 ≤ (w64 (c6_0 - 1)) ∧ (w64 (c6_0 - 1)) < ((((c4_.2.2.2.2.2.2.1)).l.length : Nat) : Int) then
       if ((w64 (c6_0 - 1))).toNat < (((c4_.2.2.2.2.2.2.1)).l).length then
        ((some ((((c4_.2.2.2.2.2.2.1)).l).getD ((w64 (c6_0 - 1))).toNat 0))).bind fun c10_ =>
        if 0 ≤ c10_ ∧ c10_ < (((a0).l.length : Nat) : Int) then
         ((some (((a0).l).getD (c10_).toNat (0, 0, 0, 0, 0, 0, nl0, 0)))).bind fun c12_ =>
         (qkh_ n a0 a1 (c10_, [(c4_.1), (c12_.1)])).bind fun c13_ =>
         if hc14 : c13_.length ≤ 140737488355328 then
          some (frzL c13_ hc14)
         else none
        else none
       else none
      else none
  else none
 else
  some nl0
theorem quy_ (n : Nat) (a0 : W8) (a1 : Int) (r : NL) (h : qge_ n a0 a1 = some r) : G_treePathq1 a0 a1 r := by
 unfold qge_ at h
 obtain ⟨c1_, hc1, h⟩ := oB h
 have k0 := fun {A L l} (k : PL A L l) => yy 6 (.call (C_treehasq1 a0 a1 c1_ [] [])) <|
  ww (qwe_ n a0 a1 c1_ hc1) <|
  k
 by_cases hc2 : c1_ = true
 ·rw [if_pos hc2] at h
  obtain ⟨hc3, h⟩ := gd h
  obtain ⟨c4_, hc4, h⟩ := oB h
  have k2 := fun {A L l} (k : PL A L l) => yy 7 (vf) <|
   ww (p := (Value.bool (!c1_)) = (Value.bool false)) (vBn hc2) <|
   zz 13 (xk4 (a0).num (a0).off (a0).cap hc3) <|
   zz 14 (fk21 (a0).num (Nat.add (a0).off (((0 : Int)).toNat * 8))) <|
   zz 15 (lk22 hc4 (qbp_ hc3)) <|
   k
  by_cases hc5 : (0 : Int) = a1
  ·rw [if_pos hc5] at h
   obtain ⟨hc6, h⟩ := gdD h
   obtain rfl := oI h
   exact runF2 hm ⟨[4], [], 0, 0, [(0, Nat.add (2 * cod [(c4_.1)] + 1) 64)], true, [], [], []⟩ (k0 <|
    k2 <|
    zz 25 (xnF hc5) <|
    ww (frz_ok qiw_ qtz_ [(c4_.1)]) <|
    ee) (by kernel_rfl)
  ·rw [if_neg hc5] at h
   obtain ⟨⟨c6_0, c6_1⟩, hc6, h⟩ := oB h
   dsimp only at h
   have k7 := fun {A L l} (k : PL A L l) => zz 25 (xnT hc5) <|
    zz 31 (xk4 (a0).num (a0).off (a0).cap hc3) <|
    zz 32 (fk23 (a0).num (Nat.add (a0).off (((0 : Int)).toNat * 8))) <|
    zz 33 (lk24 hc4 (qbp_ hc3)) <|
    yy 38 (.call (qgd_ (c4_.2.2.2.2.2.2.1) a1 (c6_0, c6_1) [] [])) <|
    ww (qfb_ n (c4_.2.2.2.2.2.2.1) a1 (c6_0, c6_1) hc6) <|
    k
   by_cases hc7 : c6_1 = true
   ·rw [if_pos hc7] at h
    obtain ⟨hc8, h⟩ := gd h
    obtain ⟨hc9, h⟩ := gd h
    obtain ⟨c10_, hc10, h⟩ := oB h
    obtain ⟨hc11, h⟩ := gd h
    obtain ⟨c12_, hc12, h⟩ := oB h
    obtain ⟨c13_, hc13, h⟩ := oB h
    obtain ⟨hc14, h⟩ := gdD h
    obtain rfl := oI h
    exact runF2 hm ⟨[4], [], 0, 0, [(0, Nat.add (2 * cod c13_ + 1) 64)], true, [], [], []⟩ (k0 <|
     k2 <|
     k7 <|
     yy 47 (vf) <|
     ww (p := (Value.bool (!c6_1)) = (Value.bool false)) (vBn hc7) <|
     zz 52 (xk10 (Nat.add ((c4_.2.2.2.2.2.2.1)).num 64) ((c4_.2.2.2.2.2.2.1)).off ((c4_.2.2.2.2.2.2.1)).cap hc8) <|
     zz 53 (nk11 hc10 hc9) <|
     zz 58 (xk4 (a0).num (a0).off (a0).cap hc11) <|
     zz 59 (fk21 (a0).num (Nat.add (a0).off ((c10_).toNat * 8))) <|
     zz 60 (lk22 hc12 (qbp_ hc11)) <|
     ww (p := LG P none (fnN P 27) 0 (qx_ P 27 [false, false, false, true, true, true, true]) (qgm_ a0 a1 (c10_, [(c4_.1), (c12_.1)])) (qd5_ a0 a1 c13_)) (qnw_ n a0 a1 (c10_, [(c4_.1), (c12_.1)]) c13_ hc13) <|
     ll 64 ⟨(kW [0, 1, 5, 6] [(0, 2, false)] 1 0), (qd5_ a0 a1 c13_).1, (qd5_ a0 a1 c13_).2⟩ <|
     ww (frz_ok qiw_ qtz_ c13_) <|
     ee) (by kernel_rfl)
   ·rw [if_neg hc7] at h
    obtain ⟨hc8, h⟩ := gd h
    obtain ⟨hc9, h⟩ := gd h
    obtain ⟨c10_, hc10, h⟩ := oB h
    obtain ⟨hc11, h⟩ := gd h
    obtain ⟨c12_, hc12, h⟩ := oB h
    obtain ⟨c13_, hc13, h⟩ := oB h
    obtain ⟨hc14, h⟩ := gdD h
    obtain rfl := oI h
    exact runF2 hm ⟨[4], [], 0, 0, [(0, Nat.add (2 * cod c13_ + 1) 64)], true, [], [], []⟩ (k0 <|
     k2 <|
     k7 <|
     yy 47 (vt) <|
     ww (p := (Value.bool (!c6_1)) = (Value.bool true)) (vBn (Bool.eq_false_iff.2 hc7)) <|
     zz 55 (xk10 (Nat.add ((c4_.2.2.2.2.2.2.1)).num 64) ((c4_.2.2.2.2.2.2.1)).off ((c4_.2.2.2.2.2.2.1)).cap hc8) <|
     zz 56 (nk11 hc10 hc9) <|
     zz 61 (xk4 (a0).num (a0).off (a0).cap hc11) <|
     zz 62 (fk21 (a0).num (Nat.add (a0).off ((c10_).toNat * 8))) <|
     zz 63 (lk22 hc12 (qbp_ hc11)) <|
     ww (p := LG P none (fnN P 27) 0 (qx_ P 27 [false, false, false, true, true, true, true]) (qgm_ a0 a1 (c10_, [(c4_.1), (c12_.1)])) (qd5_ a0 a1 c13_)) (qnw_ n a0 a1 (c10_, [(c4_.1), (c12_.1)]) c13_ hc13) <|
     ll 67 ⟨(kW [0, 1, 5, 6] [(0, 2, false)] 1 0), (qd5_ a0 a1 c13_).1, (qd5_ a0 a1 c13_).2⟩ <|
     ww (frz_ok qiw_ qtz_ c13_) <|
     ee) (by kernel_rfl)
 ·rw [if_neg hc2] at h
  obtain rfl := oI h
  exact runF2 hm ⟨[4], [], 0, 0, [], true, [], [], [4]⟩ (k0 <|
   yy 7 (vt) <|
   ww (p := (Value.bool (!c1_)) = (Value.bool true)) (vBn (Bool.eq_false_iff.2 hc2)) <|
   ee) (by kernel_rfl)

def qq5_ (a0 : WL rw_iLii) (a1 : W8) (a2 : Int) (r : Int) : Value := match r with
 | o0 => (i6 o0)
def qq6_ (a0 : WL rw_iLii) (a1 : W8) (a2 : Int) (r : Int) : AH := match r with
 | o0 => ⟨sB [], 0, 0⟩
abbrev qwi_ (a0 : WL rw_iLii) (a1 : W8) (a2 : Int) (r : Int) : Prop := Gv P (.func 13) [(wlV a0), (wlV a1), (i6 a2)] ⟨sB [], 0, 0⟩ (qq5_ a0 a1 a2 r) (qq6_ a0 a1 a2 r)
abbrev qwj_ (a0 : WL rw_iLii) (a1 : W8) (a2 : Int) (r : Int) (ins outs : BL) : CallA := ⟨0, ins, qq5_ a0 a1 a2 r, qq6_ a0 a1 a2 r, outs⟩
def qes_ (n : Nat) (a0 : WL rw_iLii) (a1 : W8) (a2 : Int) : Option (Int) :=
 (qge_ n a1 a2).bind fun c1_ =>
 if (((c1_).l.length : Nat) : Int) = 0 then
  some 0
 else
  if 0 ≤ a2 ∧ a2 < (((a1).l.length : Nat) : Int) then
   ((some (((a1).l).getD (a2).toNat (0, 0, 0, 0, 0, 0, nl0, 0)))).bind fun c4_ =>
   if (c4_.2.1) = 3 then
    ((some (w64 ((((c1_).l.length : Nat) : Int) - 1)))).bind fun c6_ =>
    if 0 ≤ c6_ then
     if hc8 : 0 ≤ (c6_).toNat ∧ (c6_).toNat ≤ (c1_).l.length then
      (qew_ n a0 (c4_.1) (nlSub c1_ 0 (c6_).toNat hc8)).bind fun c9_ =>
      some c9_
     else none
    else none
   else
    if (c4_.2.1) = 5 then
     ((some (w64 ((((c1_).l.length : Nat) : Int) - 1)))).bind fun c7_ =>
     if 0 ≤ c7_ then
      if hc9 : 0 ≤ (c7_).toNat ∧ (c7_).toNat ≤ (c1_).l.length then
       (qew_ n a0 (c4_.1) (nlSub c1_ 0 (c7_).toNat hc9)).bind fun c10_ =>
       some c10_
      else none
     else none
    else
     some 0
  else none
theorem qsj_ (n : Nat) (a0 : WL rw_iLii) (a1 : W8) (a2 : Int) (r : Int) (h : qes_ n a0 a1 a2 = some r) : qwi_ a0 a1 a2 r := by
 unfold qes_ at h
 obtain ⟨c1_, hc1, h⟩ := oB h
 have k0 := fun {A L l} (k : PL A L l) => yy 5 (.call (C_treePathq1 a1 a2 c1_ [] [])) <|
  ww (quy_ n a1 a2 c1_ hc1) <|
  k
 by_cases hc2 : (((c1_).l.length : Nat) : Int) = 0
 ·rw [if_pos hc2] at h
  obtain rfl := oI h
  exact runF2 hm (kW [6] [] 0 0) (k0 <|
   zz 11 (xeT hc2) <|
   ee) (by kernel_rfl)
 ·rw [if_neg hc2] at h
  obtain ⟨hc3, h⟩ := gd h
  obtain ⟨c4_, hc4, h⟩ := oB h
  have k2 := fun {A L l} (k : PL A L l) => zz 11 (xeF hc2) <|
   zz 15 (xk4 (a1).num (a1).off (a1).cap hc3) <|
   zz 16 (fk25 (a1).num (Nat.add (a1).off ((a2).toNat * 8))) <|
   zz 17 (lk26 hc4 (qbp_ hc3)) <|
   k
  by_cases hc5 : (c4_.2.1) = 3
  ·rw [if_pos hc5] at h
   obtain ⟨c6_, hc6, h⟩ := oB h
   obtain ⟨hc7, h⟩ := gd h
   obtain ⟨hc8, h⟩ := gdD h
   replace h := oB h
   obtain ⟨c9_, hc9, h⟩ := h
   obtain rfl := oI h
   exact runF2 hm (kW [6] [] 0 0) (k0 <|
    k2 <|
    zz 18 (xnF hc5) <|
    zz 33 (xk4 (a1).num (a1).off (a1).cap hc3) <|
    zz 34 (fk21 (a1).num (Nat.add (a1).off ((a2).toNat * 8))) <|
    zz 35 (lk22 hc4 (qbp_ hc3)) <|
    zz 39 (xnm hc6) <|
    yy 40 (.pur (nlV (nlSub c1_ 0 (c6_).toNat hc8))) <|
    ww (p := qks_ P 26 (nlV c1_) none (some (i6 c6_)) none Ax.h0 = some ((nlV (nlSub c1_ 0 (c6_).toNat hc8)), Ax.h0)) (slNL (e := 3) c1_ (by kernel_rfl) (by kernel_rfl) rfl (bnd_int hc7) hc8) <|
    yy 41 (.call (qma_ a0 (c4_.1) (nlSub c1_ 0 (c6_).toNat hc8) c9_ [] [])) <|
    ww (qit_ n a0 (c4_.1) (nlSub c1_ 0 (c6_).toNat hc8) c9_ hc9) <|
    ee) (by kernel_rfl)
  ·rw [if_neg hc5] at h
   have k6 := fun {A L l} (k : PL A L l) => zz 18 (xnT hc5) <|
    zz 22 (xk4 (a1).num (a1).off (a1).cap hc3) <|
    zz 23 (fk25 (a1).num (Nat.add (a1).off ((a2).toNat * 8))) <|
    zz 24 (lk26 hc4 (qbp_ hc3)) <|
    k
   by_cases hc6 : (c4_.2.1) = 5
   ·rw [if_pos hc6] at h
    obtain ⟨c7_, hc7, h⟩ := oB h
    obtain ⟨hc8, h⟩ := gd h
    obtain ⟨hc9, h⟩ := gdD h
    replace h := oB h
    obtain ⟨c10_, hc10, h⟩ := h
    obtain rfl := oI h
    exact runF2 hm (kW [6] [] 0 0) (k0 <|
     k2 <|
     k6 <|
     zz 25 (xnF hc6) <|
     zz 33 (xk4 (a1).num (a1).off (a1).cap hc3) <|
     zz 34 (fk21 (a1).num (Nat.add (a1).off ((a2).toNat * 8))) <|
     zz 35 (lk22 hc4 (qbp_ hc3)) <|
     zz 39 (xnm hc7) <|
     yy 40 (.pur (nlV (nlSub c1_ 0 (c7_).toNat hc9))) <|
     ww (p := qks_ P 26 (nlV c1_) none (some (i6 c7_)) none Ax.h0 = some ((nlV (nlSub c1_ 0 (c7_).toNat hc9)), Ax.h0)) (slNL (e := 3) c1_ (by kernel_rfl) (by kernel_rfl) rfl (bnd_int hc8) hc9) <|
     yy 41 (.call (qma_ a0 (c4_.1) (nlSub c1_ 0 (c7_).toNat hc9) c10_ [] [])) <|
     ww (qit_ n a0 (c4_.1) (nlSub c1_ 0 (c7_).toNat hc9) c10_ hc10) <|
     ee) (by kernel_rfl)
   ·rw [if_neg hc6] at h
    obtain rfl := oI h
    exact runF2 hm (kW [6] [] 0 0) (k0 <|
     k2 <|
     k6 <|
     zz 25 (xnT hc6) <|
     ee) (by kernel_rfl)

def qj1_ (a0 : Int) (r : Bool) : Value := match r with
 | o0 => (bO o0)
def qj2_ (a0 : Int) (r : Bool) : AH := match r with
 | o0 => ⟨sB [], 0, 0⟩
abbrev qpf_ (a0 : Int) (r : Bool) : Prop := Gv P (.func 46) [(i6 a0)] ⟨sB [], 0, 0⟩ (qj1_ a0 r) (qj2_ a0 r)
abbrev qbt_ (a0 : Int) (r : Bool) (ins outs : BL) : CallA := ⟨0, ins, qj1_ a0 r, qj2_ a0 r, outs⟩
def qm_ (n : Nat) (a0 : Int) : Option (Bool) :=
 if a0 = 1 then
  some false
 else
  if a0 = 2 then
   some false
  else
   some true
theorem qbb_ (n : Nat) (a0 : Int) (r : Bool) (h : qm_ n a0 = some r) : qpf_ a0 r := by
 unfold qm_ at h
 by_cases hc1 : a0 = 1
 ·rw [if_pos hc1] at h
  obtain rfl := oI h
  exact runF2 hm (kW [2] [] 0 0) (zz 4 (xnF hc1) <|
   ee) (by kernel_rfl)
 ·rw [if_neg hc1] at h
  have k0 := fun {A L l} (k : PL A L l) => zz 4 (xnT hc1) <|
   k
  by_cases hc2 : a0 = 2
  ·rw [if_pos hc2] at h
   obtain rfl := oI h
   exact runF2 hm (kW [2] [] 0 0) (k0 <|
    zz 7 (xnF hc2) <|
    ee) (by kernel_rfl)
  ·rw [if_neg hc2] at h
   obtain rfl := oI h
   exact runF2 hm (kW [2] [] 0 0) (k0 <|
    zz 7 (xnT hc2) <|
    ee) (by kernel_rfl)

def qj3_ (a0 : Int) (a1 : Int) (a2 : Int) (a3 : Int) (a4 : Int) (a5 : Int) (a6 : NL) (a7 : Int) (r : Bool) : Value := match r with
 | o0 => (bO o0)
def qj4_ (a0 : Int) (a1 : Int) (a2 : Int) (a3 : Int) (a4 : Int) (a5 : Int) (a6 : NL) (a7 : Int) (r : Bool) : AH := match r with
 | o0 => ⟨sB [], 0, 0⟩
abbrev qpg_ (a0 : Int) (a1 : Int) (a2 : Int) (a3 : Int) (a4 : Int) (a5 : Int) (a6 : NL) (a7 : Int) (r : Bool) : Prop := Gv P (.func 38) [(Value.agg #[(i6 a0), (i6 a1), (i6 a2), (i6 a3), (i6 a4), (i6 a5), (nlV a6), (Value.int .u64 a7)])] ⟨sB [], 0, 0⟩ (qj3_ a0 a1 a2 a3 a4 a5 a6 a7 r) (qj4_ a0 a1 a2 a3 a4 a5 a6 a7 r)
abbrev qph_ (a0 : Int) (a1 : Int) (a2 : Int) (a3 : Int) (a4 : Int) (a5 : Int) (a6 : NL) (a7 : Int) (r : Bool) (ins outs : BL) : CallA := ⟨0, ins, qj3_ a0 a1 a2 a3 a4 a5 a6 a7 r, qj4_ a0 a1 a2 a3 a4 a5 a6 a7 r, outs⟩
def qz_ (n : Nat) (a0 : Int) (a1 : Int) (a2 : Int) (a3 : Int) (a4 : Int) (a5 : Int) (a6 : NL) (a7 : Int) : Option (Bool) :=
 if a1 < 1 then
  some false
 else
  if a1 > 6 then
   some false
  else
   if a2 < 0 then
    some false
   else
    if a2 > a4 then
     some false
    else
     if a5 ≤ a2 then
      some false
     else
      if a1 = 3 then
       if a3 < a2 then
        some false
       else
        if a3 > a4 then
         some false
        else
         if a1 = 4 then
          if a2 = a4 then
           (qm_ n a1).bind fun c11_ =>
           if c11_ = true then
            if (((a6).l.length : Nat) : Int) = 0 then
             some true
            else
             some false
           else
            some true
          else
           some false
         else
          (qm_ n a1).bind fun c10_ =>
          if c10_ = true then
           if (((a6).l.length : Nat) : Int) = 0 then
            some true
           else
            some false
          else
           some true
      else
       if a1 = 5 then
        if a3 < a2 then
         some false
        else
         if a3 > a4 then
          some false
         else
          if a1 = 4 then
           if a2 = a4 then
            (qm_ n a1).bind fun c12_ =>
            if c12_ = true then
             if (((a6).l.length : Nat) : Int) = 0 then
              some true
             else
              some false
            else
             some true
           else
            some false
          else
           (qm_ n a1).bind fun c11_ =>
           if c11_ = true then
            if (((a6).l.length : Nat) : Int) = 0 then
             some true
            else
             some false
           else
            some true
       else
        if a1 = 6 then
         if a3 < a2 then
          some false
         else
          if a3 > a4 then
           some false
          else
           if a1 = 4 then
            if a2 = a4 then
             (qm_ n a1).bind fun c13_ =>
             if c13_ = true then
              if (((a6).l.length : Nat) : Int) = 0 then
               some true
              else
               some false
             else
              some true
            else
             some false
           else
            (qm_ n a1).bind fun c12_ =>
            if c12_ = true then
             if (((a6).l.length : Nat) : Int) = 0 then
              some true
             else
              some false
            else
             some true
        else
         if a3 = a2 then
          if a1 = 4 then
           if a2 = a4 then
            (qm_ n a1).bind fun c12_ =>
            if c12_ = true then
             if (((a6).l.length : Nat) : Int) = 0 then
              some true
             else
              some false
            else
             some true
           else
            some false
          else
           (qm_ n a1).bind fun c11_ =>
           if c11_ = true then
            if (((a6).l.length : Nat) : Int) = 0 then
             some true
            else
             some false
           else
            some true
         else
          some false
theorem qnm_ (n : Nat) (a0 : Int) (a1 : Int) (a2 : Int) (a3 : Int) (a4 : Int) (a5 : Int) (a6 : NL) (a7 : Int) (r : Bool) (h : qz_ n a0 a1 a2 a3 a4 a5 a6 a7 = some r) : qpg_ a0 a1 a2 a3 a4 a5 a6 a7 r := by
 unfold qz_ at h
 by_cases hc1 : a1 < 1
 ·rw [if_pos hc1] at h
  obtain rfl := oI h
  exact runF2 hm (kW [2] [] 0 0) (zz 7 (xdT hc1) <|
   ee) (by kernel_rfl)
 ·rw [if_neg hc1] at h
  have k0 := fun {A L l} (k : PL A L l) => zz 7 (xdF hc1) <|
   k
  by_cases hc2 : a1 > 6
  ·rw [if_pos hc2] at h
   obtain rfl := oI h
   exact runF2 hm (kW [2] [] 0 0) (k0 <|
    zz 11 (xdT hc2) <|
    ee) (by kernel_rfl)
  ·rw [if_neg hc2] at h
   have k1 := fun {A L l} (k : PL A L l) => zz 11 (xdF hc2) <|
    k
   by_cases hc3 : a2 < 0
   ·rw [if_pos hc3] at h
    obtain rfl := oI h
    exact runF2 hm (kW [2] [] 0 0) (k0 <|
     k1 <|
     zz 16 (xdT hc3) <|
     ee) (by kernel_rfl)
   ·rw [if_neg hc3] at h
    have k2 := fun {A L l} (k : PL A L l) => zz 16 (xdF hc3) <|
     k
    by_cases hc4 : a2 > a4
    ·rw [if_pos hc4] at h
     obtain rfl := oI h
     exact runF2 hm (kW [2] [] 0 0) (k0 <|
      k1 <|
      k2 <|
      zz 23 (xdT hc4) <|
      ee) (by kernel_rfl)
    ·rw [if_neg hc4] at h
     have k3 := fun {A L l} (k : PL A L l) => zz 23 (xdF hc4) <|
      k
     by_cases hc5 : a5 ≤ a2
     ·rw [if_pos hc5] at h
      obtain rfl := oI h
      exact runF2 hm (kW [2] [] 0 0) (k0 <|
       k1 <|
       k2 <|
       k3 <|
       zz 30 (xdT hc5) <|
       ee) (by kernel_rfl)
     ·rw [if_neg hc5] at h
      have k4 := fun {A L l} (k : PL A L l) => zz 30 (xdF hc5) <|
       k
      by_cases hc6 : a1 = 3
      ·rw [if_pos hc6] at h
       have k5 := fun {A L l} (k : PL A L l) => zz 36 (xeT hc6) <|
        k
       by_cases hc7 : a3 < a2
       ·rw [if_pos hc7] at h
        obtain rfl := oI h
        exact runF2 hm (kW [2] [] 0 0) (k0 <|
         k1 <|
         k2 <|
         k3 <|
         k4 <|
         k5 <|
         zz 56 (xdT hc7) <|
         ee) (by kernel_rfl)
       ·rw [if_neg hc7] at h
        have k6 := fun {A L l} (k : PL A L l) => zz 56 (xdF hc7) <|
         k
        by_cases hc8 : a3 > a4
        ·rw [if_pos hc8] at h
         obtain rfl := oI h
         exact runF2 hm (kW [2] [] 0 0) (k0 <|
          k1 <|
          k2 <|
          k3 <|
          k4 <|
          k5 <|
          k6 <|
          zz 62 (xdT hc8) <|
          ee) (by kernel_rfl)
        ·rw [if_neg hc8] at h
         have k7 := fun {A L l} (k : PL A L l) => zz 62 (xdF hc8) <|
          k
         by_cases hc9 : a1 = 4
         ·rw [if_pos hc9] at h
          have k8 := fun {A L l} (k : PL A L l) => zz 80 (xnF hc9) <|
           k
          by_cases hc10 : a2 = a4
          ·rw [if_pos hc10] at h
           obtain ⟨c11_, hc11, h⟩ := oB h
           have k9 := fun {A L l} (k : PL A L l) => zz 86 (xeT hc10) <|
            yy 91 (.call (qbt_ a1 c11_ [] [])) <|
            ww (qbb_ n a1 c11_ hc11) <|
            k
           by_cases hc12 : c11_ = true
           ·rw [if_pos hc12] at h
            have k12 := fun {A L l} (k : PL A L l) => yy 92 (vf) <|
             ww (p := (Value.bool (!c11_)) = (Value.bool false)) (vBn hc12) <|
             k
            by_cases hc13 : (((a6).l.length : Nat) : Int) = 0
            ·rw [if_pos hc13] at h
             obtain rfl := oI h
             exact runF2 hm (kW [2] [] 0 0) (k0 <|
              k1 <|
              k2 <|
              k3 <|
              k4 <|
              k5 <|
              k6 <|
              k7 <|
              k8 <|
              k9 <|
              k12 <|
              zz 97 (xeT hc13) <|
              ee) (by kernel_rfl)
            ·rw [if_neg hc13] at h
             obtain rfl := oI h
             exact runF2 hm (kW [2] [] 0 0) (k0 <|
              k1 <|
              k2 <|
              k3 <|
              k4 <|
              k5 <|
              k6 <|
              k7 <|
              k8 <|
              k9 <|
              k12 <|
              zz 97 (xeF hc13) <|
              ee) (by kernel_rfl)
           ·rw [if_neg hc12] at h
            obtain rfl := oI h
            exact runF2 hm (kW [2] [] 0 0) (k0 <|
             k1 <|
             k2 <|
             k3 <|
             k4 <|
             k5 <|
             k6 <|
             k7 <|
             k8 <|
             k9 <|
             yy 92 (vt) <|
             ww (p := (Value.bool (!c11_)) = (Value.bool true)) (vBn (Bool.eq_false_iff.2 hc12)) <|
             ee) (by kernel_rfl)
          ·rw [if_neg hc10] at h
           obtain rfl := oI h
           exact runF2 hm (kW [2] [] 0 0) (k0 <|
            k1 <|
            k2 <|
            k3 <|
            k4 <|
            k5 <|
            k6 <|
            k7 <|
            k8 <|
            zz 86 (xeF hc10) <|
            ee) (by kernel_rfl)
         ·rw [if_neg hc9] at h
          obtain ⟨c10_, hc10, h⟩ := oB h
          have k8 := fun {A L l} (k : PL A L l) => zz 80 (xnT hc9) <|
           yy 91 (.call (qbt_ a1 c10_ [] [])) <|
           ww (qbb_ n a1 c10_ hc10) <|
           k
          by_cases hc11 : c10_ = true
          ·rw [if_pos hc11] at h
           have k11 := fun {A L l} (k : PL A L l) => yy 92 (vf) <|
            ww (p := (Value.bool (!c10_)) = (Value.bool false)) (vBn hc11) <|
            k
           by_cases hc12 : (((a6).l.length : Nat) : Int) = 0
           ·rw [if_pos hc12] at h
            obtain rfl := oI h
            exact runF2 hm (kW [2] [] 0 0) (k0 <|
             k1 <|
             k2 <|
             k3 <|
             k4 <|
             k5 <|
             k6 <|
             k7 <|
             k8 <|
             k11 <|
             zz 97 (xeT hc12) <|
             ee) (by kernel_rfl)
           ·rw [if_neg hc12] at h
            obtain rfl := oI h
            exact runF2 hm (kW [2] [] 0 0) (k0 <|
             k1 <|
             k2 <|
             k3 <|
             k4 <|
             k5 <|
             k6 <|
             k7 <|
             k8 <|
             k11 <|
             zz 97 (xeF hc12) <|
             ee) (by kernel_rfl)
          ·rw [if_neg hc11] at h
           obtain rfl := oI h
           exact runF2 hm (kW [2] [] 0 0) (k0 <|
            k1 <|
            k2 <|
            k3 <|
            k4 <|
            k5 <|
            k6 <|
            k7 <|
            k8 <|
            yy 92 (vt) <|
            ww (p := (Value.bool (!c10_)) = (Value.bool true)) (vBn (Bool.eq_false_iff.2 hc11)) <|
            ee) (by kernel_rfl)
      ·rw [if_neg hc6] at h
       have k5 := fun {A L l} (k : PL A L l) => zz 36 (xeF hc6) <|
        k
       by_cases hc7 : a1 = 5
       ·rw [if_pos hc7] at h
        have k6 := fun {A L l} (k : PL A L l) => zz 40 (xeT hc7) <|
         k
        by_cases hc8 : a3 < a2
        ·rw [if_pos hc8] at h
         obtain rfl := oI h
         exact runF2 hm (kW [2] [] 0 0) (k0 <|
          k1 <|
          k2 <|
          k3 <|
          k4 <|
          k5 <|
          k6 <|
          zz 56 (xdT hc8) <|
          ee) (by kernel_rfl)
        ·rw [if_neg hc8] at h
         have k7 := fun {A L l} (k : PL A L l) => zz 56 (xdF hc8) <|
          k
         by_cases hc9 : a3 > a4
         ·rw [if_pos hc9] at h
          obtain rfl := oI h
          exact runF2 hm (kW [2] [] 0 0) (k0 <|
           k1 <|
           k2 <|
           k3 <|
           k4 <|
           k5 <|
           k6 <|
           k7 <|
           zz 62 (xdT hc9) <|
           ee) (by kernel_rfl)
         ·rw [if_neg hc9] at h
          have k8 := fun {A L l} (k : PL A L l) => zz 62 (xdF hc9) <|
           k
          by_cases hc10 : a1 = 4
          ·rw [if_pos hc10] at h
           have k9 := fun {A L l} (k : PL A L l) => zz 80 (xnF hc10) <|
            k
           by_cases hc11 : a2 = a4
           ·rw [if_pos hc11] at h
            obtain ⟨c12_, hc12, h⟩ := oB h
            have k10 := fun {A L l} (k : PL A L l) => zz 86 (xeT hc11) <|
             yy 91 (.call (qbt_ a1 c12_ [] [])) <|
             ww (qbb_ n a1 c12_ hc12) <|
             k
            by_cases hc13 : c12_ = true
            ·rw [if_pos hc13] at h
             have k13 := fun {A L l} (k : PL A L l) => yy 92 (vf) <|
              ww (p := (Value.bool (!c12_)) = (Value.bool false)) (vBn hc13) <|
              k
             by_cases hc14 : (((a6).l.length : Nat) : Int) = 0
             ·rw [if_pos hc14] at h
              obtain rfl := oI h
              exact runF2 hm (kW [2] [] 0 0) (k0 <|
               k1 <|
               k2 <|
               k3 <|
               k4 <|
               k5 <|
               k6 <|
               k7 <|
               k8 <|
               k9 <|
               k10 <|
               k13 <|
               zz 97 (xeT hc14) <|
               ee) (by kernel_rfl)
             ·rw [if_neg hc14] at h
              obtain rfl := oI h
              exact runF2 hm (kW [2] [] 0 0) (k0 <|
               k1 <|
               k2 <|
               k3 <|
               k4 <|
               k5 <|
               k6 <|
               k7 <|
               k8 <|
               k9 <|
               k10 <|
               k13 <|
               zz 97 (xeF hc14) <|
               ee) (by kernel_rfl)
            ·rw [if_neg hc13] at h
             obtain rfl := oI h
             exact runF2 hm (kW [2] [] 0 0) (k0 <|
              k1 <|
              k2 <|
              k3 <|
              k4 <|
              k5 <|
              k6 <|
              k7 <|
              k8 <|
              k9 <|
              k10 <|
              yy 92 (vt) <|
              ww (p := (Value.bool (!c12_)) = (Value.bool true)) (vBn (Bool.eq_false_iff.2 hc13)) <|
              ee) (by kernel_rfl)
           ·rw [if_neg hc11] at h
            obtain rfl := oI h
            exact runF2 hm (kW [2] [] 0 0) (k0 <|
             k1 <|
             k2 <|
             k3 <|
             k4 <|
             k5 <|
             k6 <|
             k7 <|
             k8 <|
             k9 <|
             zz 86 (xeF hc11) <|
             ee) (by kernel_rfl)
          ·rw [if_neg hc10] at h
           obtain ⟨c11_, hc11, h⟩ := oB h
           have k9 := fun {A L l} (k : PL A L l) => zz 80 (xnT hc10) <|
            yy 91 (.call (qbt_ a1 c11_ [] [])) <|
            ww (qbb_ n a1 c11_ hc11) <|
            k
           by_cases hc12 : c11_ = true
           ·rw [if_pos hc12] at h
            have k12 := fun {A L l} (k : PL A L l) => yy 92 (vf) <|
             ww (p := (Value.bool (!c11_)) = (Value.bool false)) (vBn hc12) <|
             k
            by_cases hc13 : (((a6).l.length : Nat) : Int) = 0
            ·rw [if_pos hc13] at h
             obtain rfl := oI h
             exact runF2 hm (kW [2] [] 0 0) (k0 <|
              k1 <|
              k2 <|
              k3 <|
              k4 <|
              k5 <|
              k6 <|
              k7 <|
              k8 <|
              k9 <|
              k12 <|
              zz 97 (xeT hc13) <|
              ee) (by kernel_rfl)
            ·rw [if_neg hc13] at h
             obtain rfl := oI h
             exact runF2 hm (kW [2] [] 0 0) (k0 <|
              k1 <|
              k2 <|
              k3 <|
              k4 <|
              k5 <|
              k6 <|
              k7 <|
              k8 <|
              k9 <|
              k12 <|
              zz 97 (xeF hc13) <|
              ee) (by kernel_rfl)
           ·rw [if_neg hc12] at h
            obtain rfl := oI h
            exact runF2 hm (kW [2] [] 0 0) (k0 <|
             k1 <|
             k2 <|
             k3 <|
             k4 <|
             k5 <|
             k6 <|
             k7 <|
             k8 <|
             k9 <|
             yy 92 (vt) <|
             ww (p := (Value.bool (!c11_)) = (Value.bool true)) (vBn (Bool.eq_false_iff.2 hc12)) <|
             ee) (by kernel_rfl)
       ·rw [if_neg hc7] at h
        have k6 := fun {A L l} (k : PL A L l) => zz 40 (xeF hc7) <|
         k
        by_cases hc8 : a1 = 6
        ·rw [if_pos hc8] at h
         have k7 := fun {A L l} (k : PL A L l) => zz 45 (xeT hc8) <|
          k
         by_cases hc9 : a3 < a2
         ·rw [if_pos hc9] at h
          obtain rfl := oI h
          exact runF2 hm (kW [2] [] 0 0) (k0 <|
           k1 <|
           k2 <|
           k3 <|
           k4 <|
           k5 <|
           k6 <|
           k7 <|
           zz 56 (xdT hc9) <|
           ee) (by kernel_rfl)
         ·rw [if_neg hc9] at h
          have k8 := fun {A L l} (k : PL A L l) => zz 56 (xdF hc9) <|
           k
          by_cases hc10 : a3 > a4
          ·rw [if_pos hc10] at h
           obtain rfl := oI h
           exact runF2 hm (kW [2] [] 0 0) (k0 <|
            k1 <|
            k2 <|
            k3 <|
            k4 <|
            k5 <|
            k6 <|
            k7 <|
            k8 <|
            zz 62 (xdT hc10) <|
            ee) (by kernel_rfl)
          ·rw [if_neg hc10] at h
           have k9 := fun {A L l} (k : PL A L l) => zz 62 (xdF hc10) <|
            k
           by_cases hc11 : a1 = 4
           ·rw [if_pos hc11] at h
            have k10 := fun {A L l} (k : PL A L l) => zz 80 (xnF hc11) <|
             k
            by_cases hc12 : a2 = a4
            ·rw [if_pos hc12] at h
             obtain ⟨c13_, hc13, h⟩ := oB h
             have k11 := fun {A L l} (k : PL A L l) => zz 86 (xeT hc12) <|
              yy 91 (.call (qbt_ a1 c13_ [] [])) <|
              ww (qbb_ n a1 c13_ hc13) <|
              k
             by_cases hc14 : c13_ = true
             ·rw [if_pos hc14] at h
              have k14 := fun {A L l} (k : PL A L l) => yy 92 (vf) <|
               ww (p := (Value.bool (!c13_)) = (Value.bool false)) (vBn hc14) <|
               k
              by_cases hc15 : (((a6).l.length : Nat) : Int) = 0
              ·rw [if_pos hc15] at h
               obtain rfl := oI h
               exact runF2 hm (kW [2] [] 0 0) (k0 <|
                k1 <|
                k2 <|
                k3 <|
                k4 <|
                k5 <|
                k6 <|
                k7 <|
                k8 <|
                k9 <|
                k10 <|
                k11 <|
                k14 <|
                zz 97 (xeT hc15) <|
                ee) (by kernel_rfl)
              ·rw [if_neg hc15] at h
               obtain rfl := oI h
               exact runF2 hm (kW [2] [] 0 0) (k0 <|
                k1 <|
                k2 <|
                k3 <|
                k4 <|
                k5 <|
                k6 <|
                k7 <|
                k8 <|
                k9 <|
                k10 <|
                k11 <|
                k14 <|
                zz 97 (xeF hc15) <|
                ee) (by kernel_rfl)
             ·rw [if_neg hc14] at h
              obtain rfl := oI h
              exact runF2 hm (kW [2] [] 0 0) (k0 <|
               k1 <|
               k2 <|
               k3 <|
               k4 <|
               k5 <|
               k6 <|
               k7 <|
               k8 <|
               k9 <|
               k10 <|
               k11 <|
               yy 92 (vt) <|
               ww (p := (Value.bool (!c13_)) = (Value.bool true)) (vBn (Bool.eq_false_iff.2 hc14)) <|
               ee) (by kernel_rfl)
            ·rw [if_neg hc12] at h
             obtain rfl := oI h
             exact runF2 hm (kW [2] [] 0 0) (k0 <|
              k1 <|
              k2 <|
              k3 <|
              k4 <|
              k5 <|
              k6 <|
              k7 <|
              k8 <|
              k9 <|
              k10 <|
              zz 86 (xeF hc12) <|
              ee) (by kernel_rfl)
           ·rw [if_neg hc11] at h
            obtain ⟨c12_, hc12, h⟩ := oB h
            have k10 := fun {A L l} (k : PL A L l) => zz 80 (xnT hc11) <|
             yy 91 (.call (qbt_ a1 c12_ [] [])) <|
             ww (qbb_ n a1 c12_ hc12) <|
             k
            by_cases hc13 : c12_ = true
            ·rw [if_pos hc13] at h
             have k13 := fun {A L l} (k : PL A L l) => yy 92 (vf) <|
              ww (p := (Value.bool (!c12_)) = (Value.bool false)) (vBn hc13) <|
              k
             by_cases hc14 : (((a6).l.length : Nat) : Int) = 0
             ·rw [if_pos hc14] at h
              obtain rfl := oI h
              exact runF2 hm (kW [2] [] 0 0) (k0 <|
               k1 <|
               k2 <|
               k3 <|
               k4 <|
               k5 <|
               k6 <|
               k7 <|
               k8 <|
               k9 <|
               k10 <|
               k13 <|
               zz 97 (xeT hc14) <|
               ee) (by kernel_rfl)
             ·rw [if_neg hc14] at h
              obtain rfl := oI h
              exact runF2 hm (kW [2] [] 0 0) (k0 <|
               k1 <|
               k2 <|
               k3 <|
               k4 <|
               k5 <|
               k6 <|
               k7 <|
               k8 <|
               k9 <|
               k10 <|
               k13 <|
               zz 97 (xeF hc14) <|
               ee) (by kernel_rfl)
            ·rw [if_neg hc13] at h
             obtain rfl := oI h
             exact runF2 hm (kW [2] [] 0 0) (k0 <|
              k1 <|
              k2 <|
              k3 <|
              k4 <|
              k5 <|
              k6 <|
              k7 <|
              k8 <|
              k9 <|
              k10 <|
              yy 92 (vt) <|
              ww (p := (Value.bool (!c12_)) = (Value.bool true)) (vBn (Bool.eq_false_iff.2 hc13)) <|
              ee) (by kernel_rfl)
        ·rw [if_neg hc8] at h
         have k7 := fun {A L l} (k : PL A L l) => zz 45 (xeF hc8) <|
          k
         by_cases hc9 : a3 = a2
         ·rw [if_pos hc9] at h
          have k8 := fun {A L l} (k : PL A L l) => zz 73 (xnF hc9) <|
           k
          by_cases hc10 : a1 = 4
          ·rw [if_pos hc10] at h
           have k9 := fun {A L l} (k : PL A L l) => zz 80 (xnF hc10) <|
            k
           by_cases hc11 : a2 = a4
           ·rw [if_pos hc11] at h
            obtain ⟨c12_, hc12, h⟩ := oB h
            have k10 := fun {A L l} (k : PL A L l) => zz 86 (xeT hc11) <|
             yy 91 (.call (qbt_ a1 c12_ [] [])) <|
             ww (qbb_ n a1 c12_ hc12) <|
             k
            by_cases hc13 : c12_ = true
            ·rw [if_pos hc13] at h
             have k13 := fun {A L l} (k : PL A L l) => yy 92 (vf) <|
              ww (p := (Value.bool (!c12_)) = (Value.bool false)) (vBn hc13) <|
              k
             by_cases hc14 : (((a6).l.length : Nat) : Int) = 0
             ·rw [if_pos hc14] at h
              obtain rfl := oI h
              exact runF2 hm (kW [2] [] 0 0) (k0 <|
               k1 <|
               k2 <|
               k3 <|
               k4 <|
               k5 <|
               k6 <|
               k7 <|
               k8 <|
               k9 <|
               k10 <|
               k13 <|
               zz 97 (xeT hc14) <|
               ee) (by kernel_rfl)
             ·rw [if_neg hc14] at h
              obtain rfl := oI h
              exact runF2 hm (kW [2] [] 0 0) (k0 <|
               k1 <|
               k2 <|
               k3 <|
               k4 <|
               k5 <|
               k6 <|
               k7 <|
               k8 <|
               k9 <|
               k10 <|
               k13 <|
               zz 97 (xeF hc14) <|
               ee) (by kernel_rfl)
            ·rw [if_neg hc13] at h
             obtain rfl := oI h
             exact runF2 hm (kW [2] [] 0 0) (k0 <|
              k1 <|
              k2 <|
              k3 <|
              k4 <|
              k5 <|
              k6 <|
              k7 <|
              k8 <|
              k9 <|
              k10 <|
              yy 92 (vt) <|
              ww (p := (Value.bool (!c12_)) = (Value.bool true)) (vBn (Bool.eq_false_iff.2 hc13)) <|
              ee) (by kernel_rfl)
           ·rw [if_neg hc11] at h
            obtain rfl := oI h
            exact runF2 hm (kW [2] [] 0 0) (k0 <|
             k1 <|
             k2 <|
             k3 <|
             k4 <|
             k5 <|
             k6 <|
             k7 <|
             k8 <|
             k9 <|
             zz 86 (xeF hc11) <|
             ee) (by kernel_rfl)
          ·rw [if_neg hc10] at h
           obtain ⟨c11_, hc11, h⟩ := oB h
           have k9 := fun {A L l} (k : PL A L l) => zz 80 (xnT hc10) <|
            yy 91 (.call (qbt_ a1 c11_ [] [])) <|
            ww (qbb_ n a1 c11_ hc11) <|
            k
           by_cases hc12 : c11_ = true
           ·rw [if_pos hc12] at h
            have k12 := fun {A L l} (k : PL A L l) => yy 92 (vf) <|
             ww (p := (Value.bool (!c11_)) = (Value.bool false)) (vBn hc12) <|
             k
            by_cases hc13 : (((a6).l.length : Nat) : Int) = 0
            ·rw [if_pos hc13] at h
             obtain rfl := oI h
             exact runF2 hm (kW [2] [] 0 0) (k0 <|
              k1 <|
              k2 <|
              k3 <|
              k4 <|
              k5 <|
              k6 <|
              k7 <|
              k8 <|
              k9 <|
              k12 <|
              zz 97 (xeT hc13) <|
              ee) (by kernel_rfl)
            ·rw [if_neg hc13] at h
             obtain rfl := oI h
             exact runF2 hm (kW [2] [] 0 0) (k0 <|
              k1 <|
              k2 <|
              k3 <|
              k4 <|
              k5 <|
              k6 <|
              k7 <|
              k8 <|
              k9 <|
              k12 <|
              zz 97 (xeF hc13) <|
              ee) (by kernel_rfl)
           ·rw [if_neg hc12] at h
            obtain rfl := oI h
            exact runF2 hm (kW [2] [] 0 0) (k0 <|
             k1 <|
             k2 <|
             k3 <|
             k4 <|
             k5 <|
             k6 <|
             k7 <|
             k8 <|
             k9 <|
             yy 92 (vt) <|
             ww (p := (Value.bool (!c11_)) = (Value.bool true)) (vBn (Bool.eq_false_iff.2 hc12)) <|
             ee) (by kernel_rfl)
         ·rw [if_neg hc9] at h
          obtain rfl := oI h
          exact runF2 hm (kW [2] [] 0 0) (k0 <|
           k1 <|
           k2 <|
           k3 <|
           k4 <|
           k5 <|
           k6 <|
           k7 <|
           zz 73 (xnT hc9) <|
           ee) (by kernel_rfl)

def qeb_ (a0 : W8) (a1 : Int) : List Value := [(wlV a0), (i6 a1)]
def qec_ (a0 : W8) (a1 : Int) : AH := ⟨sB [], 0, 0⟩
def qc8_ (a0 : W8) (a1 : Int) (r : Int) : Value := match r with
 | o0 => (i6 o0)
def qc9_ (a0 : W8) (a1 : Int) (r : Int) : AH := match r with
 | o0 => ⟨sB [], 0, 0⟩
abbrev qqa_ (a0 : W8) (a1 : Int) (r : Int) : Prop := Gv P (.func 39) (qeb_ a0 a1) (qec_ a0 a1) (qc8_ a0 a1 r) (qc9_ a0 a1 r)
abbrev qk5_ (a0 : W8) (a1 : Int) (r : Int) (ins outs : BL) : CallA := ⟨0, ins, qc8_ a0 a1 r, qc9_ a0 a1 r, outs⟩
def qet_ (x0 : W8) (x1 : Int) (st : Int × Int × Int) : XSt := match st with
 | (x2, x3, x4) => (sT 68 [(0, (wlV x0)), (1, (i6 x1)), (5, (i6 x2)), (6, (i6 x3)), (7, (i6 x4))], [], ⟨sB [], 0, 0⟩)
def qb5_ (x0 : W8) (x1 : Int) (r : (Unit) ⊕ (Int × Int)) : Ex × XSt := match r with
 | .inl _ => (.ret, (sT 68 [(4, (i6 (-1 : Int)))], [], ⟨sB [], 0, 0⟩))
 | .inr (z0, z1) => (.exit 0, (sT 68 [(0, (wlV x0)), (1, (i6 x1)), (5, (i6 z0)), (6, (i6 z1))], [], ⟨sB [], 0, 0⟩))
abbrev qo1_ (rnd : Option Nat) (x0 : W8) (x1 : Int) (st : Int × Int × Int) (c : Ex × XSt) : Prop := CG P rnd (fnN P 39) 0 (qx_ P 39 [false, false, true, false, true, true]) (qet_ x0 x1 st) c
abbrev qgf_ (rd : Option Nat) (x0 : W8) (x1 : Int) (st : Int × Int × Int) (r : (Unit) ⊕ (Int × Int)) : Prop := CG P rd (fnN P 39) 0 (qx_ P 39 [false, true, false, true, true]) (qet_ x0 x1 st) (qb5_ x0 x1 r)
def qg_ (rec_viewportref16endq1 : (W8) → (Int) → Option (Int)) (n : Nat) (x0 : W8) (x1 : Int) (st : Int × Int × Int) : Option ((Int × Int × Int) ⊕ ((Unit) ⊕ (Int × Int))) := match st with
 | (x2, x3, x4) =>
  if 0 ≤ x1 ∧ x1 < (((x0).l.length : Nat) : Int) then
   ((some (((x0).l).getD (x1).toNat (0, 0, 0, 0, 0, 0, nl0, 0)))).bind fun y2_ =>
   if x4 < ((((y2_.2.2.2.2.2.2.1)).l.length : Nat) : Int) then
    if 0 ≤ x4 ∧ x4 < ((((y2_.2.2.2.2.2.2.1)).l.length : Nat) : Int) then
     if (x4).toNat < (((y2_.2.2.2.2.2.2.1)).l).length then
      ((some ((((y2_.2.2.2.2.2.2.1)).l).getD (x4).toNat 0))).bind fun y6_ =>
      if y6_ = x2 then
       if x2 ≥ (((x0).l.length : Nat) : Int) then
        some (.inr (.inl ()))
       else
        if 0 ≤ x2 ∧ x2 < (((x0).l.length : Nat) : Int) then
         ((some (((x0).l).getD (x2).toNat (0, 0, 0, 0, 0, 0, nl0, 0)))).bind fun y10_ =>
         if (y10_.2.2.1) < x3 then
          some (.inr (.inl ()))
         else
          (rec_viewportref16endq1 x0 x2).bind fun y12_ =>
          if y12_ < 0 then
           some (.inr (.inl ()))
          else
           some (.inl (y12_, (y10_.2.2.2.2.1), (w64 (x4 + 1))))
        else none
      else
       some (.inr (.inl ()))
     else none
    else none
   else
    some (.inr (.inr (x2, x3)))
  else none
def qck_ (rec_viewportref16endq1 : (W8) → (Int) → Option (Int)) (n : Nat) (x0 : W8) (x1 : Int) (st : Int × Int × Int) : Option ((Unit) ⊕ (Int × Int)) := iterM (qg_ rec_viewportref16endq1 n x0 x1) n st
theorem qji_ (rec_viewportref16endq1 : (W8) → (Int) → Option (Int)) (hrec_viewportref16endq1 : ∀ (a0 : W8) (a1 : Int) (r : Int), rec_viewportref16endq1 a0 a1 = some r → Gv P (.func 39) (qeb_ a0 a1) (qec_ a0 a1) (qc8_ a0 a1 r) (qc9_ a0 a1 r)) (n : Nat) {rnd : Option Nat} (x0 : W8) (x1 : Int) (st : Int × Int × Int) (o : (Int × Int × Int) ⊕ ((Unit) ⊕ (Int × Int))) (h : qg_ rec_viewportref16endq1 n x0 x1 st = some o) : qo1_ rnd x0 x1 st (Sum.elim (fun s => (.normal, qet_ x0 x1 s)) (fun r => qb5_ x0 x1 r) o) := by
 obtain ⟨x2, x3, x4⟩ := st
 unfold qg_ at h
 dsimp only at h
 obtain ⟨hy1, h⟩ := gd h
 obtain ⟨y2_, hy2, h⟩ := oB h
 have k0 := fun {A L l} (k : PL A L l) => zz 5 (xk4 (x0).num (x0).off (x0).cap hy1) <|
  zz 6 (fk23 (x0).num (Nat.add (x0).off ((x1).toNat * 8))) <|
  zz 7 (lk24 hy2 (qbp_ hy1)) <|
  k
 by_cases hy3 : x4 < ((((y2_.2.2.2.2.2.2.1)).l.length : Nat) : Int)
 ·rw [if_pos hy3] at h
  obtain ⟨hy4, h⟩ := gd h
  obtain ⟨hy5, h⟩ := gd h
  obtain ⟨y6_, hy6, h⟩ := oB h
  have k3 := fun {A L l} (k : PL A L l) => zz 9 (xdT hy3) <|
   zz 17 (xk4 (x0).num (x0).off (x0).cap hy1) <|
   zz 18 (fk23 (x0).num (Nat.add (x0).off ((x1).toNat * 8))) <|
   zz 19 (lk24 hy2 (qbp_ hy1)) <|
   zz 21 (xk10 (Nat.add ((y2_.2.2.2.2.2.2.1)).num 64) ((y2_.2.2.2.2.2.2.1)).off ((y2_.2.2.2.2.2.2.1)).cap hy4) <|
   zz 22 (nk11 hy6 hy5) <|
   k
  by_cases hy7 : y6_ = x2
  ·rw [if_pos hy7] at h
   have k9 := fun {A L l} (k : PL A L l) => zz 24 (xnF hy7) <|
    k
   by_cases hy8 : x2 ≥ (((x0).l.length : Nat) : Int)
   ·rw [if_pos hy8] at h
    obtain rfl := oI h
    exact runC2 hm (kW [4] [] 0 0) (k0 <|
     k3 <|
     k9 <|
     zz 29 (xdT hy8) <|
     ee) (by kernel_rfl)
   ·rw [if_neg hy8] at h
    obtain ⟨hy9, h⟩ := gd h
    obtain ⟨y10_, hy10, h⟩ := oB h
    have k10 := fun {A L l} (k : PL A L l) => zz 29 (xdF hy8) <|
     zz 34 (xk4 (x0).num (x0).off (x0).cap hy9) <|
     zz 35 (fk27 (x0).num (Nat.add (x0).off ((x2).toNat * 8))) <|
     zz 36 (lk28 hy10 (qbp_ hy9)) <|
     k
    by_cases hy11 : (y10_.2.2.1) < x3
    ·rw [if_pos hy11] at h
     obtain rfl := oI h
     exact runC2 hm (kW [4] [] 0 0) (k0 <|
      k3 <|
      k9 <|
      k10 <|
      zz 38 (xdT hy11) <|
      ee) (by kernel_rfl)
    ·rw [if_neg hy11] at h
     obtain ⟨y12_, hy12, h⟩ := oB h
     have k14 := fun {A L l} (k : PL A L l) => zz 38 (xdF hy11) <|
      zz 44 (xk4 (x0).num (x0).off (x0).cap hy9) <|
      zz 45 (fk29 (x0).num (Nat.add (x0).off ((x2).toNat * 8))) <|
      zz 46 (lk30 hy10 (qbp_ hy9)) <|
      yy 51 (.call (qk5_ x0 x2 y12_ [] [])) <|
      ww (hrec_viewportref16endq1 x0 x2 y12_ hy12) <|
      k
     by_cases hy13 : y12_ < 0
     ·rw [if_pos hy13] at h
      obtain rfl := oI h
      exact runC2 hm (kW [4] [] 0 0) (k0 <|
       k3 <|
       k9 <|
       k10 <|
       k14 <|
       zz 55 (xdT hy13) <|
       ee) (by kernel_rfl)
     ·rw [if_neg hy13] at h
      obtain rfl := oI h
      exact runC2 hm (kW [0, 1, 5, 6, 7] [] 0 0) (k0 <|
       k3 <|
       k9 <|
       k10 <|
       k14 <|
       zz 55 (xdF hy13) <|
       ee) (by kernel_rfl)
  ·rw [if_neg hy7] at h
   obtain rfl := oI h
   exact runC2 hm (kW [4] [] 0 0) (k0 <|
    k3 <|
    zz 24 (xnT hy7) <|
    ee) (by kernel_rfl)
 ·rw [if_neg hy3] at h
  obtain rfl := oI h
  exact runC2 hm (kW [0, 1, 5, 6] [] 0 0) (k0 <|
   zz 9 (xdF hy3) <|
   ee) (by kernel_rfl)
theorem qhv_ (rec_viewportref16endq1 : (W8) → (Int) → Option (Int)) (hrec_viewportref16endq1 : ∀ (a0 : W8) (a1 : Int) (r : Int), rec_viewportref16endq1 a0 a1 = some r → Gv P (.func 39) (qeb_ a0 a1) (qec_ a0 a1) (qc8_ a0 a1 r) (qc9_ a0 a1 r)) (n : Nat) {rnd : Option Nat} (x0 : W8) (x1 : Int) (st : Int × Int × Int) (r : (Unit) ⊕ (Int × Int)) (h : qck_ rec_viewportref16endq1 n x0 x1 st = some r) : qgf_ rnd x0 x1 st r :=
 CG.iter (b := qx_ P 39 [false, false, true, false, true, true]) (by kernel_rfl) (body := qg_ rec_viewportref16endq1 n x0 x1) (S := qet_ x0 x1) (X := qb5_ x0 x1)
  (fun s s' h => qji_ rec_viewportref16endq1 hrec_viewportref16endq1 n x0 x1 s (.inl s') h)
  (fun s r h => qji_ rec_viewportref16endq1 hrec_viewportref16endq1 n x0 x1 s (.inr r) h)
  (fun r => by intro hx; rcases r with _ | _ <;> cases hx) h
def qbn_ (rec_viewportref16endq1 : (W8) → (Int) → Option (Int)) (n : Nat) (a0 : W8) (a1 : Int) : Option (Int) :=
 if 0 ≤ a1 ∧ a1 < (((a0).l.length : Nat) : Int) then
  ((some (((a0).l).getD (a1).toNat (0, 0, 0, 0, 0, 0, nl0, 0)))).bind fun c2_ =>
  match qck_ rec_viewportref16endq1 n a0 a1 ((w64 (a1 + 1)), (c2_.2.2.1), 0) with
  | none => none
  | some (.inl _) =>
   some (-1)
  | some (.inr (c3_0, c3_1)) =>
   if c3_1 > (c2_.2.2.2.2.1) then
    some (-1)
   else
    some c3_0
 else none
theorem qnz_ (rec_viewportref16endq1 : (W8) → (Int) → Option (Int)) (hrec_viewportref16endq1 : ∀ (a0 : W8) (a1 : Int) (r : Int), rec_viewportref16endq1 a0 a1 = some r → Gv P (.func 39) (qeb_ a0 a1) (qec_ a0 a1) (qc8_ a0 a1 r) (qc9_ a0 a1 r)) (n : Nat) (a0 : W8) (a1 : Int) (r : Int) (h : qbn_ rec_viewportref16endq1 n a0 a1 = some r) : qqa_ a0 a1 r := by
 unfold qbn_ at h
 obtain ⟨hc1, h⟩ := gd h
 obtain ⟨c2_, hc2, h⟩ := oB h
 have k0 := fun {A L l} (k : PL A L l) => zz 7 (xk4 (a0).num (a0).off (a0).cap hc1) <|
  zz 8 (fk27 (a0).num (Nat.add (a0).off ((a1).toNat * 8))) <|
  zz 9 (lk28 hc2 (qbp_ hc1)) <|
  k
 rcases hc3 : qck_ rec_viewportref16endq1 n a0 a1 ((w64 (a1 + 1)), (c2_.2.2.1), 0) with _ | (⟨⟩ | ⟨c3_0, c3_1⟩)
 ·rw [hc3] at h; cases h
 ·rw [hc3] at h
  dsimp only at h
  obtain rfl := oI h
  exact runF2 hm (kW [4] [] 0 0) (k0 <|
   ww (p := qgf_ none a0 a1 ((w64 (a1 + 1)), (c2_.2.2.1), 0) (.inl ())) (qhv_ rec_viewportref16endq1 hrec_viewportref16endq1 n a0 a1 ((w64 (a1 + 1)), (c2_.2.2.1), 0) (.inl ()) hc3) <|
   ll 16 ⟨(kW [0, 1, 5, 6, 7] [] 0 0), (qb5_ a0 a1 (.inl ())).1, (qb5_ a0 a1 (.inl ())).2⟩ <|
   ee) (by kernel_rfl)
 ·rw [hc3] at h
  dsimp only at h
  have k3 := fun {A L l} (k : PL A L l) => ww (p := qgf_ none a0 a1 ((w64 (a1 + 1)), (c2_.2.2.1), 0) (.inr (c3_0, c3_1))) (qhv_ rec_viewportref16endq1 hrec_viewportref16endq1 n a0 a1 ((w64 (a1 + 1)), (c2_.2.2.1), 0) (.inr (c3_0, c3_1)) hc3) <|
   ll 16 ⟨(kW [0, 1, 5, 6, 7] [] 0 0), (qb5_ a0 a1 (.inr (c3_0, c3_1))).1, (qb5_ a0 a1 (.inr (c3_0, c3_1))).2⟩ <|
   zz 22 (xk4 (a0).num (a0).off (a0).cap hc1) <|
   zz 23 (fk29 (a0).num (Nat.add (a0).off ((a1).toNat * 8))) <|
   zz 24 (lk30 hc2 (qbp_ hc1)) <|
   k
  by_cases hc4 : c3_1 > (c2_.2.2.2.2.1)
  ·rw [if_pos hc4] at h
   obtain rfl := oI h
   exact runF2 hm (kW [4] [] 0 0) (k0 <|
    k3 <|
    zz 25 (xdT hc4) <|
    ee) (by kernel_rfl)
  ·rw [if_neg hc4] at h
   obtain rfl := oI h
   exact runF2 hm (kW [4] [] 0 0) (k0 <|
    k3 <|
    zz 25 (xdF hc4) <|
    ee) (by kernel_rfl)
def qd_ : Nat → (W8) → (Int) → Option (Int)
 | 0 => fun _ _ => none
 | n + 1 => fun a0 a1 => qbn_ (qd_ n) n a0 a1
theorem qio_ : ∀ (n : Nat) (a0 : W8) (a1 : Int) (r : Int) (h : qd_ n a0 a1 = some r), Gv P (.func 39) (qeb_ a0 a1) (qec_ a0 a1) (qc8_ a0 a1 r) (qc9_ a0 a1 r)
 | 0, _, _, _, h => nomatch h
 | n + 1, a0, a1, r, h => qnz_ (qd_ n) (qio_ n) n a0 a1 r h

def qjj_ (a0 : W8) (r : Int) : Value := match r with
 | o0 => (i6 o0)
def qjk_ (a0 : W8) (r : Int) : AH := match r with
 | o0 => ⟨sB [], 0, 0⟩
abbrev qo2_ (a0 : W8) (r : Int) : Prop := Gv P (.func 28) [(wlV a0)] ⟨sB [], 0, 0⟩ (qjj_ a0 r) (qjk_ a0 r)
abbrev qgg_ (a0 : W8) (r : Int) (ins outs : BL) : CallA := ⟨0, ins, qjj_ a0 r, qjk_ a0 r, outs⟩
def qd6_ (x0 : W8) (st : Int) : XSt := match st with
 | x1 => (sT 41 [(0, (wlV x0)), (3, (i6 x1))], [], ⟨sB [], 0, 0⟩)
def qbo_ (x0 : W8) (r : (Unit) ⊕ (Unit)) : Ex × XSt := match r with
 | .inl _ => (.ret, (sT 41 [(2, (i6 (2 : Int)))], [], ⟨sB [], 0, 0⟩))
 | .inr _ => (.exit 0, (sT 41 [(0, (wlV x0))], [], ⟨sB [], 0, 0⟩))
abbrev qnn_ (rd : Option Nat) (x0 : W8) (st : Int) (r : (Unit) ⊕ (Unit)) : Prop := CG P rd (fnN P 28) 0 (qx_ P 28 [false, true, false, true, true]) (qd6_ x0 st) (qbo_ x0 r)
def qh_ (n : Nat) (x0 : W8) (st : Int) : Option ((Int) ⊕ ((Unit) ⊕ (Unit))) := match st with
 | x1 =>
  if x1 < (((x0).l.length : Nat) : Int) then
   if 0 ≤ x1 ∧ x1 < (((x0).l.length : Nat) : Int) then
    ((some (((x0).l).getD (x1).toNat (0, 0, 0, 0, 0, 0, nl0, 0)))).bind fun y3_ =>
    (qz_ n (y3_.1) (y3_.2.1) (y3_.2.2.1) (y3_.2.2.2.1) (y3_.2.2.2.2.1) (y3_.2.2.2.2.2.1) (y3_.2.2.2.2.2.2.1) (y3_.2.2.2.2.2.2.2)).bind fun y4_ =>
    if y4_ = true then
     if x1 > 0 then
      if (y3_.2.1) = 1 then
       some (.inr (.inl ()))
      else
       some (.inl (w64 (x1 + 1)))
     else
      some (.inl (w64 (x1 + 1)))
    else
     some (.inr (.inl ()))
   else none
  else
   some (.inr (.inr ()))
def qcv_ (n : Nat) (x0 : W8) (st : Int) : Option ((Unit) ⊕ (Unit)) := iterM (qh_ n x0) n st
theorem qif_ (n : Nat) {rnd : Option Nat} (x0 : W8) (x1 : Int) (o : (Int) ⊕ ((Unit) ⊕ (Unit))) (h : qh_ n x0 x1 = some o) : CG P rnd (fnN P 28) 0 (qx_ P 28 [false, false, true, false, true, true]) (qd6_ x0 x1) (Sum.elim (fun s => (.normal, qd6_ x0 s)) (fun r => qbo_ x0 r) o) := by
 unfold qh_ at h
 dsimp only at h
 by_cases hy1 : x1 < (((x0).l.length : Nat) : Int)
 ·rw [if_pos hy1] at h
  obtain ⟨hy2, h⟩ := gd h
  obtain ⟨y3_, hy3, h⟩ := oB h
  obtain ⟨y4_, hy4, h⟩ := oB h
  have k0 := fun {A L l} (k : PL A L l) => zz 5 (xdT hy1) <|
   zz 12 (xk4 (x0).num (x0).off (x0).cap hy2) <|
   zz 13 (lk5 hy3 (qbp_ hy2)) <|
   yy 14 (.call (qph_ (y3_.1) (y3_.2.1) (y3_.2.2.1) (y3_.2.2.2.1) (y3_.2.2.2.2.1) (y3_.2.2.2.2.2.1) (y3_.2.2.2.2.2.2.1) (y3_.2.2.2.2.2.2.2) y4_ [] [])) <|
   ww (qnm_ n (y3_.1) (y3_.2.1) (y3_.2.2.1) (y3_.2.2.2.1) (y3_.2.2.2.2.1) (y3_.2.2.2.2.2.1) (y3_.2.2.2.2.2.2.1) (y3_.2.2.2.2.2.2.2) y4_ hy4) <|
   k
  by_cases hy5 : y4_ = true
  ·rw [if_pos hy5] at h
   have k5 := fun {A L l} (k : PL A L l) => yy 15 (vf) <|
    ww (p := (Value.bool (!y4_)) = (Value.bool false)) (vBn hy5) <|
    k
   by_cases hy6 : x1 > 0
   ·rw [if_pos hy6] at h
    have k7 := fun {A L l} (k : PL A L l) => zz 18 (xdT hy6) <|
     zz 22 (xk4 (x0).num (x0).off (x0).cap hy2) <|
     zz 23 (fk25 (x0).num (Nat.add (x0).off ((x1).toNat * 8))) <|
     zz 24 (lk26 hy3 (qbp_ hy2)) <|
     k
    by_cases hy7 : (y3_.2.1) = 1
    ·rw [if_pos hy7] at h
     obtain rfl := oI h
     exact runC2 hm (kW [2] [] 0 0) (k0 <|
      k5 <|
      k7 <|
      zz 25 (xeT hy7) <|
      ee) (by kernel_rfl)
    ·rw [if_neg hy7] at h
     obtain rfl := oI h
     exact runC2 hm (kW [0, 3] [] 0 0) (k0 <|
      k5 <|
      k7 <|
      zz 25 (xeF hy7) <|
      ee) (by kernel_rfl)
   ·rw [if_neg hy6] at h
    obtain rfl := oI h
    exact runC2 hm (kW [0, 3] [] 0 0) (k0 <|
     k5 <|
     zz 18 (xdF hy6) <|
     ee) (by kernel_rfl)
  ·rw [if_neg hy5] at h
   obtain rfl := oI h
   exact runC2 hm (kW [2] [] 0 0) (k0 <|
    yy 15 (vt) <|
    ww (p := (Value.bool (!y4_)) = (Value.bool true)) (vBn (Bool.eq_false_iff.2 hy5)) <|
    ee) (by kernel_rfl)
 ·rw [if_neg hy1] at h
  obtain rfl := oI h
  exact runC2 hm (kW [0] [] 0 0) (zz 5 (xdF hy1) <|
   ee) (by kernel_rfl)
theorem qg2_ (n : Nat) {rnd : Option Nat} (x0 : W8) (st : Int) (r : (Unit) ⊕ (Unit)) (h : qcv_ n x0 st = some r) : qnn_ rnd x0 st r :=
 CG.iter (b := qx_ P 28 [false, false, true, false, true, true]) (by kernel_rfl) (body := qh_ n x0) (S := qd6_ x0) (X := qbo_ x0)
  (fun s s' h => qif_ n x0 s (.inl s') h)
  (fun s r h => qif_ n x0 s (.inr r) h)
  (fun r => by intro hx; rcases r with _ | _ <;> cases hx) h
def qf_ (n : Nat) (a0 : W8) : Option (Int) :=
 if (((a0).l.length : Nat) : Int) > 524288 then
  some 3
 else
  match qcv_ n a0 0 with
  | none => none
  | some (.inl _) =>
   some 2
  | some (.inr _) =>
   if (((a0).l.length : Nat) : Int) = 0 then
    some 2
   else
    (qd_ n a0 0).bind fun c4_ =>
    if c4_ = (((a0).l.length : Nat) : Int) then
     some 0
    else
     some 2
theorem qe7_ (n : Nat) (a0 : W8) (r : Int) (h : qf_ n a0 = some r) : qo2_ a0 r := by
 unfold qf_ at h
 by_cases hc1 : (((a0).l.length : Nat) : Int) > 524288
 ·rw [if_pos hc1] at h
  obtain rfl := oI h
  exact runF2 hm (kW [2] [] 0 0) (zz 6 (xdT hc1) <|
   ee) (by kernel_rfl)
 ·rw [if_neg hc1] at h
  have k0 := fun {A L l} (k : PL A L l) => zz 6 (xdF hc1) <|
   k
  rcases hc2 : qcv_ n a0 0 with _ | (⟨⟩ | ⟨⟩)
  ·rw [hc2] at h; cases h
  ·rw [hc2] at h
   dsimp only at h
   obtain rfl := oI h
   exact runF2 hm (kW [2] [] 0 0) (k0 <|
    ww (qg2_ n (rnd := none) a0 0 (.inl ()) hc2) <|
    ll 12 ⟨(kW [0, 3] [] 0 0), (qbo_ a0 (.inl ())).1, (qbo_ a0 (.inl ())).2⟩ <|
    ee) (by kernel_rfl)
  ·rw [hc2] at h
   dsimp only at h
   have k1 := fun {A L l} (k : PL A L l) => ww (qg2_ n (rnd := none) a0 0 (.inr ()) hc2) <|
    ll 12 ⟨(kW [0, 3] [] 0 0), (qbo_ a0 (.inr ())).1, (qbo_ a0 (.inr ())).2⟩ <|
    k
   by_cases hc3 : (((a0).l.length : Nat) : Int) = 0
   ·rw [if_pos hc3] at h
    obtain rfl := oI h
    exact runF2 hm (kW [2] [] 0 0) (k0 <|
     k1 <|
     zz 17 (xeT hc3) <|
     ee) (by kernel_rfl)
   ·rw [if_neg hc3] at h
    obtain ⟨c4_, hc4, h⟩ := oB h
    have k3 := fun {A L l} (k : PL A L l) => zz 17 (xeF hc3) <|
     yy 20 (.call (qk5_ a0 0 c4_ [] [])) <|
     ww (qio_ n a0 0 c4_ hc4) <|
     k
    by_cases hc5 : c4_ = (((a0).l.length : Nat) : Int)
    ·rw [if_pos hc5] at h
     obtain rfl := oI h
     exact runF2 hm (kW [2] [] 0 0) (k0 <|
      k1 <|
      k3 <|
      zz 23 (xnF hc5) <|
      ee) (by kernel_rfl)
    ·rw [if_neg hc5] at h
     obtain rfl := oI h
     exact runF2 hm (kW [2] [] 0 0) (k0 <|
      k1 <|
      k3 <|
      zz 23 (xnT hc5) <|
      ee) (by kernel_rfl)

def ql3_ (a0 : W8) (a1 : Int) (r : Bool) : Value := match r with
 | o0 => (bO o0)
def ql4_ (a0 : W8) (a1 : Int) (r : Bool) : AH := match r with
 | o0 => ⟨sB [], 0, 0⟩
abbrev qq7_ (a0 : W8) (a1 : Int) (r : Bool) : Prop := Gv P (.func 40) [(wlV a0), (i6 a1)] ⟨sB [], 0, 0⟩ (ql3_ a0 a1 r) (ql4_ a0 a1 r)
abbrev qq8_ (a0 : W8) (a1 : Int) (r : Bool) (ins outs : BL) : CallA := ⟨0, ins, ql3_ a0 a1 r, ql4_ a0 a1 r, outs⟩
def qf0_ (n : Nat) (a0 : W8) (a1 : Int) : Option (Bool) :=
 (qf_ n a0).bind fun c1_ =>
 if c1_ = 0 then
  if a1 ≥ 0 then
   if a1 < (((a0).l.length : Nat) : Int) then
    some true
   else
    some false
  else
   some false
 else
  some false
theorem qo3_ (n : Nat) (a0 : W8) (a1 : Int) (r : Bool) (h : qf0_ n a0 a1 = some r) : qq7_ a0 a1 r := by
 unfold qf0_ at h
 obtain ⟨c1_, hc1, h⟩ := oB h
 have k0 := fun {A L l} (k : PL A L l) => yy 4 (.call (qgg_ a0 c1_ [] [])) <|
  ww (qe7_ n a0 c1_ hc1) <|
  k
 by_cases hc2 : c1_ = 0
 ·rw [if_pos hc2] at h
  have k2 := fun {A L l} (k : PL A L l) => zz 5 (xeT hc2) <|
   k
  by_cases hc3 : a1 ≥ 0
  ·rw [if_pos hc3] at h
   have k3 := fun {A L l} (k : PL A L l) => zz 8 (xdT hc3) <|
    k
   by_cases hc4 : a1 < (((a0).l.length : Nat) : Int)
   ·rw [if_pos hc4] at h
    obtain rfl := oI h
    exact runF2 hm (kW [4] [] 0 0) (k0 <|
     k2 <|
     k3 <|
     zz 14 (xdT hc4) <|
     ee) (by kernel_rfl)
   ·rw [if_neg hc4] at h
    obtain rfl := oI h
    exact runF2 hm (kW [4] [] 0 0) (k0 <|
     k2 <|
     k3 <|
     zz 14 (xdF hc4) <|
     ee) (by kernel_rfl)
  ·rw [if_neg hc3] at h
   obtain rfl := oI h
   exact runF2 hm (kW [4] [] 0 0) (k0 <|
    k2 <|
    zz 8 (xdF hc3) <|
    ee) (by kernel_rfl)
 ·rw [if_neg hc2] at h
  obtain rfl := oI h
  exact runF2 hm (kW [4] [] 0 0) (k0 <|
   zz 5 (xeF hc2) <|
   ee) (by kernel_rfl)

def qig_ (a0 : W8) : List Value := [(wlV a0)]
def qih_ (a0 : W8) : AH := ⟨sB [], 0, 0⟩
def qii_ (a0 : W8) (r : NL) : Value := match r with
 | o0 => (nlV o0)
def qfg_ (a0 : W8) (r : NL) : AH := match r with
 | o0 => ⟨sB [], 0, 0⟩
abbrev qno_ (a0 : W8) (r : NL) : Prop := Gv P (.func 41) (qig_ a0) (qih_ a0) (qii_ a0 r) (qfg_ a0 r)
abbrev qnp_ (a0 : W8) (r : NL) (ins outs : BL) : CallA := ⟨0, ins, qii_ a0 r, qfg_ a0 r, outs⟩
def qdc_ (x0 : W8) (x2 : Nat) (x3 : Int) (st : List Int × Int) : XSt := match st with
 | (x1, x4) => (sT 42 [(0, (wlV x0)), (3, (sN 0 0 x2 x2)), (4, (i6 x3)), (5, (i6 x4))], [], ⟨sB [(0, (cB (iv x1) 3))], 1, 0⟩)
def qcg_ (x0 : W8) (x2 : Nat) (x3 : Int) (r : List Int) : Ex × XSt := match r with
 | z0 => (.exit 2, (sT 42 [(0, (wlV x0)), (3, (sN 0 0 x2 x2)), (4, (i6 x3))], [], ⟨sB [(0, (cB (iv z0) 3))], 1, 0⟩))
abbrev qmb_ (rnd : Option Nat) (x0 : W8) (x2 : Nat) (x3 : Int) (st : List Int × Int) (c : Ex × XSt) : Prop := CG P rnd (fnN P 41) 0 (qx_ P 41 [false, false, true, false, false, true, false, false, true, false, true, true, true, true]) (qdc_ x0 x2 x3 st) c
abbrev qmc_ (rd : Option Nat) (x0 : W8) (x2 : Nat) (x3 : Int) (st : List Int × Int) (r : List Int) : Prop := CG P rd (fnN P 41) 0 (qx_ P 41 [false, true, false, false, true, false, false, true, false, true, true, true, true]) (qdc_ x0 x2 x3 st) (qcg_ x0 x2 x3 r)
def qbd_ (n : Nat) (x0 : W8) (x2 : Nat) (x3 : Int) (st : List Int × Int) : Option ((List Int × Int) ⊕ (List Int)) := match st with
 | (x1, x4) =>
  if 0 ≤ x3 ∧ x3 < (((x0).l.length : Nat) : Int) then
   ((some (((x0).l).getD (x3).toNat (0, 0, 0, 0, 0, 0, nl0, 0)))).bind fun y2_ =>
   if x4 < ((((y2_.2.2.2.2.2.2.1)).l.length : Nat) : Int) then
    if 0 ≤ x4 ∧ x4 < ((((y2_.2.2.2.2.2.2.1)).l.length : Nat) : Int) then
     if (x4).toNat < (((y2_.2.2.2.2.2.2.1)).l).length then
      ((some ((((y2_.2.2.2.2.2.2.1)).l).getD (x4).toNat 0))).bind fun y6_ =>
      if 0 ≤ y6_ ∧ y6_ < ((x2 : Nat) : Int) then
       if (y6_).toNat < (x1).length then
        some (.inl (((x1).set (y6_).toNat x3), (w64 (x4 + 1))))
       else none
      else none
     else none
    else none
   else
    some (.inr x1)
  else none
def qez_ (n : Nat) (x0 : W8) (x2 : Nat) (x3 : Int) (st : List Int × Int) : Option (List Int) := iterM (qbd_ n x0 x2 x3) n st
theorem qhb_ (n : Nat) {rnd : Option Nat} (x0 : W8) (x2 : Nat) (x3 : Int) (st : List Int × Int) (o : (List Int × Int) ⊕ (List Int)) (h : qbd_ n x0 x2 x3 st = some o) : qmb_ rnd x0 x2 x3 st (Sum.elim (fun s => (.normal, qdc_ x0 x2 x3 s)) (fun r => qcg_ x0 x2 x3 r) o) := by
 obtain ⟨x1, x4⟩ := st
 unfold qbd_ at h
 dsimp only at h
 obtain ⟨hy1, h⟩ := gd h
 obtain ⟨y2_, hy2, h⟩ := oB h
 have k0 := fun {A L l} (k : PL A L l) => zz 5 (xk4 (x0).num (x0).off (x0).cap hy1) <|
  zz 6 (fk23 (x0).num (Nat.add (x0).off ((x3).toNat * 8))) <|
  zz 7 (lk24 hy2 (qbp_ hy1)) <|
  k
 by_cases hy3 : x4 < ((((y2_.2.2.2.2.2.2.1)).l.length : Nat) : Int)
 ·rw [if_pos hy3] at h
  obtain ⟨hy4, h⟩ := gd h
  obtain ⟨hy5, h⟩ := gd h
  obtain ⟨y6_, hy6, h⟩ := oB h
  obtain ⟨hy7, h⟩ := gd h
  obtain ⟨hy8, h⟩ := gd h
  obtain rfl := oI h
  exact runC2 hm (kW [0, 3, 4, 5] [(0, 0, true)] 1 0) (k0 <|
   zz 9 (xdT hy3) <|
   zz 16 (xk4 (x0).num (x0).off (x0).cap hy1) <|
   zz 17 (fk23 (x0).num (Nat.add (x0).off ((x3).toNat * 8))) <|
   zz 18 (lk24 hy2 (qbp_ hy1)) <|
   zz 20 (xk10 (Nat.add ((y2_.2.2.2.2.2.2.1)).num 64) ((y2_.2.2.2.2.2.2.1)).off ((y2_.2.2.2.2.2.2.1)).cap hy4) <|
   zz 21 (nk11 hy6 hy5) <|
   zz 23 (xk31 0 x2 hy7) <|
   yy 24 (.sto (layT (iv ((x1).set (y6_).toNat x3)))) <|
   ww (p := ∃ old, rdT (layT (iv x1)) 1 (y6_).toNat = some old) (Exists.elim (iv_st (x1) ((y6_).toNat) (x3) hy8) fun o h => ⟨o, h.1⟩) <|
   ww (p := layL [(i6 x3)] (y6_).toNat (layT (iv x1)) = layT (iv ((x1).set (y6_).toNat x3))) (Exists.elim (iv_st (x1) ((y6_).toNat) (x3) hy8) fun o h => h.2) <|
   ww (qok_ ((x1).set (y6_).toNat x3) 3) <|
   ee) (by kernel_rfl)
 ·rw [if_neg hy3] at h
  obtain rfl := oI h
  exact runC2 hm (kW [0, 3, 4] [(0, 0, true)] 1 0) (k0 <|
   zz 9 (xdF hy3) <|
   ww (qok_ x1 3) <|
   ee) (by kernel_rfl)
theorem qki_ (n : Nat) {rnd : Option Nat} (x0 : W8) (x2 : Nat) (x3 : Int) (st : List Int × Int) (r : List Int) (h : qez_ n x0 x2 x3 st = some r) : qmc_ rnd x0 x2 x3 st r :=
 CG.iter (b := qx_ P 41 [false, false, true, false, false, true, false, false, true, false, true, true, true, true]) (by kernel_rfl) (body := qbd_ n x0 x2 x3) (S := qdc_ x0 x2 x3) (X := qcg_ x0 x2 x3)
  (fun s s' h => qhb_ n x0 x2 x3 s (.inl s') h)
  (fun s r h => qhb_ n x0 x2 x3 s (.inr r) h)
  (fun r => by intro hx; cases hx) h
def qdd_ (x0 : W8) (x2 : Nat) (st : List Int × Int) : XSt := match st with
 | (x1, x3) => (sT 42 [(0, (wlV x0)), (3, (sN 0 0 x2 x2)), (4, (i6 x3))], [], ⟨sB [(0, (cB (iv x1) 3))], 1, 0⟩)
def qch_ (x0 : W8) (x2 : Nat) (r : List Int) : Ex × XSt := match r with
 | z0 => (.exit 0, (sT 42 [(3, (sN 0 0 x2 x2))], [], ⟨sB [(0, (cB (iv z0) 3))], 1, 0⟩))
abbrev qmd_ (rnd : Option Nat) (x0 : W8) (x2 : Nat) (st : List Int × Int) (c : Ex × XSt) : Prop := CG P rnd (fnN P 41) 0 (qx_ P 41 [false, false, true, false, true, true, true, true]) (qdd_ x0 x2 st) c
abbrev qme_ (rd : Option Nat) (x0 : W8) (x2 : Nat) (st : List Int × Int) (r : List Int) : Prop := CG P rd (fnN P 41) 0 (qx_ P 41 [false, true, false, true, true, true, true]) (qdd_ x0 x2 st) (qch_ x0 x2 r)
def qbe_ (n : Nat) (x0 : W8) (x2 : Nat) (st : List Int × Int) : Option ((List Int × Int) ⊕ (List Int)) := match st with
 | (x1, x3) =>
  if x3 < (((x0).l.length : Nat) : Int) then
   (qez_ n x0 x2 x3 (x1, 0)).bind fun y2_ =>
   some (.inl (y2_, (w64 (x3 + 1))))
  else
   some (.inr x1)
def qde_ (n : Nat) (x0 : W8) (x2 : Nat) (st : List Int × Int) : Option (List Int) := iterM (qbe_ n x0 x2) n st
theorem qhc_ (n : Nat) {rnd : Option Nat} (x0 : W8) (x2 : Nat) (st : List Int × Int) (o : (List Int × Int) ⊕ (List Int)) (h : qbe_ n x0 x2 st = some o) : qmd_ rnd x0 x2 st (Sum.elim (fun s => (.normal, qdd_ x0 x2 s)) (fun r => qch_ x0 x2 r) o) := by
 obtain ⟨x1, x3⟩ := st
 unfold qbe_ at h
 dsimp only at h
 by_cases hy1 : x3 < (((x0).l.length : Nat) : Int)
 ·rw [if_pos hy1] at h
  obtain ⟨y2_, hy2, h⟩ := oB h
  obtain rfl := oI h
  exact runC2 hm (kW [0, 3, 4] [(0, 0, true)] 1 0) (zz 5 (xdT hy1) <|
   ww (qki_ n (rnd := rnd) x0 x2 x3 (x1, 0) y2_ hy2) <|
   ww (qok_ x1 3) <|
   ll 12 ⟨(kW [0, 3, 4, 5] [(0, 0, true)] 1 0), (qcg_ x0 x2 x3 y2_).1, (qcg_ x0 x2 x3 y2_).2⟩ <|
   ww (qok_ y2_ 3) <|
   ee) (by kernel_rfl)
 ·rw [if_neg hy1] at h
  obtain rfl := oI h
  exact runC2 hm (kW [3] [(0, 0, true)] 1 0) (zz 5 (xdF hy1) <|
   ww (qok_ x1 3) <|
   ee) (by kernel_rfl)
theorem qkj_ (n : Nat) {rnd : Option Nat} (x0 : W8) (x2 : Nat) (st : List Int × Int) (r : List Int) (h : qde_ n x0 x2 st = some r) : qme_ rnd x0 x2 st r :=
 CG.iter (b := qx_ P 41 [false, false, true, false, true, true, true, true]) (by kernel_rfl) (body := qbe_ n x0 x2) (S := qdd_ x0 x2) (X := qch_ x0 x2)
  (fun s s' h => qhc_ n x0 x2 s (.inl s') h)
  (fun s r h => qhc_ n x0 x2 s (.inr r) h)
  (fun r => by intro hx; cases hx) h
def qcw_ (n : Nat) (a0 : W8) : Option (NL) :=
 (qf_ n a0).bind fun c1_ =>
 if c1_ = 0 then
  if 0 ≤ (((a0).l.length : Nat) : Int) then
   if ((((a0).l.length : Nat) : Int)).toNat * 8 ≤ 140737488355328 then
    if 0 ≤ (0 : Int) ∧ (0 : Int) < ((((((a0).l.length : Nat) : Int)).toNat : Nat) : Int) then
     if ((0 : Int)).toNat < ((List.replicate ((((a0).l.length : Nat) : Int)).toNat (0 : Int))).length then
      (qde_ n a0 (((((a0).l.length : Nat) : Int)).toNat) ((((List.replicate ((((a0).l.length : Nat) : Int)).toNat (0 : Int))).set ((0 : Int)).toNat (-1 : Int)), 0)).bind fun c7_ =>
      if (((((a0).l.length : Nat) : Int)).toNat) = c7_.length then
       if hc9 : c7_.length ≤ 140737488355328 then
        some (frzL c7_ hc9)
       else none
      else none
     else none
    else none
   else none
  else none
 else
  some nl0
theorem qly_ (n : Nat) (a0 : W8) (r : NL) (h : qcw_ n a0 = some r) : qno_ a0 r := by
 unfold qcw_ at h
 obtain ⟨c1_, hc1, h⟩ := oB h
 have k0 := fun {A L l} (k : PL A L l) => yy 5 (.call (qgg_ a0 c1_ [] [])) <|
  ww (qe7_ n a0 c1_ hc1) <|
  k
 by_cases hc2 : c1_ = 0
 ·rw [if_pos hc2] at h
  obtain ⟨hc3, h⟩ := gd h
  obtain ⟨hc4, h⟩ := gd h
  obtain ⟨hc5, h⟩ := gd h
  obtain ⟨hc6, h⟩ := gd h
  obtain ⟨c7_, hc7, h⟩ := oB h
  obtain ⟨hc8, h⟩ := gd h
  obtain ⟨hc9, h⟩ := gdD h
  obtain rfl := oI h
  have k0_ : Gv P (.func 41) (qig_ a0) (qih_ a0) (Value.slice (some ⟨Nat.add (2 * cod c7_ + 1) 64, 0, some 1⟩) (((((a0).l.length : Nat) : Int)).toNat) (Nat.add big (((((a0).l.length : Nat) : Int)).toNat))) (qfg_ a0 (frzL c7_ hc9)) := runF2 hm ⟨[2], [], 0, 0, [(0, Nat.add (2 * cod c7_ + 1) 64)], true, [], [], []⟩ (k0 <|
  zz 6 (xnF hc2) <|
  yy 11 (.mk ((((a0).l.length : Nat) : Int)).toNat (iv (List.replicate ((((a0).l.length : Nat) : Int)).toNat (0 : Int)))) <|
  ww (p := natOf (i6 (((a0).l.length : Nat) : Int)) = some ((((a0).l.length : Nat) : Int)).toNat) (qvf_ hc3) <|
  ww (p := natOf (i6 (((a0).l.length : Nat) : Int)) = some ((((a0).l.length : Nat) : Int)).toNat) (qvf_ hc3) <|
  ww (p := fits ((((a0).l.length : Nat) : Int)).toNat 8 = true) (qtx_ hc4 (by omega)) <|
  ww (p := isZ8 [(i6 (0 : Int))] = false) (rfl) <|
  ww (p := reps [(i6 (0 : Int))] ((((a0).l.length : Nat) : Int)).toNat = (iv (List.replicate ((((a0).l.length : Nat) : Int)).toNat (0 : Int)))) (reps_iv _) <|
  zz 15 (xk31 0 ((((a0).l.length : Nat) : Int)).toNat hc5) <|
  yy 16 (.sto (layT (iv (((List.replicate ((((a0).l.length : Nat) : Int)).toNat (0 : Int))).set ((0 : Int)).toNat (-1 : Int))))) <|
  ww (p := ∃ old, rdT (layT (iv (List.replicate ((((a0).l.length : Nat) : Int)).toNat (0 : Int)))) 1 ((0 : Int)).toNat = some old) (Exists.elim (iv_st ((List.replicate ((((a0).l.length : Nat) : Int)).toNat (0 : Int))) (((0 : Int)).toNat) ((-1 : Int)) hc6) fun o h => ⟨o, h.1⟩) <|
  ww (p := layL [(i6 (-1 : Int))] ((0 : Int)).toNat (layT (iv (List.replicate ((((a0).l.length : Nat) : Int)).toNat (0 : Int)))) = layT (iv (((List.replicate ((((a0).l.length : Nat) : Int)).toNat (0 : Int))).set ((0 : Int)).toNat (-1 : Int)))) (Exists.elim (iv_st ((List.replicate ((((a0).l.length : Nat) : Int)).toNat (0 : Int))) (((0 : Int)).toNat) ((-1 : Int)) hc6) fun o h => h.2) <|
  ww (qkj_ n (rnd := none) a0 (((((a0).l.length : Nat) : Int)).toNat) ((((List.replicate ((((a0).l.length : Nat) : Int)).toNat (0 : Int))).set ((0 : Int)).toNat (-1 : Int)), 0) c7_ hc7) <|
  ww (qok_ (((List.replicate ((((a0).l.length : Nat) : Int)).toNat (0 : Int))).set ((0 : Int)).toNat (-1 : Int)) 3) <|
  ll 21 ⟨(kW [0, 3, 4] [(0, 0, true)] 1 0), (qch_ a0 (((((a0).l.length : Nat) : Int)).toNat) c7_).1, (qch_ a0 (((((a0).l.length : Nat) : Int)).toNat) c7_).2⟩ <|
  ww (frz_ok qiw_ qtz_ c7_) <|
  ee) (by kernel_rfl)
  have k1_ := gvLen (fn := fun m_ => (Value.slice (some ⟨Nat.add (2 * cod c7_ + 1) 64, 0, some 1⟩) m_ (Nat.add big m_))) hc8 k0_
  exact k1_
 ·rw [if_neg hc2] at h
  obtain rfl := oI h
  exact runF2 hm ⟨[2], [], 0, 0, [], true, [], [], [2]⟩ (k0 <|
   zz 6 (xnT hc2) <|
   ee) (by kernel_rfl)

def qj5_ (a0 : W8) (a1 : Int) (r : NL) : Value := match r with
 | o0 => (nlV o0)
def qj6_ (a0 : W8) (a1 : Int) (r : NL) : AH := match r with
 | o0 => ⟨sB [], 0, 0⟩
abbrev qpi_ (a0 : W8) (a1 : Int) (r : NL) : Prop := Gv P (.func 29) [(wlV a0), (i6 a1)] ⟨sB [], 0, 0⟩ (qj5_ a0 a1 r) (qj6_ a0 a1 r)
abbrev qj7_ (a0 : W8) (a1 : Int) (r : NL) (ins outs : BL) : CallA := ⟨0, ins, qj5_ a0 a1 r, qj6_ a0 a1 r, outs⟩
def qek_ (x0 : W8) (x2 : NL) (st : Int × List Int × Nat × Nat) : XSt := match st with
 | (x1, x3, x4, x5) => (sT 28 [(0, (wlV x0)), (1, (i6 x1)), (5, (nlV x2)), (6, (slKQ x3 0 x4 0 x5))], [], ⟨sB [(0, (nblk x3 3))], 1, 0⟩)
def qby_ (x0 : W8) (x2 : NL) (r : List Int × Nat × Nat) : Ex × XSt := match r with
 | (z0, z1, z2) => (.exit 0, (sT 28 [(6, (slKQ z0 0 z1 0 z2))], [], ⟨sB [(0, (nblk z0 3))], 1, 0⟩))
abbrev qn0_ (rnd : Option Nat) (x0 : W8) (x2 : NL) (st : Int × List Int × Nat × Nat) (c : Ex × XSt) : Prop := CG P rnd (fnN P 29) 0 (qx_ P 29 [false, false, false, true, true, true, true]) (qek_ x0 x2 st) c
abbrev qn1_ (rd : Option Nat) (x0 : W8) (x2 : NL) (st : Int × List Int × Nat × Nat) (r : List Int × Nat × Nat) : Prop := CG P rd (fnN P 29) 0 (qx_ P 29 [false, false, true, true, true, true]) (qek_ x0 x2 st) (qby_ x0 x2 r)
def qo_ (n : Nat) (x0 : W8) (x2 : NL) (st : Int × List Int × Nat × Nat) : Option ((Int × List Int × Nat × Nat) ⊕ (List Int × Nat × Nat)) := match st with
 | (x1, x3, x4, x5) =>
  match x3 with
  | [] =>
   if x1 ≥ 0 then
    if 0 ≤ x1 ∧ x1 < (((x0).l.length : Nat) : Int) then
     ((some (((x0).l).getD (x1).toNat (0, 0, 0, 0, 0, 0, nl0, 0)))).bind fun y3_ =>
     if 0 ≤ x1 ∧ x1 < (((x2).l.length : Nat) : Int) then
      if (x1).toNat < ((x2).l).length then
       ((some (((x2).l).getD (x1).toNat 0))).bind fun y6_ =>
       some (.inl (y6_, [(y3_.1)], 1, 1))
      else none
     else none
    else none
   else
    some (.inr (([] : List Int), 0, 0))
  | x3a :: x3t =>
   if x1 ≥ 0 then
    if 0 ≤ x1 ∧ x1 < (((x0).l.length : Nat) : Int) then
     ((some (((x0).l).getD (x1).toNat (0, 0, 0, 0, 0, 0, nl0, 0)))).bind fun y3_ =>
     if 0 < x4 then
      if 0 + x4 ≤ ((x3a :: x3t)).length then
       if (1 + x4) * 8 ≤ 140737488355328 then
        if 1 < 1 + x4 then
         if 0 ≤ x1 ∧ x1 < (((x2).l.length : Nat) : Int) then
          if (x1).toNat < ((x2).l).length then
           ((some (((x2).l).getD (x1).toNat 0))).bind fun y10_ =>
           some (.inl (y10_, ([(y3_.1)] ++ (List.take x4 (List.drop 0 (x3a :: x3t)))), ((([(y3_.1)] ++ (List.take x4 (List.drop 0 (x3a :: x3t))))).length), (Nat.add big 1)))
          else none
         else none
        else none
       else none
      else none
     else
      if 0 ≤ x1 ∧ x1 < (((x2).l.length : Nat) : Int) then
       if (x1).toNat < ((x2).l).length then
        ((some (((x2).l).getD (x1).toNat 0))).bind fun y7_ =>
        some (.inl (y7_, [(y3_.1)], 1, 1))
       else none
      else none
    else none
   else
    some (.inr ((x3a :: x3t), x4, x5))
def qfs_ (n : Nat) (x0 : W8) (x2 : NL) (st : Int × List Int × Nat × Nat) : Option (List Int × Nat × Nat) := iterM (qo_ n x0 x2) n st
theorem qip_ (n : Nat) {rnd : Option Nat} (x0 : W8) (x2 : NL) (st : Int × List Int × Nat × Nat) (o : (Int × List Int × Nat × Nat) ⊕ (List Int × Nat × Nat)) (h : qo_ n x0 x2 st = some o) : qn0_ rnd x0 x2 st (Sum.elim (fun s => (.normal, qek_ x0 x2 s)) (fun r => qby_ x0 x2 r) o) := by
 obtain ⟨x1, x3, x4, x5⟩ := st
 unfold qo_ at h
 dsimp only at h
 cases x3 with
 | nil =>
  dsimp only at h
  by_cases hy1 : x1 ≥ 0
  ·rw [if_pos hy1] at h
   obtain ⟨hy2, h⟩ := gd h
   obtain ⟨y3_, hy3, h⟩ := oB h
   obtain ⟨hy4, h⟩ := gd h
   obtain ⟨hy5, h⟩ := gd h
   obtain ⟨y6_, hy6, h⟩ := oB h
   obtain rfl := oI h
   exact runC2 hm (kW [0, 1, 5, 6] [(0, 1, false)] 1 0) (zz 3 (xdT hy1) <|
    zz 9 (xk4 (x0).num (x0).off (x0).cap hy2) <|
    zz 10 (fk21 (x0).num (Nat.add (x0).off ((x1).toNat * 8))) <|
    zz 11 (lk22 hy3 (qbp_ hy2)) <|
    zz 18 (xk10 (Nat.add (x2).num 64) (x2).off (x2).cap hy4) <|
    zz 19 (nk11 hy6 hy5) <|
    ee) (by kernel_rfl)
  ·rw [if_neg hy1] at h
   obtain rfl := oI h
   exact runC2 hm (kW [6] [] 1 0) (zz 3 (xdF hy1) <|
    ee) (by kernel_rfl)
 | cons x3a x3t =>
  dsimp only at h
  by_cases hy1 : x1 ≥ 0
  ·rw [if_pos hy1] at h
   obtain ⟨hy2, h⟩ := gd h
   obtain ⟨y3_, hy3, h⟩ := oB h
   have k0 := fun {A L l} (k : PL A L l) => zz 3 (xdT hy1) <|
    zz 9 (xk4 (x0).num (x0).off (x0).cap hy2) <|
    zz 10 (fk21 (x0).num (Nat.add (x0).off ((x1).toNat * 8))) <|
    zz 11 (lk22 hy3 (qbp_ hy2)) <|
    k
   by_cases hy4 : 0 < x4
   ·rw [if_pos hy4] at h
    obtain ⟨hy5, h⟩ := gd h
    obtain ⟨hy6, h⟩ := gd h
    obtain ⟨hy7, h⟩ := gd h
    obtain ⟨hy8, h⟩ := gd h
    obtain ⟨hy9, h⟩ := gd h
    obtain ⟨y10_, hy10, h⟩ := oB h
    obtain rfl := oI h
    exact runC2 hm (kW [0, 1, 5, 6] [(0, 2, true)] 1 0) (k0 <|
     ww (p := x4 = x4) (rfl) <|
     ww (p := rdT (layT (iv (x3a :: x3t))) (Nat.mul x4 1) 0 = some (iv (List.take x4 (List.drop 0 (x3a :: x3t))))) ((Nat.zero_mul 1 ▸ iv_rdSub _ 0 _ hy5)) <|
     yy 14 (.app ⟨some (x4, (iv (List.take x4 (List.drop 0 (x3a :: x3t))))), [(i6 (y3_.1))], (iv ([(y3_.1)] ++ (List.take x4 (List.drop 0 (x3a :: x3t))))), (([(y3_.1)] ++ (List.take x4 (List.drop 0 (x3a :: x3t))))).length, true⟩) <|
     ww (p := 0 < x4) (hy4) <|
     ww (p := 1 < big) ((by decide)) <|
     ww (p := 1 < Nat.add 1 x4) (hy7) <|
     ww (p := rdT (layT [(i6 (y3_.1))]) (Nat.mul 1 1) 0 = some ([(i6 (y3_.1))])) (rfl) <|
     ww (p := fits (Nat.add 1 x4) 8 = true) (qtx_ hy6 (by have := hy6; show (_ : Nat) + _ ≤ _; omega)) <|
     ww (p := [(i6 (y3_.1))] ++ (iv (List.take x4 (List.drop 0 (x3a :: x3t)))) = (iv ([(y3_.1)] ++ (List.take x4 (List.drop 0 (x3a :: x3t)))))) (by simp [iv]) <|
     ww (p := Nat.add 1 x4 = (([(y3_.1)] ++ (List.take x4 (List.drop 0 (x3a :: x3t))))).length) (by simp <;> (try simp only [List.length_cons] at *) <;> omega) <|
     zz 18 (xk10 (Nat.add (x2).num 64) (x2).off (x2).cap hy8) <|
     zz 19 (nk11 hy10 hy9) <|
     ww (qok_ ([(y3_.1)] ++ (List.take x4 (List.drop 0 (x3a :: x3t)))) 3) <|
     ee) (by kernel_rfl)
   ·rw [if_neg hy4] at h
    obtain ⟨hy5, h⟩ := gd h
    obtain ⟨hy6, h⟩ := gd h
    obtain ⟨y7_, hy7, h⟩ := oB h
    obtain rfl := oI h
    exact runC2 hm (kW [0, 1, 5, 6] [(0, 1, false)] 1 0) (k0 <|
     yy 14 (.app0) <|
     ww (p := 0 = x4) ((by have := hy4; omega)) <|
     ww (p := rdT (layT (iv (x3a :: x3t))) (Nat.mul x4 1) 0 = some []) (rdT_zero (by have := hy4; omega)) <|
     ww (p := ∀ H : AH, qvs_ H 1 3 8 (0, []) (sN 1 0 1 1) = some ((sN 1 0 1 1), H)) (fun _ => rfl) <|
     zz 18 (xk10 (Nat.add (x2).num 64) (x2).off (x2).cap hy5) <|
     zz 19 (nk11 hy7 hy6) <|
     ee) (by kernel_rfl)
  ·rw [if_neg hy1] at h
   obtain rfl := oI h
   exact runC2 hm (kW [6] [(0, 0, true)] 1 0) (zz 3 (xdF hy1) <|
    ww (qok_ (x3a :: x3t) 3) <|
    ee) (by kernel_rfl)
theorem qhd_ (n : Nat) {rnd : Option Nat} (x0 : W8) (x2 : NL) (st : Int × List Int × Nat × Nat) (r : List Int × Nat × Nat) (h : qfs_ n x0 x2 st = some r) : qn1_ rnd x0 x2 st r :=
 CG.iter (b := qx_ P 29 [false, false, false, true, true, true, true]) (by kernel_rfl) (body := qo_ n x0 x2) (S := qek_ x0 x2) (X := qby_ x0 x2)
  (fun s s' h => qip_ n x0 x2 s (.inl s') h)
  (fun s r h => qip_ n x0 x2 s (.inr r) h)
  (fun r => by intro hx; cases hx) h
def qbu_ (n : Nat) (a0 : W8) (a1 : Int) : Option (NL) :=
 (qf0_ n a0 a1).bind fun c1_ =>
 if c1_ = true then
  (qcw_ n a0).bind fun c3_ =>
  (qfs_ n a0 c3_ (a1, ([] : List Int), 0, 0)).bind fun t => match t with
  | (c4_0, c4_1, c4_2) =>
   match c4_0 with
   | [] =>
    some nl0
   | c4_0a :: c4_0t =>
    if c4_1 = (c4_0a :: c4_0t).length then
     if hc6 : (c4_0a :: c4_0t).length ≤ 140737488355328 then
      some (frzL (c4_0a :: c4_0t) hc6)
     else none
    else none
 else
  some nl0
theorem qij_ (n : Nat) (a0 : W8) (a1 : Int) (r : NL) (h : qbu_ n a0 a1 = some r) : qpi_ a0 a1 r := by
 unfold qbu_ at h
 obtain ⟨c1_, hc1, h⟩ := oB h
 have k0 := fun {A L l} (k : PL A L l) => yy 6 (.call (qq8_ a0 a1 c1_ [] [])) <|
  ww (qo3_ n a0 a1 c1_ hc1) <|
  k
 by_cases hc2 : c1_ = true
 ·rw [if_pos hc2] at h
  obtain ⟨c3_, hc3, h⟩ := oB h
  obtain ⟨⟨c4_0, c4_1, c4_2⟩, hc4, h⟩ := oB h
  dsimp only at h
  have k2 := fun {A L l} (k : PL A L l) => yy 7 (vf) <|
   ww (p := (Value.bool (!c1_)) = (Value.bool false)) (vBn hc2) <|
   yy 11 (.call (qnp_ a0 c3_ [] [])) <|
   ww (qly_ n a0 c3_ hc3) <|
   k
  cases c4_0 with
  | nil =>
   dsimp only at h
   obtain rfl := oI h
   exact runF2 hm ⟨[4], [], 0, 0, [], true, [], [], [4]⟩ (k0 <|
    k2 <|
    ww (qhd_ n (rnd := none) a0 c3_ (a1, ([] : List Int), 0, 0) (([] : List Int), c4_1, c4_2) hc4) <|
    ll 17 ⟨(kW [0, 1, 5, 6] [] 1 0), (qby_ a0 c3_ (([] : List Int), c4_1, c4_2)).1, (qby_ a0 c3_ (([] : List Int), c4_1, c4_2)).2⟩ <|
    ee) (by kernel_rfl)
  | cons c4_0a c4_0t =>
   dsimp only at h
   obtain ⟨hc5, h⟩ := gd h
   obtain ⟨hc6, h⟩ := gdD h
   obtain rfl := oI h
   subst hc5
   exact runF2 hm ⟨[4], [], 0, 0, [(0, Nat.add (2 * cod (c4_0a :: c4_0t) + 1) 64)], true, [], [], []⟩ (k0 <|
    k2 <|
    ww (qhd_ n (rnd := none) a0 c3_ (a1, ([] : List Int), 0, 0) ((c4_0a :: c4_0t), (((c4_0a :: c4_0t)).length), c4_2) hc4) <|
    ll 17 ⟨(kW [0, 1, 5, 6] [] 1 0), (qby_ a0 c3_ ((c4_0a :: c4_0t), (((c4_0a :: c4_0t)).length), c4_2)).1, (qby_ a0 c3_ ((c4_0a :: c4_0t), (((c4_0a :: c4_0t)).length), c4_2)).2⟩ <|
    ww (frz_ok qiw_ qtz_ (c4_0a :: c4_0t)) <|
    ee) (by kernel_rfl)
 ·rw [if_neg hc2] at h
  obtain rfl := oI h
  exact runF2 hm ⟨[4], [], 0, 0, [], true, [], [], [4]⟩ (k0 <|
   yy 7 (vt) <|
   ww (p := (Value.bool (!c1_)) = (Value.bool true)) (vBn (Bool.eq_false_iff.2 hc2)) <|
   ee) (by kernel_rfl)

def qj8_ (a0 : WL rw_iLii) (a1 : W8) (a2 : Int) (r : Int) : Value := match r with
 | o0 => (i6 o0)
def qj9_ (a0 : WL rw_iLii) (a1 : W8) (a2 : Int) (r : Int) : AH := match r with
 | o0 => ⟨sB [], 0, 0⟩
abbrev qpj_ (a0 : WL rw_iLii) (a1 : W8) (a2 : Int) (r : Int) : Prop := Gv P (.func 14) [(wlV a0), (wlV a1), (i6 a2)] ⟨sB [], 0, 0⟩ (qj8_ a0 a1 a2 r) (qj9_ a0 a1 a2 r)
abbrev qpk_ (a0 : WL rw_iLii) (a1 : W8) (a2 : Int) (r : Int) (ins outs : BL) : CallA := ⟨0, ins, qj8_ a0 a1 a2 r, qj9_ a0 a1 a2 r, outs⟩
def qbv_ (n : Nat) (a0 : WL rw_iLii) (a1 : W8) (a2 : Int) : Option (Int) :=
 (qf_ n a1).bind fun c1_ =>
 if c1_ = 0 then
  if a2 < 0 then
   some 0
  else
   if a2 ≥ (((a1).l.length : Nat) : Int) then
    some 0
   else
    if 0 ≤ a2 ∧ a2 < (((a1).l.length : Nat) : Int) then
     ((some (((a1).l).getD (a2).toNat (0, 0, 0, 0, 0, 0, nl0, 0)))).bind fun c6_ =>
     if (c6_.2.1) = 3 then
      (qbu_ n a1 a2).bind fun c8_ =>
      ((some (w64 ((((c8_).l.length : Nat) : Int) - 1)))).bind fun c9_ =>
      if 0 ≤ c9_ then
       if hc11 : 0 ≤ (c9_).toNat ∧ (c9_).toNat ≤ (c8_).l.length then
        (qb4_ n a0 (c6_.1) (nlSub c8_ 0 (c9_).toNat hc11)).bind fun c12_ =>
        some c12_
       else none
      else none
     else
      if (c6_.2.1) = 5 then
       (qbu_ n a1 a2).bind fun c9_ =>
       ((some (w64 ((((c9_).l.length : Nat) : Int) - 1)))).bind fun c10_ =>
       if 0 ≤ c10_ then
        if hc12 : 0 ≤ (c10_).toNat ∧ (c10_).toNat ≤ (c9_).l.length then
         (qb4_ n a0 (c6_.1) (nlSub c9_ 0 (c10_).toNat hc12)).bind fun c13_ =>
         some c13_
        else none
       else none
      else
       some 0
    else none
 else
  some 0
theorem qnq_ (n : Nat) (a0 : WL rw_iLii) (a1 : W8) (a2 : Int) (r : Int) (h : qbv_ n a0 a1 a2 = some r) : qpj_ a0 a1 a2 r := by
 unfold qbv_ at h
 obtain ⟨c1_, hc1, h⟩ := oB h
 have k0 := fun {A L l} (k : PL A L l) => yy 5 (.call (qgg_ a1 c1_ [] [])) <|
  ww (qe7_ n a1 c1_ hc1) <|
  k
 by_cases hc2 : c1_ = 0
 ·rw [if_pos hc2] at h
  have k2 := fun {A L l} (k : PL A L l) => zz 6 (xnF hc2) <|
   k
  by_cases hc3 : a2 < 0
  ·rw [if_pos hc3] at h
   obtain rfl := oI h
   exact runF2 hm (kW [6] [] 0 0) (k0 <|
    k2 <|
    zz 9 (xdT hc3) <|
    ee) (by kernel_rfl)
  ·rw [if_neg hc3] at h
   have k3 := fun {A L l} (k : PL A L l) => zz 9 (xdF hc3) <|
    k
   by_cases hc4 : a2 ≥ (((a1).l.length : Nat) : Int)
   ·rw [if_pos hc4] at h
    obtain rfl := oI h
    exact runF2 hm (kW [6] [] 0 0) (k0 <|
     k2 <|
     k3 <|
     zz 15 (xdT hc4) <|
     ee) (by kernel_rfl)
   ·rw [if_neg hc4] at h
    obtain ⟨hc5, h⟩ := gd h
    obtain ⟨c6_, hc6, h⟩ := oB h
    have k4 := fun {A L l} (k : PL A L l) => zz 15 (xdF hc4) <|
     zz 20 (xk4 (a1).num (a1).off (a1).cap hc5) <|
     zz 21 (fk25 (a1).num (Nat.add (a1).off ((a2).toNat * 8))) <|
     zz 22 (lk26 hc6 (qbp_ hc5)) <|
     k
    by_cases hc7 : (c6_.2.1) = 3
    ·rw [if_pos hc7] at h
     obtain ⟨c8_, hc8, h⟩ := oB h
     obtain ⟨c9_, hc9, h⟩ := oB h
     obtain ⟨hc10, h⟩ := gd h
     obtain ⟨hc11, h⟩ := gdD h
     replace h := oB h
     obtain ⟨c12_, hc12, h⟩ := h
     obtain rfl := oI h
     exact runF2 hm (kW [6] [] 0 0) (k0 <|
      k2 <|
      k3 <|
      k4 <|
      zz 23 (xnF hc7) <|
      yy 37 (.call (qj7_ a1 a2 c8_ [] [])) <|
      ww (qij_ n a1 a2 c8_ hc8) <|
      zz 43 (xk4 (a1).num (a1).off (a1).cap hc5) <|
      zz 44 (fk21 (a1).num (Nat.add (a1).off ((a2).toNat * 8))) <|
      zz 45 (lk22 hc6 (qbp_ hc5)) <|
      zz 49 (xnm hc9) <|
      yy 50 (.pur (nlV (nlSub c8_ 0 (c9_).toNat hc11))) <|
      ww (p := qks_ P 26 (nlV c8_) none (some (i6 c9_)) none Ax.h0 = some ((nlV (nlSub c8_ 0 (c9_).toNat hc11)), Ax.h0)) (slNL (e := 3) c8_ (by kernel_rfl) (by kernel_rfl) rfl (bnd_int hc10) hc11) <|
      yy 51 (.call (qga_ a0 (c6_.1) (nlSub c8_ 0 (c9_).toNat hc11) c12_ [] [])) <|
      ww (qe6_ n a0 (c6_.1) (nlSub c8_ 0 (c9_).toNat hc11) c12_ hc12) <|
      ee) (by kernel_rfl)
    ·rw [if_neg hc7] at h
     have k8 := fun {A L l} (k : PL A L l) => zz 23 (xnT hc7) <|
      zz 27 (xk4 (a1).num (a1).off (a1).cap hc5) <|
      zz 28 (fk25 (a1).num (Nat.add (a1).off ((a2).toNat * 8))) <|
      zz 29 (lk26 hc6 (qbp_ hc5)) <|
      k
     by_cases hc8 : (c6_.2.1) = 5
     ·rw [if_pos hc8] at h
      obtain ⟨c9_, hc9, h⟩ := oB h
      obtain ⟨c10_, hc10, h⟩ := oB h
      obtain ⟨hc11, h⟩ := gd h
      obtain ⟨hc12, h⟩ := gdD h
      replace h := oB h
      obtain ⟨c13_, hc13, h⟩ := h
      obtain rfl := oI h
      exact runF2 hm (kW [6] [] 0 0) (k0 <|
       k2 <|
       k3 <|
       k4 <|
       k8 <|
       zz 30 (xnF hc8) <|
       yy 37 (.call (qj7_ a1 a2 c9_ [] [])) <|
       ww (qij_ n a1 a2 c9_ hc9) <|
       zz 43 (xk4 (a1).num (a1).off (a1).cap hc5) <|
       zz 44 (fk21 (a1).num (Nat.add (a1).off ((a2).toNat * 8))) <|
       zz 45 (lk22 hc6 (qbp_ hc5)) <|
       zz 49 (xnm hc10) <|
       yy 50 (.pur (nlV (nlSub c9_ 0 (c10_).toNat hc12))) <|
       ww (p := qks_ P 26 (nlV c9_) none (some (i6 c10_)) none Ax.h0 = some ((nlV (nlSub c9_ 0 (c10_).toNat hc12)), Ax.h0)) (slNL (e := 3) c9_ (by kernel_rfl) (by kernel_rfl) rfl (bnd_int hc11) hc12) <|
       yy 51 (.call (qga_ a0 (c6_.1) (nlSub c9_ 0 (c10_).toNat hc12) c13_ [] [])) <|
       ww (qe6_ n a0 (c6_.1) (nlSub c9_ 0 (c10_).toNat hc12) c13_ hc13) <|
       ee) (by kernel_rfl)
     ·rw [if_neg hc8] at h
      obtain rfl := oI h
      exact runF2 hm (kW [6] [] 0 0) (k0 <|
       k2 <|
       k3 <|
       k4 <|
       k8 <|
       zz 30 (xnT hc8) <|
       ee) (by kernel_rfl)
 ·rw [if_neg hc2] at h
  obtain rfl := oI h
  exact runF2 hm (kW [6] [] 0 0) (k0 <|
   zz 6 (xnT hc2) <|
   ee) (by kernel_rfl)

def qhe_ (g10 : Int) (g11 : Int) (g12 : Int) (g2 : Int) (g3 : NL) (g5 : Int) : List Value := [(wlV wA), (Value.agg #[(i6 g10), (i6 g11), (i6 g12), (wlV wB)]), (i6 g2), (nlV g3), (wlV wC), (i6 g5)]
def qmf_ (g10 : Int) (g11 : Int) (g12 : Int) (g2 : Int) (g3 : NL) (g5 : Int) (r : Unit) : Value := match r with
 | _ => (bO true)
def qmg_ (g10 : Int) (g11 : Int) (g12 : Int) (g2 : Int) (g3 : NL) (g5 : Int) (r : Unit) : AH := match r with
 | _ => ⟨sB [], 0, 0⟩
abbrev qmh_ (g10 : Int) (g11 : Int) (g12 : Int) (g2 : Int) (g3 : NL) (g5 : Int) (r : Unit) : Prop := Gv P (.func 3) (qhe_ g10 g11 g12 g2 g3 g5) ⟨sB [], 0, 0⟩ (qmf_ g10 g11 g12 g2 g3 g5 r) (qmg_ g10 g11 g12 g2 g3 g5 r)
def qk6_ (x0 : WL rw_iLii) (x1 : Int) (x2 : NL) (x3 : W8) (x4 : Int) (x5 : Int) (x6 : Int) (x7 : Int) (x8 : WL rw_iL) (x9 : Int) (x10 : Bool) (st : Unit) : XSt := (sT 76 [(0, (wlV x0)), (2, (i6 x1)), (3, (nlV x2)), (4, (wlV x3)), (5, (i6 x4)), (7, (pN 0 0)), (13, (i6 x9)), (46, (bO x10))], [], ⟨sB [(0, (cB [(i6 x5), (i6 x6), (i6 x7), (wlV x8)] 25))], 1, 0⟩)
def qb6_ (x0 : WL rw_iLii) (x1 : Int) (x2 : NL) (x3 : W8) (x4 : Int) (x5 : Int) (x6 : Int) (x7 : Int) (x8 : WL rw_iL) (x9 : Int) (x10 : Bool) (r : Unit) : Ex × XSt := match r with
 | _ => (.normal, (sT 76 [(0, (wlV x0)), (2, (i6 x1)), (3, (nlV x2)), (4, (wlV x3)), (5, (i6 x4)), (7, (pN 0 0)), (13, (i6 x9))], [], ⟨sB [(0, (cB [(i6 x5), (i6 x6), (i6 x7), (wlV x8)] 25))], 1, 0⟩))
abbrev qk7_ (rd : Option Nat) (x0 : WL rw_iLii) (x1 : Int) (x2 : NL) (x3 : W8) (x4 : Int) (x5 : Int) (x6 : Int) (x7 : Int) (x8 : WL rw_iL) (x9 : Int) (x10 : Bool) (st : Unit) (r : Unit) : Prop := CG P rd (fnN P 3) 0 (qx_ P 3 [true, false, false, true, false, false, true, false, true, true, true]) (qk6_ x0 x1 x2 x3 x4 x5 x6 x7 x8 x9 x10 st) (qb6_ x0 x1 x2 x3 x4 x5 x6 x7 x8 x9 x10 r)
def qb7_ (n : Nat) (x0 : WL rw_iLii) (x1 : Int) (x2 : NL) (x3 : W8) (x4 : Int) (x5 : Int) (x6 : Int) (x7 : Int) (x8 : WL rw_iL) (x9 : Int) (x10 : Bool) (st : Unit) : Option (Unit) :=
 if x10 = true then
  none
 else
  some ()
theorem qfc_ (n : Nat) {rnd : Option Nat} (x0 : WL rw_iLii) (x1 : Int) (x2 : NL) (x3 : W8) (x4 : Int) (x5 : Int) (x6 : Int) (x7 : Int) (x8 : WL rw_iL) (x9 : Int) (x10 : Bool) (st : Unit) (r : Unit) (h : qb7_ n x0 x1 x2 x3 x4 x5 x6 x7 x8 x9 x10 st = some r) : qk7_ rnd x0 x1 x2 x3 x4 x5 x6 x7 x8 x9 x10 st r := by
 unfold qb7_ at h
 by_cases hy1 : x10 = true
 ·rw [if_pos hy1] at h
  cases h
 ·rw [if_neg hy1] at h
  obtain rfl := oI h
  exact runC2 hm (kW [0, 2, 3, 4, 5, 7, 13] [(0, 0, false)] 1 0) (zz 0 (xbF hy1) <|
   ee) (by kernel_rfl)
def qk8_ (x0 : WL rw_iLii) (x1 : Int) (x2 : NL) (x3 : W8) (x4 : Int) (x5 : Int) (x6 : Int) (x7 : Int) (x8 : WL rw_iL) (x9 : Int) (st : Unit) : XSt := (sT 76 [(0, (wlV x0)), (2, (i6 x1)), (3, (nlV x2)), (4, (wlV x3)), (5, (i6 x4)), (7, (pN 0 0)), (13, (i6 x9))], [], ⟨sB [(0, (cB [(i6 x5), (i6 x6), (i6 x7), (wlV x8)] 25))], 1, 0⟩)
def qed_ (x0 : WL rw_iLii) (x1 : Int) (x2 : NL) (x3 : W8) (x4 : Int) (x5 : Int) (x6 : Int) (x7 : Int) (x8 : WL rw_iL) (x9 : Int) (r : Unit) : Ex × XSt := match r with
 | _ => (.normal, (sT 76 [(0, (wlV x0)), (2, (i6 x1)), (3, (nlV x2)), (4, (wlV x3)), (5, (i6 x4)), (7, (pN 0 0)), (13, (i6 (w64 (x9 + 1))))], [], ⟨sB [(0, (cB [(i6 x5), (i6 x6), (i6 x7), (wlV x8)] 25))], 1, 0⟩))
abbrev qk9_ (rd : Option Nat) (x0 : WL rw_iLii) (x1 : Int) (x2 : NL) (x3 : W8) (x4 : Int) (x5 : Int) (x6 : Int) (x7 : Int) (x8 : WL rw_iL) (x9 : Int) (st : Unit) (r : Unit) : Prop := CG P rd (fnN P 3) 0 (qx_ P 3 [true, false, false, true, false, true, true, true]) (qk8_ x0 x1 x2 x3 x4 x5 x6 x7 x8 x9 st) (qed_ x0 x1 x2 x3 x4 x5 x6 x7 x8 x9 r)
def qcx_ (n : Nat) (x0 : WL rw_iLii) (x1 : Int) (x2 : NL) (x3 : W8) (x4 : Int) (x5 : Int) (x6 : Int) (x7 : Int) (x8 : WL rw_iL) (x9 : Int) (st : Unit) : Option (Unit) :=
 if 0 ≤ x9 ∧ x9 < (((x0).l.length : Nat) : Int) then
  ((some (((x0).l).getD (x9).toNat (0, nl0, 0, 0)))).bind fun y2_ =>
  (qdo_ n (y2_.1) (y2_.2.1) (y2_.2.2.1) (y2_.2.2.2) x1 x2).bind fun y3_ =>
  (qcb_ n (y2_.1) (y2_.2.1) (y2_.2.2.1) (y2_.2.2.2) x1 x2).bind fun y4_ =>
  if y3_ = y4_ then
   (qb7_ n x0 x1 x2 x3 x4 x5 x6 x7 x8 x9 false ()).bind fun _ =>
   some ()
  else
   (qb7_ n x0 x1 x2 x3 x4 x5 x6 x7 x8 x9 true ()).bind fun _ =>
   some ()
 else none
theorem qjl_ (n : Nat) {rnd : Option Nat} (x0 : WL rw_iLii) (x1 : Int) (x2 : NL) (x3 : W8) (x4 : Int) (x5 : Int) (x6 : Int) (x7 : Int) (x8 : WL rw_iL) (x9 : Int) (st : Unit) (r : Unit) (h : qcx_ n x0 x1 x2 x3 x4 x5 x6 x7 x8 x9 st = some r) : qk9_ rnd x0 x1 x2 x3 x4 x5 x6 x7 x8 x9 st r := by
 unfold qcx_ at h
 obtain ⟨hy1, h⟩ := gd h
 obtain ⟨y2_, hy2, h⟩ := oB h
 obtain ⟨y3_, hy3, h⟩ := oB h
 obtain ⟨y4_, hy4, h⟩ := oB h
 have k0 := fun {A L l} (k : PL A L l) => zz 5 (xk1 (x0).num (x0).off (x0).cap hy1) <|
  zz 6 (lk9 hy2 (qbp_ hy1)) <|
  yy 9 (.call (qjr_ (y2_.1) (y2_.2.1) (y2_.2.2.1) (y2_.2.2.2) x1 x2 y3_ [] [])) <|
  ww (qhi_ n (y2_.1) (y2_.2.1) (y2_.2.2.1) (y2_.2.2.2) x1 x2 y3_ hy3) <|
  zz 12 (xk1 (x0).num (x0).off (x0).cap hy1) <|
  zz 13 (lk9 hy2 (qbp_ hy1)) <|
  yy 16 (.call (qh1_ (y2_.1) (y2_.2.1) (y2_.2.2.1) (y2_.2.2.2) x1 x2 y4_ [] [])) <|
  ww (qgq_ n (y2_.1) (y2_.2.1) (y2_.2.2.1) (y2_.2.2.2) x1 x2 y4_ hy4) <|
  k
 by_cases hy5 : y3_ = y4_
 ·rw [if_pos hy5] at h
  obtain ⟨_, hy6, h⟩ := oB h
  obtain rfl := oI h
  exact runC2 hm (kW [0, 2, 3, 4, 5, 7, 13] [(0, 0, false)] 1 0) (k0 <|
   yy 17 (vf) <|
   ww (p := (Value.bool (!(y3_ == y4_))) = (Value.bool false)) (congrArg (fun x => Value.bool (!x)) (beq_iff_eq.2 hy5)) <|
   ww (qfc_ n (rnd := rnd) x0 x1 x2 x3 x4 x5 x6 x7 x8 x9 false () () hy6) <|
   ll 18 ⟨(kW [0, 2, 3, 4, 5, 7, 13, 46] [(0, 0, false)] 1 0), (qb6_ x0 x1 x2 x3 x4 x5 x6 x7 x8 x9 false ()).1, (qb6_ x0 x1 x2 x3 x4 x5 x6 x7 x8 x9 false ()).2⟩ <|
   ee) (by kernel_rfl)
 ·rw [if_neg hy5] at h
  obtain ⟨_, hy6, h⟩ := oB h
  obtain rfl := oI h
  exact runC2 hm (kW [0, 2, 3, 4, 5, 7, 13] [(0, 0, false)] 1 0) (k0 <|
   yy 17 (vt) <|
   ww (p := (Value.bool (!(y3_ == y4_))) = (Value.bool true)) (congrArg (fun x => Value.bool (!x)) (beq_eq_false_iff_ne.2 hy5)) <|
   ww (qfc_ n (rnd := rnd) x0 x1 x2 x3 x4 x5 x6 x7 x8 x9 true () () hy6) <|
   ll 18 ⟨(kW [0, 2, 3, 4, 5, 7, 13, 46] [(0, 0, false)] 1 0), (qb6_ x0 x1 x2 x3 x4 x5 x6 x7 x8 x9 true ()).1, (qb6_ x0 x1 x2 x3 x4 x5 x6 x7 x8 x9 true ()).2⟩ <|
   ee) (by kernel_rfl)
def qcy_ (x0 : WL rw_iLii) (x1 : Int) (x2 : NL) (x3 : W8) (x4 : Int) (x5 : Int) (x6 : Int) (x7 : Int) (x8 : WL rw_iL) (st : Int) : XSt := match st with
 | x9 => (sT 76 [(0, (wlV x0)), (2, (i6 x1)), (3, (nlV x2)), (4, (wlV x3)), (5, (i6 x4)), (7, (pN 0 0)), (13, (i6 x9))], [], ⟨sB [(0, (cB [(i6 x5), (i6 x6), (i6 x7), (wlV x8)] 25))], 1, 0⟩)
def qb8_ (x0 : WL rw_iLii) (x1 : Int) (x2 : NL) (x3 : W8) (x4 : Int) (x5 : Int) (x6 : Int) (x7 : Int) (x8 : WL rw_iL) (r : Unit) : Ex × XSt := match r with
 | _ => (.exit 0, (sT 76 [(0, (wlV x0)), (2, (i6 x1)), (3, (nlV x2)), (4, (wlV x3)), (5, (i6 x4)), (7, (pN 0 0))], [], ⟨sB [(0, (cB [(i6 x5), (i6 x6), (i6 x7), (wlV x8)] 25))], 1, 0⟩))
abbrev qla_ (rd : Option Nat) (x0 : WL rw_iLii) (x1 : Int) (x2 : NL) (x3 : W8) (x4 : Int) (x5 : Int) (x6 : Int) (x7 : Int) (x8 : WL rw_iL) (st : Int) (r : Unit) : Prop := CG P rd (fnN P 3) 0 (qx_ P 3 [false, true, false, true, true, true]) (qcy_ x0 x1 x2 x3 x4 x5 x6 x7 x8 st) (qb8_ x0 x1 x2 x3 x4 x5 x6 x7 x8 r)
def qv_ (n : Nat) (x0 : WL rw_iLii) (x1 : Int) (x2 : NL) (x3 : W8) (x4 : Int) (x5 : Int) (x6 : Int) (x7 : Int) (x8 : WL rw_iL) (st : Int) : Option ((Int) ⊕ (Unit)) := match st with
 | x9 =>
  if x9 < (((x0).l.length : Nat) : Int) then
   (qcx_ n x0 x1 x2 x3 x4 x5 x6 x7 x8 x9 ()).bind fun _ =>
   some (.inl (w64 (x9 + 1)))
  else
   some (.inr ())
def qee_ (n : Nat) (x0 : WL rw_iLii) (x1 : Int) (x2 : NL) (x3 : W8) (x4 : Int) (x5 : Int) (x6 : Int) (x7 : Int) (x8 : WL rw_iL) (st : Int) : Option (Unit) := iterM (qv_ n x0 x1 x2 x3 x4 x5 x6 x7 x8) n st
theorem qgh_ (n : Nat) {rnd : Option Nat} (x0 : WL rw_iLii) (x1 : Int) (x2 : NL) (x3 : W8) (x4 : Int) (x5 : Int) (x6 : Int) (x7 : Int) (x8 : WL rw_iL) (x9 : Int) (o : (Int) ⊕ (Unit)) (h : qv_ n x0 x1 x2 x3 x4 x5 x6 x7 x8 x9 = some o) : CG P rnd (fnN P 3) 0 (qx_ P 3 [false, false, true, false, true, true, true]) (qcy_ x0 x1 x2 x3 x4 x5 x6 x7 x8 x9) (Sum.elim (fun s => (.normal, qcy_ x0 x1 x2 x3 x4 x5 x6 x7 x8 s)) (fun r => qb8_ x0 x1 x2 x3 x4 x5 x6 x7 x8 r) o) := by
 unfold qv_ at h
 dsimp only at h
 by_cases hy1 : x9 < (((x0).l.length : Nat) : Int)
 ·rw [if_pos hy1] at h
  obtain ⟨_, hy2, h⟩ := oB h
  obtain rfl := oI h
  exact runC2 hm (kW [0, 2, 3, 4, 5, 7, 13] [(0, 0, false)] 1 0) (zz 5 (xdT hy1) <|
   ww (qjl_ n (rnd := rnd) x0 x1 x2 x3 x4 x5 x6 x7 x8 x9 () () hy2) <|
   ll 7 ⟨(kW [0, 2, 3, 4, 5, 7, 13] [(0, 0, false)] 1 0), (qed_ x0 x1 x2 x3 x4 x5 x6 x7 x8 x9 ()).1, (qed_ x0 x1 x2 x3 x4 x5 x6 x7 x8 x9 ()).2⟩ <|
   ee) (by kernel_rfl)
 ·rw [if_neg hy1] at h
  obtain rfl := oI h
  exact runC2 hm (kW [0, 2, 3, 4, 5, 7] [(0, 0, false)] 1 0) (zz 5 (xdF hy1) <|
   ee) (by kernel_rfl)
theorem qjm_ (n : Nat) {rnd : Option Nat} (x0 : WL rw_iLii) (x1 : Int) (x2 : NL) (x3 : W8) (x4 : Int) (x5 : Int) (x6 : Int) (x7 : Int) (x8 : WL rw_iL) (st : Int) (r : Unit) (h : qee_ n x0 x1 x2 x3 x4 x5 x6 x7 x8 st = some r) : qla_ rnd x0 x1 x2 x3 x4 x5 x6 x7 x8 st r :=
 CG.iter (b := qx_ P 3 [false, false, true, false, true, true, true]) (by kernel_rfl) (body := qv_ n x0 x1 x2 x3 x4 x5 x6 x7 x8) (S := qcy_ x0 x1 x2 x3 x4 x5 x6 x7 x8) (X := qb8_ x0 x1 x2 x3 x4 x5 x6 x7 x8)
  (fun s s' h => qgh_ n x0 x1 x2 x3 x4 x5 x6 x7 x8 s (.inl s') h)
  (fun s r h => qgh_ n x0 x1 x2 x3 x4 x5 x6 x7 x8 s (.inr r) h)
  (fun r => by intro hx; cases hx) h
def qlb_ (x0 : WL rw_iLii) (x1 : Int) (x2 : NL) (x3 : W8) (x4 : Int) (x5 : Int) (x6 : Int) (x7 : Int) (x8 : WL rw_iL) (x9 : Bool) (st : Unit) : XSt := (sT 76 [(0, (wlV x0)), (2, (i6 x1)), (3, (nlV x2)), (4, (wlV x3)), (5, (i6 x4)), (7, (pN 0 0)), (25, (bO x9))], [], ⟨sB [(0, (cB [(i6 x5), (i6 x6), (i6 x7), (wlV x8)] 25))], 1, 0⟩)
def qc_ (x0 : WL rw_iLii) (x1 : Int) (x2 : NL) (x3 : W8) (x4 : Int) (x5 : Int) (x6 : Int) (x7 : Int) (x8 : WL rw_iL) (x9 : Bool) (r : (Unit) ⊕ (Unit)) : Ex × XSt := match r with
 | .inl _ => (.ret, (sT 76 [(12, (bO true))], [], ⟨sB [], 0, 0⟩))
 | .inr _ => (.normal, (sT 76 [(0, (wlV x0)), (2, (i6 x1)), (3, (nlV x2)), (4, (wlV x3)), (5, (i6 x4)), (7, (pN 0 0))], [], ⟨sB [(0, (cB [(i6 x5), (i6 x6), (i6 x7), (wlV x8)] 25))], 1, 0⟩))
abbrev qlc_ (rd : Option Nat) (x0 : WL rw_iLii) (x1 : Int) (x2 : NL) (x3 : W8) (x4 : Int) (x5 : Int) (x6 : Int) (x7 : Int) (x8 : WL rw_iL) (x9 : Bool) (st : Unit) (r : (Unit) ⊕ (Unit)) : Prop := CG P rd (fnN P 3) 0 (qx_ P 3 [true, false, true, true]) (qlb_ x0 x1 x2 x3 x4 x5 x6 x7 x8 x9 st) (qc_ x0 x1 x2 x3 x4 x5 x6 x7 x8 x9 r)
def qi_ (n : Nat) (x0 : WL rw_iLii) (x1 : Int) (x2 : NL) (x3 : W8) (x4 : Int) (x5 : Int) (x6 : Int) (x7 : Int) (x8 : WL rw_iL) (x9 : Bool) (st : Unit) : Option ((Unit) ⊕ (Unit)) :=
 if x9 = true then
  some (.inl ())
 else
  some (.inr ())
theorem qy_ (n : Nat) {rnd : Option Nat} (x0 : WL rw_iLii) (x1 : Int) (x2 : NL) (x3 : W8) (x4 : Int) (x5 : Int) (x6 : Int) (x7 : Int) (x8 : WL rw_iL) (x9 : Bool) (st : Unit) (r : (Unit) ⊕ (Unit)) (h : qi_ n x0 x1 x2 x3 x4 x5 x6 x7 x8 x9 st = some r) : qlc_ rnd x0 x1 x2 x3 x4 x5 x6 x7 x8 x9 st r := by
 unfold qi_ at h
 by_cases hy1 : x9 = true
 ·rw [if_pos hy1] at h
  obtain rfl := oI h
  exact runC2 hm (kW [12] [] 0 0) (zz 0 (xbT hy1) <|
   ee) (by kernel_rfl)
 ·rw [if_neg hy1] at h
  obtain rfl := oI h
  exact runC2 hm (kW [0, 2, 3, 4, 5, 7] [(0, 0, false)] 1 0) (zz 0 (xbF hy1) <|
   ee) (by kernel_rfl)
def qld_ (x0 : WL rw_iLii) (x1 : Int) (x2 : NL) (x3 : W8) (x4 : Int) (x5 : Int) (x6 : Int) (x7 : Int) (x8 : WL rw_iL) (st : Unit) : XSt := (sT 76 [(0, (wlV x0)), (2, (i6 x1)), (3, (nlV x2)), (4, (wlV x3)), (5, (i6 x4)), (7, (pN 0 0))], [], ⟨sB [(0, (cB [(i6 x5), (i6 x6), (i6 x7), (wlV x8)] 25))], 1, 0⟩)
def qef_ (x0 : WL rw_iLii) (x1 : Int) (x2 : NL) (x3 : W8) (x4 : Int) (x5 : Int) (x6 : Int) (x7 : Int) (x8 : WL rw_iL) (r : Unit) : Ex × XSt := match r with
 | _ => (.ret, (sT 76 [(12, (bO true))], [], ⟨sB [], 0, 0⟩))
abbrev qle_ (rd : Option Nat) (x0 : WL rw_iLii) (x1 : Int) (x2 : NL) (x3 : W8) (x4 : Int) (x5 : Int) (x6 : Int) (x7 : Int) (x8 : WL rw_iL) (st : Unit) (r : Unit) : Prop := CG P rd (fnN P 3) 0 (qx_ P 3 [true, true, true, true]) (qld_ x0 x1 x2 x3 x4 x5 x6 x7 x8 st) (qef_ x0 x1 x2 x3 x4 x5 x6 x7 x8 r)
def qcz_ (n : Nat) (x0 : WL rw_iLii) (x1 : Int) (x2 : NL) (x3 : W8) (x4 : Int) (x5 : Int) (x6 : Int) (x7 : Int) (x8 : WL rw_iL) (st : Unit) : Option (Unit) :=
 (qg9_ n x0 x5 x6 x7 x8).bind fun y1_ =>
 (qdi_ n x0 x5 x6 x7 x8).bind fun y2_ =>
 if y1_ = y2_ then
  (qew_ n x0 x1 x2).bind fun y4_ =>
  (qb4_ n x0 x1 x2).bind fun y5_ =>
  if y4_ = y5_ then
   (qes_ n x0 x3 x4).bind fun y7_ =>
   (qbv_ n x0 x3 x4).bind fun y8_ =>
   if y7_ = y8_ then
    some ()
   else
    none
  else
   none
 else
  none
theorem qjn_ (n : Nat) {rnd : Option Nat} (x0 : WL rw_iLii) (x1 : Int) (x2 : NL) (x3 : W8) (x4 : Int) (x5 : Int) (x6 : Int) (x7 : Int) (x8 : WL rw_iL) (st : Unit) (r : Unit) (h : qcz_ n x0 x1 x2 x3 x4 x5 x6 x7 x8 st = some r) : qle_ rnd x0 x1 x2 x3 x4 x5 x6 x7 x8 st r := by
 unfold qcz_ at h
 obtain ⟨y1_, hy1, h⟩ := oB h
 obtain ⟨y2_, hy2, h⟩ := oB h
 have k0 := fun {A L l} (k : PL A L l) => yy 3 (.call (qur_ x0 x5 x6 x7 x8 y1_ [] [])) <|
  ww (qro_ n x0 x5 x6 x7 x8 y1_ hy1) <|
  yy 6 (.call (qov_ x0 x5 x6 x7 x8 y2_ [] [])) <|
  ww (qmy_ n x0 x5 x6 x7 x8 y2_ hy2) <|
  k
 by_cases hy3 : y1_ = y2_
 ·rw [if_pos hy3] at h
  obtain ⟨y4_, hy4, h⟩ := oB h
  obtain ⟨y5_, hy5, h⟩ := oB h
  have k4 := fun {A L l} (k : PL A L l) => zz 7 (xeT hy3) <|
   yy 12 (.call (qma_ x0 x1 x2 y4_ [] [])) <|
   ww (qit_ n x0 x1 x2 y4_ hy4) <|
   yy 16 (.call (qga_ x0 x1 x2 y5_ [] [])) <|
   ww (qe6_ n x0 x1 x2 y5_ hy5) <|
   k
  by_cases hy6 : y4_ = y5_
  ·rw [if_pos hy6] at h
   obtain ⟨y7_, hy7, h⟩ := oB h
   obtain ⟨y8_, hy8, h⟩ := oB h
   have k9 := fun {A L l} (k : PL A L l) => zz 17 (xeT hy6) <|
    yy 23 (.call (qwj_ x0 x3 x4 y7_ [] [])) <|
    ww (qsj_ n x0 x3 x4 y7_ hy7) <|
    yy 27 (.call (qpk_ x0 x3 x4 y8_ [] [])) <|
    ww (qnq_ n x0 x3 x4 y8_ hy8) <|
    k
   by_cases hy9 : y7_ = y8_
   ·rw [if_pos hy9] at h
    obtain rfl := oI h
    exact runC2 hm (kW [12] [] 0 0) (k0 <|
     k4 <|
     k9 <|
     zz 28 (xeT hy9) <|
     ee) (by kernel_rfl)
   ·rw [if_neg hy9] at h
    cases h
  ·rw [if_neg hy6] at h
   cases h
 ·rw [if_neg hy3] at h
  cases h
def qlf_ (x0 : WL rw_iLii) (x1 : Int) (x2 : NL) (x3 : W8) (x4 : Int) (x5 : Int) (x6 : Int) (x7 : Int) (x8 : WL rw_iL) (st : Unit) : XSt := (sT 76 [(0, (wlV x0)), (2, (i6 x1)), (3, (nlV x2)), (4, (wlV x3)), (5, (i6 x4)), (7, (pN 0 0)), (15, (bO false))], [], ⟨sB [(0, (cB [(i6 x5), (i6 x6), (i6 x7), (wlV x8)] 25))], 1, 0⟩)
def qeg_ (x0 : WL rw_iLii) (x1 : Int) (x2 : NL) (x3 : W8) (x4 : Int) (x5 : Int) (x6 : Int) (x7 : Int) (x8 : WL rw_iL) (r : Unit) : Ex × XSt := match r with
 | _ => (.normal, (sT 76 [(0, (wlV x0)), (2, (i6 x1)), (3, (nlV x2)), (4, (wlV x3)), (5, (i6 x4)), (7, (pN 0 0))], [], ⟨sB [(0, (cB [(i6 x5), (i6 x6), (i6 x7), (wlV x8)] 25))], 1, 0⟩))
abbrev qlg_ (rd : Option Nat) (x0 : WL rw_iLii) (x1 : Int) (x2 : NL) (x3 : W8) (x4 : Int) (x5 : Int) (x6 : Int) (x7 : Int) (x8 : WL rw_iL) (st : Unit) (r : Unit) : Prop := CG P rd (fnN P 3) 0 (qx_ P 3 [true, false, true]) (qlf_ x0 x1 x2 x3 x4 x5 x6 x7 x8 st) (qeg_ x0 x1 x2 x3 x4 x5 x6 x7 x8 r)
def qc0_ (n : Nat) (x0 : WL rw_iLii) (x1 : Int) (x2 : NL) (x3 : W8) (x4 : Int) (x5 : Int) (x6 : Int) (x7 : Int) (x8 : WL rw_iL) (st : Unit) : Option (Unit) :=
 some ()
theorem qjo_ (n : Nat) {rnd : Option Nat} (x0 : WL rw_iLii) (x1 : Int) (x2 : NL) (x3 : W8) (x4 : Int) (x5 : Int) (x6 : Int) (x7 : Int) (x8 : WL rw_iL) (st : Unit) (r : Unit) (h : qc0_ n x0 x1 x2 x3 x4 x5 x6 x7 x8 st = some r) : qlg_ rnd x0 x1 x2 x3 x4 x5 x6 x7 x8 st r := by
 unfold qc0_ at h
 obtain rfl := oI h
 exact runC2 hm (kW [0, 2, 3, 4, 5, 7] [(0, 0, false)] 1 0) (ee) (by kernel_rfl)
def qlh_ (x0 : WL rw_iLii) (x1 : Int) (x2 : NL) (x3 : W8) (x4 : Int) (x5 : Int) (x6 : Int) (x7 : Int) (x8 : WL rw_iL) (st : Unit) : XSt := (sT 76 [(0, (wlV x0)), (2, (i6 x1)), (3, (nlV x2)), (4, (wlV x3)), (5, (i6 x4)), (7, (pN 0 0))], [], ⟨sB [(0, (cB [(i6 x5), (i6 x6), (i6 x7), (wlV x8)] 25))], 1, 0⟩)
def qw_ (x0 : WL rw_iLii) (x1 : Int) (x2 : NL) (x3 : W8) (x4 : Int) (x5 : Int) (x6 : Int) (x7 : Int) (x8 : WL rw_iL) (r : Unit) : Ex × XSt := match r with
 | _ => (.ret, (sT 76 [(12, (bO true))], [], ⟨sB [], 0, 0⟩))
abbrev qli_ (rd : Option Nat) (x0 : WL rw_iLii) (x1 : Int) (x2 : NL) (x3 : W8) (x4 : Int) (x5 : Int) (x6 : Int) (x7 : Int) (x8 : WL rw_iL) (st : Unit) (r : Unit) : Prop := CG P rd (fnN P 3) 0 (qx_ P 3 [true, true, true]) (qlh_ x0 x1 x2 x3 x4 x5 x6 x7 x8 st) (qw_ x0 x1 x2 x3 x4 x5 x6 x7 x8 r)
def qj_ (n : Nat) (x0 : WL rw_iLii) (x1 : Int) (x2 : NL) (x3 : W8) (x4 : Int) (x5 : Int) (x6 : Int) (x7 : Int) (x8 : WL rw_iL) (st : Unit) : Option (Unit) :=
 (qee_ n x0 x1 x2 x3 x4 x5 x6 x7 x8 0).bind fun _ =>
 (qcz_ n x0 x1 x2 x3 x4 x5 x6 x7 x8 ()).bind fun _ =>
 some ()
theorem qdj_ (n : Nat) {rnd : Option Nat} (x0 : WL rw_iLii) (x1 : Int) (x2 : NL) (x3 : W8) (x4 : Int) (x5 : Int) (x6 : Int) (x7 : Int) (x8 : WL rw_iL) (st : Unit) (r : Unit) (h : qj_ n x0 x1 x2 x3 x4 x5 x6 x7 x8 st = some r) : qli_ rnd x0 x1 x2 x3 x4 x5 x6 x7 x8 st r := by
 unfold qj_ at h
 obtain ⟨_, hy1, h⟩ := oB h
 obtain ⟨_, hy2, h⟩ := oB h
 obtain rfl := oI h
 exact runC2 hm (kW [12] [] 0 0) (ww (qjm_ n (rnd := rnd) x0 x1 x2 x3 x4 x5 x6 x7 x8 0 () hy1) <|
  ll 4 ⟨(kW [0, 2, 3, 4, 5, 7, 13] [(0, 0, false)] 1 0), (qb8_ x0 x1 x2 x3 x4 x5 x6 x7 x8 ()).1, (qb8_ x0 x1 x2 x3 x4 x5 x6 x7 x8 ()).2⟩ <|
  ww (qjn_ n (rnd := rnd) x0 x1 x2 x3 x4 x5 x6 x7 x8 () () hy2) <|
  ll 5 ⟨(kW [0, 2, 3, 4, 5, 7] [(0, 0, false)] 1 0), (qef_ x0 x1 x2 x3 x4 x5 x6 x7 x8 ()).1, (qef_ x0 x1 x2 x3 x4 x5 x6 x7 x8 ()).2⟩ <|
  ee) (by kernel_rfl)
def qlj_ (x0 : WL rw_iLii) (x1 : Int) (x2 : NL) (x3 : W8) (x4 : Int) (x5 : Int) (x6 : Int) (x7 : Int) (x8 : WL rw_iL) (st : Unit) : XSt := (sT 76 [(0, (wlV x0)), (2, (i6 x1)), (3, (nlV x2)), (4, (wlV x3)), (5, (i6 x4)), (7, (pN 0 0))], [], ⟨sB [(0, (cB [(i6 x5), (i6 x6), (i6 x7), (wlV x8)] 25))], 1, 0⟩)
def qeh_ (x0 : WL rw_iLii) (x1 : Int) (x2 : NL) (x3 : W8) (x4 : Int) (x5 : Int) (x6 : Int) (x7 : Int) (x8 : WL rw_iL) (r : Unit) : Ex × XSt := match r with
 | _ => (.ret, (sT 76 [(12, (bO true))], [], ⟨sB [], 0, 0⟩))
abbrev qlk_ (rd : Option Nat) (x0 : WL rw_iLii) (x1 : Int) (x2 : NL) (x3 : W8) (x4 : Int) (x5 : Int) (x6 : Int) (x7 : Int) (x8 : WL rw_iL) (st : Unit) (r : Unit) : Prop := CG P rd (fnN P 3) 0 (qx_ P 3 [true, true]) (qlj_ x0 x1 x2 x3 x4 x5 x6 x7 x8 st) (qeh_ x0 x1 x2 x3 x4 x5 x6 x7 x8 r)
def qb9_ (n : Nat) (x0 : WL rw_iLii) (x1 : Int) (x2 : NL) (x3 : W8) (x4 : Int) (x5 : Int) (x6 : Int) (x7 : Int) (x8 : WL rw_iL) (st : Unit) : Option (Unit) :=
 (qeq_ n x0 x2 x3).bind fun y1_ =>
 if y1_ = true then
  (qcc_ n x5 x6 x7 x8).bind fun y3_ =>
  if y3_ = true then
   match qi_ n x0 x1 x2 x3 x4 x5 x6 x7 x8 false () with
   | none => none
   | some (.inl _) =>
    some ()
   | some (.inr _) =>
    (qj_ n x0 x1 x2 x3 x4 x5 x6 x7 x8 ()).bind fun _ =>
    some ()
  else
   match qi_ n x0 x1 x2 x3 x4 x5 x6 x7 x8 true () with
   | none => none
   | some (.inl _) =>
    some ()
   | some (.inr _) =>
    (qj_ n x0 x1 x2 x3 x4 x5 x6 x7 x8 ()).bind fun _ =>
    some ()
 else
  match qi_ n x0 x1 x2 x3 x4 x5 x6 x7 x8 true () with
  | none => none
  | some (.inl _) =>
   some ()
  | some (.inr _) =>
   (qj_ n x0 x1 x2 x3 x4 x5 x6 x7 x8 ()).bind fun _ =>
   some ()
theorem qjp_ (n : Nat) {rnd : Option Nat} (x0 : WL rw_iLii) (x1 : Int) (x2 : NL) (x3 : W8) (x4 : Int) (x5 : Int) (x6 : Int) (x7 : Int) (x8 : WL rw_iL) (st : Unit) (r : Unit) (h : qb9_ n x0 x1 x2 x3 x4 x5 x6 x7 x8 st = some r) : qlk_ rnd x0 x1 x2 x3 x4 x5 x6 x7 x8 st r := by
 unfold qb9_ at h
 obtain ⟨y1_, hy1, h⟩ := oB h
 have k0 := fun {A L l} (k : PL A L l) => yy 5 (.call (qon_ x0 x2 x3 y1_ [] [])) <|
  ww (qmq_ n x0 x2 x3 y1_ hy1) <|
  k
 by_cases hy2 : y1_ = true
 ·rw [if_pos hy2] at h
  obtain ⟨y3_, hy3, h⟩ := oB h
  have k2 := fun {A L l} (k : PL A L l) => yy 6 (vf) <|
   ww (p := (Value.bool (!y1_)) = (Value.bool false)) (vBn hy2) <|
   yy 9 (.call (qlp_ x5 x6 x7 x8 y3_ [] [])) <|
   ww (qjq_ n x5 x6 x7 x8 y3_ hy3) <|
   k
  by_cases hy4 : y3_ = true
  ·rw [if_pos hy4] at h
   have k6 := fun {A L l} (k : PL A L l) => yy 10 (vf) <|
    ww (p := (Value.bool (!y3_)) = (Value.bool false)) (vBn hy4) <|
    k
   rcases hy5 : qi_ n x0 x1 x2 x3 x4 x5 x6 x7 x8 false () with _ | (⟨⟩ | ⟨⟩)
   ·rw [hy5] at h; cases h
   ·rw [hy5] at h
    dsimp only at h
    obtain rfl := oI h
    exact runC2 hm (kW [12] [] 0 0) (k0 <|
     k2 <|
     k6 <|
     ww (qy_ n (rnd := rnd) x0 x1 x2 x3 x4 x5 x6 x7 x8 false () (.inl ()) hy5) <|
     ll 12 ⟨(kW [0, 2, 3, 4, 5, 7, 25] [(0, 0, false)] 1 0), (qc_ x0 x1 x2 x3 x4 x5 x6 x7 x8 false (.inl ())).1, (qc_ x0 x1 x2 x3 x4 x5 x6 x7 x8 false (.inl ())).2⟩ <|
     ee) (by kernel_rfl)
   ·rw [hy5] at h
    dsimp only at h
    obtain ⟨_, hy6, h⟩ := oB h
    obtain rfl := oI h
    exact runC2 hm (kW [12] [] 0 0) (k0 <|
     k2 <|
     k6 <|
     ww (qy_ n (rnd := rnd) x0 x1 x2 x3 x4 x5 x6 x7 x8 false () (.inr ()) hy5) <|
     ll 12 ⟨(kW [0, 2, 3, 4, 5, 7, 25] [(0, 0, false)] 1 0), (qc_ x0 x1 x2 x3 x4 x5 x6 x7 x8 false (.inr ())).1, (qc_ x0 x1 x2 x3 x4 x5 x6 x7 x8 false (.inr ())).2⟩ <|
     ww (qdj_ n (rnd := rnd) x0 x1 x2 x3 x4 x5 x6 x7 x8 () () hy6) <|
     ll 13 ⟨(kW [0, 2, 3, 4, 5, 7] [(0, 0, false)] 1 0), (qw_ x0 x1 x2 x3 x4 x5 x6 x7 x8 ()).1, (qw_ x0 x1 x2 x3 x4 x5 x6 x7 x8 ()).2⟩ <|
     ee) (by kernel_rfl)
  ·rw [if_neg hy4] at h
   have k6 := fun {A L l} (k : PL A L l) => yy 10 (vt) <|
    ww (p := (Value.bool (!y3_)) = (Value.bool true)) (vBn (Bool.eq_false_iff.2 hy4)) <|
    k
   rcases hy5 : qi_ n x0 x1 x2 x3 x4 x5 x6 x7 x8 true () with _ | (⟨⟩ | ⟨⟩)
   ·rw [hy5] at h; cases h
   ·rw [hy5] at h
    dsimp only at h
    obtain rfl := oI h
    exact runC2 hm (kW [12] [] 0 0) (k0 <|
     k2 <|
     k6 <|
     ww (qy_ n (rnd := rnd) x0 x1 x2 x3 x4 x5 x6 x7 x8 true () (.inl ()) hy5) <|
     ll 12 ⟨(kW [0, 2, 3, 4, 5, 7, 25] [(0, 0, false)] 1 0), (qc_ x0 x1 x2 x3 x4 x5 x6 x7 x8 true (.inl ())).1, (qc_ x0 x1 x2 x3 x4 x5 x6 x7 x8 true (.inl ())).2⟩ <|
     ee) (by kernel_rfl)
   ·rw [hy5] at h
    dsimp only at h
    obtain ⟨_, hy6, h⟩ := oB h
    obtain rfl := oI h
    exact runC2 hm (kW [12] [] 0 0) (k0 <|
     k2 <|
     k6 <|
     ww (qy_ n (rnd := rnd) x0 x1 x2 x3 x4 x5 x6 x7 x8 true () (.inr ()) hy5) <|
     ll 12 ⟨(kW [0, 2, 3, 4, 5, 7, 25] [(0, 0, false)] 1 0), (qc_ x0 x1 x2 x3 x4 x5 x6 x7 x8 true (.inr ())).1, (qc_ x0 x1 x2 x3 x4 x5 x6 x7 x8 true (.inr ())).2⟩ <|
     ww (qdj_ n (rnd := rnd) x0 x1 x2 x3 x4 x5 x6 x7 x8 () () hy6) <|
     ll 13 ⟨(kW [0, 2, 3, 4, 5, 7] [(0, 0, false)] 1 0), (qw_ x0 x1 x2 x3 x4 x5 x6 x7 x8 ()).1, (qw_ x0 x1 x2 x3 x4 x5 x6 x7 x8 ()).2⟩ <|
     ee) (by kernel_rfl)
 ·rw [if_neg hy2] at h
  have k2 := fun {A L l} (k : PL A L l) => yy 6 (vt) <|
   ww (p := (Value.bool (!y1_)) = (Value.bool true)) (vBn (Bool.eq_false_iff.2 hy2)) <|
   k
  rcases hy3 : qi_ n x0 x1 x2 x3 x4 x5 x6 x7 x8 true () with _ | (⟨⟩ | ⟨⟩)
  ·rw [hy3] at h; cases h
  ·rw [hy3] at h
   dsimp only at h
   obtain rfl := oI h
   exact runC2 hm (kW [12] [] 0 0) (k0 <|
    k2 <|
    ww (qy_ n (rnd := rnd) x0 x1 x2 x3 x4 x5 x6 x7 x8 true () (.inl ()) hy3) <|
    ll 12 ⟨(kW [0, 2, 3, 4, 5, 7, 25] [(0, 0, false)] 1 0), (qc_ x0 x1 x2 x3 x4 x5 x6 x7 x8 true (.inl ())).1, (qc_ x0 x1 x2 x3 x4 x5 x6 x7 x8 true (.inl ())).2⟩ <|
    ee) (by kernel_rfl)
  ·rw [hy3] at h
   dsimp only at h
   obtain ⟨_, hy4, h⟩ := oB h
   obtain rfl := oI h
   exact runC2 hm (kW [12] [] 0 0) (k0 <|
    k2 <|
    ww (qy_ n (rnd := rnd) x0 x1 x2 x3 x4 x5 x6 x7 x8 true () (.inr ()) hy3) <|
    ll 12 ⟨(kW [0, 2, 3, 4, 5, 7, 25] [(0, 0, false)] 1 0), (qc_ x0 x1 x2 x3 x4 x5 x6 x7 x8 true (.inr ())).1, (qc_ x0 x1 x2 x3 x4 x5 x6 x7 x8 true (.inr ())).2⟩ <|
    ww (qdj_ n (rnd := rnd) x0 x1 x2 x3 x4 x5 x6 x7 x8 () () hy4) <|
    ll 13 ⟨(kW [0, 2, 3, 4, 5, 7] [(0, 0, false)] 1 0), (qw_ x0 x1 x2 x3 x4 x5 x6 x7 x8 ()).1, (qw_ x0 x1 x2 x3 x4 x5 x6 x7 x8 ()).2⟩ <|
    ee) (by kernel_rfl)
def qdf_ (n : Nat) (g10 : Int) (g11 : Int) (g12 : Int) (g2 : Int) (g3 : NL) (g5 : Int) : Option (Unit) :=
 (qhh_ n).bind fun _ =>
 (qc0_ n wA g2 g3 wC g5 g10 g11 g12 wB ()).bind fun _ =>
 (qb9_ n wA g2 g3 wC g5 g10 g11 g12 wB ()).bind fun _ =>
 some ()
theorem qkk_ (n : Nat) (g10 : Int) (g11 : Int) (g12 : Int) (g2 : Int) (g3 : NL) (g5 : Int) (r : Unit) (h : qdf_ n g10 g11 g12 g2 g3 g5 = some r) : qmh_ g10 g11 g12 g2 g3 g5 r := by
 unfold qdf_ at h
 obtain ⟨_, hc1, h⟩ := oB h
 obtain ⟨_, hc2, h⟩ := oB h
 obtain ⟨_, hc3, h⟩ := oB h
 obtain rfl := oI h
 exact runF2 hm (kW [12] [] 0 0) (yy 5 (.call ⟨0, [], (Value.bool true), Ax.h0, []⟩) <|
  ww (qnx_ n  () hc1) <|
  ww (qjo_ n (rnd := none) wA g2 g3 wC g5 g10 g11 g12 wB () () hc2) <|
  ll 7 ⟨(kW [0, 2, 3, 4, 5, 7, 15] [(0, 0, false)] 1 0), (qeg_ wA g2 g3 wC g5 g10 g11 g12 wB ()).1, (qeg_ wA g2 g3 wC g5 g10 g11 g12 wB ()).2⟩ <|
  ww (qjp_ n (rnd := none) wA g2 g3 wC g5 g10 g11 g12 wB () () hc3) <|
  ll 8 ⟨(kW [0, 2, 3, 4, 5, 7] [(0, 0, false)] 1 0), (qeh_ wA g2 g3 wC g5 g10 g11 g12 wB ()).1, (qeh_ wA g2 g3 wC g5 g10 g11 g12 wB ()).2⟩ <|
  ee) (by kernel_rfl)

end Go.Proofs.Ytlfcfopohlhlfaa.sca26
