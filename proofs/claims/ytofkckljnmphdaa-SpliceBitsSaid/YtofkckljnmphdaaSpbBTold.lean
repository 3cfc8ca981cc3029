/-
  What functions do, told by pure functions. No condition.
-/
import Derived.Test.YtofkckljnmphdaaSpbATold
set_option linter.unusedSimpArgs false
set_option linter.unusedVariables false
set_option linter.unusedSectionVars false
set_option linter.unnecessarySimpa false
set_option maxRecDepth 100000
noncomputable section
namespace Go.Proofs.Ytofkckljnmphdaa.spb20
open Go Go.Proofs.Ytofkckljnmphdaa Ax
variable [Args]
def qlr_ (a0 : WL rw_iiiiiiLu) : List Value := [(wlV a0)]
def qls_ (a0 : WL rw_iiiiiiLu) : AH := ⟨sB [], 0, 0⟩
def qju_ (a0 : WL rw_iiiiiiLu) (r : Bool) : Value := match r with
 | o0 => (bO o0)
def qjv_ (a0 : WL rw_iiiiiiLu) (r : Bool) : AH := match r with
 | o0 => ⟨sB [], 0, 0⟩
abbrev G_treeinOrderq1 (a0 : WL rw_iiiiiiLu) (r : Bool) : Prop := Gv P (.func 51) (qlr_ a0) (qls_ a0) (qju_ a0 r) (qjv_ a0 r)
abbrev qog_ (a0 : WL rw_iiiiiiLu) (r : Bool) (ins outs : BL) : CallA := ⟨0, ins, qju_ a0 r, qjv_ a0 r, outs⟩
def qdq_ (x1_0 : WL rw_iiiiiiLu) (x1_3 : Int) (st : List (Int × Int × Int) × Nat × Int) : XSt := match st with
 | (x1_1, x1_2, x1_4) => (sT 99 [(0, (wlV x1_0)), (3, (slQ x1_1 0 x1_2 3)), (8, (wlV x1_0)), (9, (i6 x1_3)), (10, (i6 x1_4))], [], ⟨sB [(0, (nblkR qee_ x1_1 77))], 1, 0⟩)
def qbl_ (x1_0 : WL rw_iiiiiiLu) (x1_3 : Int) (r : (Unit) ⊕ (List (Int × Int × Int) × Nat)) : Ex × XSt := match r with
 | .inl _ => (.ret, (sT 99 [(2, (bO false))], [], ⟨sB [], 0, 0⟩))
 | .inr (z1_0, z1_1) => (.exit 0, (sT 99 [(3, (slQ z1_0 0 z1_1 3))], [], ⟨sB [(0, (nblkR qee_ z1_0 77))], 1, 0⟩))
abbrev Q_treeinOrderq1_1 (rnd : Option Nat) (x1_0 : WL rw_iiiiiiLu) (x1_3 : Int) (st : List (Int × Int × Int) × Nat × Int) (c : Ex × XSt) : Prop := CG P rnd (fnN P 51) 0 (codeOf P 51 [false, false, true, false, true, true]) (qdq_ x1_0 x1_3 st) c
abbrev qid_ (rd : Option Nat) (x1_0 : WL rw_iiiiiiLu) (x1_3 : Int) (st : List (Int × Int × Int) × Nat × Int) (r : (Unit) ⊕ (List (Int × Int × Int) × Nat)) : Prop := CG P rd (fnN P 51) 0 (codeOf P 51 [false, true, false, true, true]) (qdq_ x1_0 x1_3 st) (qbl_ x1_0 x1_3 r)
def qi_ (n : Nat) (x1_0 : WL rw_iiiiiiLu) (x1_3 : Int) (st : List (Int × Int × Int) × Nat × Int) : Option ((List (Int × Int × Int) × Nat × Int) ⊕ ((Unit) ⊕ (List (Int × Int × Int) × Nat))) := match st with
 | (x1_1, x1_2, x1_4) =>
  match x1_1 with
  | [] =>
   if x1_4 < x1_3 then
    if 0 ≤ x1_4 ∧ x1_4 < (((x1_0).l.length : Nat) : Int) then
     ((some (((x1_0).l).getD (x1_4).toNat (0, 0, 0, 0, 0, 0, nl0, 0)))).bind fun y1_3_ =>
     if x1_4 > (0 : Int) then
      some (.inr (.inl ()))
     else
      if ((((y1_3_.2.2.2.2.2.2.1)).l.length : Nat) : Int) > (0 : Int) then
       some (.inl ([(x1_4, (0 : Int), (y1_3_.2.2.1))], 1, (w64 (x1_4 + (1 : Int)))))
      else
       some (.inl (([] : List (Int × Int × Int)), 0, (w64 (x1_4 + (1 : Int)))))
    else none
   else
    some (.inr (.inr (([] : List (Int × Int × Int)), 0)))
  | x1_1a :: x1_1t =>
   if x1_4 < x1_3 then
    if 0 ≤ x1_4 ∧ x1_4 < (((x1_0).l.length : Nat) : Int) then
     ((some (((x1_0).l).getD (x1_4).toNat (0, 0, 0, 0, 0, 0, nl0, 0)))).bind fun y1_3_ =>
     if x1_4 > (0 : Int) then
      if ((x1_2 : Nat) : Int) = (0 : Int) then
       some (.inr (.inl ()))
      else
       ((some (w64 (((x1_2 : Nat) : Int) - (1 : Int))))).bind fun y1_6_ =>
       if 0 ≤ y1_6_ ∧ y1_6_ < ((x1_2 : Nat) : Int) then
        if (y1_6_).toNat < ((x1_1a :: x1_1t)).length then
         ((some (((x1_1a :: x1_1t)).getD (y1_6_).toNat (0, 0, 0)))).bind fun y1_9_ =>
         if 0 ≤ (y1_9_.1) ∧ (y1_9_.1) < (((x1_0).l.length : Nat) : Int) then
          ((some (((x1_0).l).getD ((y1_9_.1)).toNat (0, 0, 0, 0, 0, 0, nl0, 0)))).bind fun y1_11_ =>
          if 0 ≤ (y1_9_.2.1) ∧ (y1_9_.2.1) < ((((y1_11_.2.2.2.2.2.2.1)).l.length : Nat) : Int) then
           if ((y1_9_.2.1)).toNat < (((y1_11_.2.2.2.2.2.2.1)).l).length then
            ((some ((((y1_11_.2.2.2.2.2.2.1)).l).getD ((y1_9_.2.1)).toNat 0))).bind fun y1_14_ =>
            if y1_14_ = x1_4 then
             if (y1_3_.2.2.1) < (y1_9_.2.2) then
              some (.inr (.inl ()))
             else
              if (y1_3_.2.2.2.2.1) > (y1_11_.2.2.2.2.1) then
               some (.inr (.inl ()))
              else
               if (w64 ((y1_9_.2.1) + (1 : Int))) = ((((y1_11_.2.2.2.2.2.2.1)).l.length : Nat) : Int) then
                if 0 ≤ y1_6_ ∧ y1_6_ ≤ ((x1_2 : Nat) : Int) then
                 if ((((y1_3_.2.2.2.2.2.2.1)).l.length : Nat) : Int) > (0 : Int) then
                  if (y1_6_).toNat ≤ ((((x1_1a :: x1_1t)).set (y1_6_).toNat ((y1_9_.1), (w64 ((y1_9_.2.1) + (1 : Int))), (y1_3_.2.2.2.2.1)))).length then
                   if ((y1_6_).toNat + 1) * 24 ≤ 140737488355328 then
                    some (.inl (((List.take (y1_6_).toNat (((x1_1a :: x1_1t)).set (y1_6_).toNat ((y1_9_.1), (w64 ((y1_9_.2.1) + (1 : Int))), (y1_3_.2.2.2.2.1)))) ++ [(x1_4, (0 : Int), (y1_3_.2.2.1))]), ((((List.take (y1_6_).toNat (((x1_1a :: x1_1t)).set (y1_6_).toNat ((y1_9_.1), (w64 ((y1_9_.2.1) + (1 : Int))), (y1_3_.2.2.2.2.1)))) ++ [(x1_4, (0 : Int), (y1_3_.2.2.1))])).length), (w64 (x1_4 + (1 : Int)))))
                   else none
                  else none
                 else
                  some (.inl ((((x1_1a :: x1_1t)).set (y1_6_).toNat ((y1_9_.1), (w64 ((y1_9_.2.1) + (1 : Int))), (y1_3_.2.2.2.2.1))), ((y1_6_).toNat), (w64 (x1_4 + (1 : Int)))))
                else none
               else
                if ((((y1_3_.2.2.2.2.2.2.1)).l.length : Nat) : Int) > (0 : Int) then
                 if x1_2 ≤ ((((x1_1a :: x1_1t)).set (y1_6_).toNat ((y1_9_.1), (w64 ((y1_9_.2.1) + (1 : Int))), (y1_3_.2.2.2.2.1)))).length then
                  if (x1_2 + 1) * 24 ≤ 140737488355328 then
                   some (.inl (((List.take x1_2 (((x1_1a :: x1_1t)).set (y1_6_).toNat ((y1_9_.1), (w64 ((y1_9_.2.1) + (1 : Int))), (y1_3_.2.2.2.2.1)))) ++ [(x1_4, (0 : Int), (y1_3_.2.2.1))]), ((((List.take x1_2 (((x1_1a :: x1_1t)).set (y1_6_).toNat ((y1_9_.1), (w64 ((y1_9_.2.1) + (1 : Int))), (y1_3_.2.2.2.2.1)))) ++ [(x1_4, (0 : Int), (y1_3_.2.2.1))])).length), (w64 (x1_4 + (1 : Int)))))
                  else none
                 else none
                else
                 some (.inl ((((x1_1a :: x1_1t)).set (y1_6_).toNat ((y1_9_.1), (w64 ((y1_9_.2.1) + (1 : Int))), (y1_3_.2.2.2.2.1))), x1_2, (w64 (x1_4 + (1 : Int)))))
            else
             some (.inr (.inl ()))
           else none
          else none
         else none
        else none
       else none
     else
      if ((((y1_3_.2.2.2.2.2.2.1)).l.length : Nat) : Int) > (0 : Int) then
       if x1_2 ≤ ((x1_1a :: x1_1t)).length then
        if (x1_2 + 1) * 24 ≤ 140737488355328 then
         some (.inl (((List.take x1_2 (x1_1a :: x1_1t)) ++ [(x1_4, (0 : Int), (y1_3_.2.2.1))]), ((((List.take x1_2 (x1_1a :: x1_1t)) ++ [(x1_4, (0 : Int), (y1_3_.2.2.1))])).length), (w64 (x1_4 + (1 : Int)))))
        else none
       else none
      else
       some (.inl ((x1_1a :: x1_1t), x1_2, (w64 (x1_4 + (1 : Int)))))
    else none
   else
    some (.inr (.inr ((x1_1a :: x1_1t), x1_2)))
def qgb_ (n : Nat) (x1_0 : WL rw_iiiiiiLu) (x1_3 : Int) (st : List (Int × Int × Int) × Nat × Int) : Option ((Unit) ⊕ (List (Int × Int × Int) × Nat)) := iterM (qi_ n x1_0 x1_3) n st
theorem qkm_ (n : Nat) {rnd : Option Nat} (x1_0 : WL rw_iiiiiiLu) (x1_3 : Int) (st : List (Int × Int × Int) × Nat × Int) (o : (List (Int × Int × Int) × Nat × Int) ⊕ ((Unit) ⊕ (List (Int × Int × Int) × Nat))) (h : qi_ n x1_0 x1_3 st = some o) : CG P rnd (fnN P 51) 0 (codeOf P 51 [false, false, true, false, true, true]) (qdq_ x1_0 x1_3 st) (Sum.elim (fun s => (.normal, qdq_ x1_0 x1_3 s)) (fun r => qbl_ x1_0 x1_3 r) o) := by
 obtain ⟨x1_1, x1_2, x1_4⟩ := st
 unfold qi_ at h
 dsimp only at h
 cases x1_1 with
 | nil =>
  dsimp only at h
  by_cases hy1_1 : x1_4 < x1_3
  ·rw [if_pos hy1_1] at h
   obtain ⟨hy1_2, h⟩ := gd h
   obtain ⟨y1_3_, hy1_3, h⟩ := oB h
   have k0 := fun {A L l} (k : PL A L l) => zz 1 (xdT hy1_1) <|
    zz 8 (xk1 (x1_0).num (x1_0).off (x1_0).cap hy1_2) <|
    zz 9 (lk2 hy1_3 (toNatLt hy1_2)) <|
    k
   by_cases hy1_4 : x1_4 > (0 : Int)
   ·rw [if_pos hy1_4] at h
    obtain rfl := oI h
    exact runC2 hm ⟨[2], [], 0, 0, [], false, [], [], []⟩ (k0 <|
     zz 16 (xdT hy1_4) <|
     ee) (by kernel_rfl)
   ·rw [if_neg hy1_4] at h
    have k3 := fun {A L l} (k : PL A L l) => zz 16 (xdF hy1_4) <|
     k
    by_cases hy1_5 : ((((y1_3_.2.2.2.2.2.2.1)).l.length : Nat) : Int) > (0 : Int)
    ·rw [if_pos hy1_5] at h
     obtain rfl := oI h
     exact runC2 hm ⟨[0, 3, 8, 9, 10], [(0, 3, false)], 1, 0, [], false, [], [], []⟩ (k0 <|
      k3 <|
      zz 22 (xdT hy1_5) <|
      ee) (by kernel_rfl)
    ·rw [if_neg hy1_5] at h
     obtain rfl := oI h
     exact runC2 hm ⟨[0, 3, 8, 9, 10], [], 1, 0, [], false, [], [], []⟩ (k0 <|
      k3 <|
      zz 22 (xdF hy1_5) <|
      ee) (by kernel_rfl)
  ·rw [if_neg hy1_1] at h
   obtain rfl := oI h
   exact runC2 hm ⟨[3], [], 1, 0, [], false, [], [], []⟩ (zz 1 (xdF hy1_1) <|
    ee) (by kernel_rfl)
 | cons x1_1a x1_1t =>
  dsimp only at h
  by_cases hy1_1 : x1_4 < x1_3
  ·rw [if_pos hy1_1] at h
   obtain ⟨hy1_2, h⟩ := gd h
   obtain ⟨y1_3_, hy1_3, h⟩ := oB h
   have k0 := fun {A L l} (k : PL A L l) => zz 1 (xdT hy1_1) <|
    zz 8 (xk1 (x1_0).num (x1_0).off (x1_0).cap hy1_2) <|
    zz 9 (lk2 hy1_3 (toNatLt hy1_2)) <|
    k
   by_cases hy1_4 : x1_4 > (0 : Int)
   ·rw [if_pos hy1_4] at h
    have k3 := fun {A L l} (k : PL A L l) => zz 16 (xdT hy1_4) <|
     k
    by_cases hy1_5 : ((x1_2 : Nat) : Int) = (0 : Int)
    ·rw [if_pos hy1_5] at h
     obtain rfl := oI h
     exact runC2 hm ⟨[2], [], 0, 0, [], false, [], [], []⟩ (k0 <|
      k3 <|
      zz 22 (xeT hy1_5) <|
      ee) (by kernel_rfl)
    ·rw [if_neg hy1_5] at h
     obtain ⟨y1_6_, hy1_6, h⟩ := oB h
     obtain ⟨hy1_7, h⟩ := gd h
     obtain ⟨hy1_8, h⟩ := gd h
     obtain ⟨y1_9_, hy1_9, h⟩ := oB h
     obtain ⟨hy1_10, h⟩ := gd h
     obtain ⟨y1_11_, hy1_11, h⟩ := oB h
     obtain ⟨hy1_12, h⟩ := gd h
     obtain ⟨hy1_13, h⟩ := gd h
     obtain ⟨y1_14_, hy1_14, h⟩ := oB h
     have k4 := fun {A L l} (k : PL A L l) => zz 22 (xeF hy1_5) <|
      zz 28 (xnm hy1_6) <|
      zz 29 (xk14 0 U3 hy1_7) <|
      zz 36 (ok15 hy1_9 (hy1_8)) <|
      zz 37 (xk1 (x1_0).num (x1_0).off (x1_0).cap hy1_10) <|
      zz 38 (lk2 hy1_11 (toNatLt hy1_10)) <|
      zz 48 (ok16 hy1_9 (hy1_8)) <|
      zz 49 (xk9 (Nat.add ((y1_11_.2.2.2.2.2.2.1)).num 64) ((y1_11_.2.2.2.2.2.2.1)).off ((y1_11_.2.2.2.2.2.2.1)).cap hy1_12) <|
      zz 50 (nk10 hy1_14 hy1_13) <|
      k
     by_cases hy1_15 : y1_14_ = x1_4
     ·rw [if_pos hy1_15] at h
      have k13 := fun {A L l} (k : PL A L l) => zz 52 (xnF hy1_15) <|
       zz 59 (ok17 hy1_9 (hy1_8)) <|
       k
      by_cases hy1_16 : (y1_3_.2.2.1) < (y1_9_.2.2)
      ·rw [if_pos hy1_16] at h
       obtain rfl := oI h
       exact runC2 hm ⟨[2], [], 0, 0, [], false, [], [], []⟩ (k0 <|
        k3 <|
        k4 <|
        k13 <|
        zz 60 (xdT hy1_16) <|
        ee) (by kernel_rfl)
      ·rw [if_neg hy1_16] at h
       have k15 := fun {A L l} (k : PL A L l) => zz 60 (xdF hy1_16) <|
        k
       by_cases hy1_17 : (y1_3_.2.2.2.2.1) > (y1_11_.2.2.2.2.1)
       ·rw [if_pos hy1_17] at h
        obtain rfl := oI h
        exact runC2 hm ⟨[2], [], 0, 0, [], false, [], [], []⟩ (k0 <|
         k3 <|
         k4 <|
         k13 <|
         k15 <|
         zz 67 (xdT hy1_17) <|
         ee) (by kernel_rfl)
       ·rw [if_neg hy1_17] at h
        have k16 := fun {A L l} (k : PL A L l) => zz 67 (xdF hy1_17) <|
         zz 76 (ok16 hy1_9 (hy1_8)) <|
         yy 82 (.sto (layT (rows qee_ (((x1_1a :: x1_1t)).set (y1_6_).toNat ((y1_9_.1), (w64 ((y1_9_.2.1) + (1 : Int))), (y1_9_.2.2)))))) <|
         ww (p := ∃ old, rdT (layT (rows qee_ (x1_1a :: x1_1t))) 1 (Nat.add ((y1_6_).toNat * 3) 1) = some old) (Exists.elim (rows_stN qf7_ (0, 0, 0) (hr := hy1_9) (i := (y1_6_).toNat) (j := 1) (l := [(i6 (w64 ((y1_9_.2.1) + (1 : Int))))]) ((y1_9_.1), (w64 ((y1_9_.2.1) + (1 : Int))), (y1_9_.2.2)) (Nat.add ((y1_6_).toNat * 3) 1) rfl (hy1_8) (Nat.le_of_ble_eq_true rfl) rfl) fun o h => ⟨o, h.1⟩) <|
         ww (p := layL [(i6 (w64 ((y1_9_.2.1) + (1 : Int))))] (Nat.add ((y1_6_).toNat * 3) 1) (layT (rows qee_ (x1_1a :: x1_1t))) = layT (rows qee_ (((x1_1a :: x1_1t)).set (y1_6_).toNat ((y1_9_.1), (w64 ((y1_9_.2.1) + (1 : Int))), (y1_9_.2.2))))) (Exists.elim (rows_stN qf7_ (0, 0, 0) (hr := hy1_9) (i := (y1_6_).toNat) (j := 1) (l := [(i6 (w64 ((y1_9_.2.1) + (1 : Int))))]) ((y1_9_.1), (w64 ((y1_9_.2.1) + (1 : Int))), (y1_9_.2.2)) (Nat.add ((y1_6_).toNat * 3) 1) rfl (hy1_8) (Nat.le_of_ble_eq_true rfl) rfl) fun o h => h.2) <|
         yy 85 (.sto (layT (rows qee_ (((x1_1a :: x1_1t)).set (y1_6_).toNat ((y1_9_.1), (w64 ((y1_9_.2.1) + (1 : Int))), (y1_3_.2.2.2.2.1)))))) <|
         ww (p := ∃ old, rdT (layT (rows qee_ (((x1_1a :: x1_1t)).set (y1_6_).toNat ((y1_9_.1), (w64 ((y1_9_.2.1) + (1 : Int))), (y1_9_.2.2))))) 1 (Nat.add ((y1_6_).toNat * 3) 2) = some old) (Exists.elim (rows_stS qf7_ (i := (y1_6_).toNat) (j := 2) (l := [(i6 (y1_3_.2.2.2.2.1))]) ((y1_9_.1), (w64 ((y1_9_.2.1) + (1 : Int))), (y1_9_.2.2)) ((y1_9_.1), (w64 ((y1_9_.2.1) + (1 : Int))), (y1_3_.2.2.2.2.1)) (Nat.add ((y1_6_).toNat * 3) 2) rfl (hy1_8) (Nat.le_of_ble_eq_true rfl) rfl) fun o h => ⟨o, h.1⟩) <|
         ww (p := layL [(i6 (y1_3_.2.2.2.2.1))] (Nat.add ((y1_6_).toNat * 3) 2) (layT (rows qee_ (((x1_1a :: x1_1t)).set (y1_6_).toNat ((y1_9_.1), (w64 ((y1_9_.2.1) + (1 : Int))), (y1_9_.2.2))))) = layT (rows qee_ (((x1_1a :: x1_1t)).set (y1_6_).toNat ((y1_9_.1), (w64 ((y1_9_.2.1) + (1 : Int))), (y1_3_.2.2.2.2.1))))) (Exists.elim (rows_stS qf7_ (i := (y1_6_).toNat) (j := 2) (l := [(i6 (y1_3_.2.2.2.2.1))]) ((y1_9_.1), (w64 ((y1_9_.2.1) + (1 : Int))), (y1_9_.2.2)) ((y1_9_.1), (w64 ((y1_9_.2.1) + (1 : Int))), (y1_3_.2.2.2.2.1)) (Nat.add ((y1_6_).toNat * 3) 2) rfl (hy1_8) (Nat.le_of_ble_eq_true rfl) rfl) fun o h => h.2) <|
         yy 90 (.ld (i6 (w64 ((y1_9_.2.1) + (1 : Int))))) <|
         ww (p := (layT (rows qee_ (((x1_1a :: x1_1t)).set (y1_6_).toNat ((y1_9_.1), (w64 ((y1_9_.2.1) + (1 : Int))), (y1_3_.2.2.2.2.1))))).get (Nat.add ((y1_6_).toNat * 3) 1) = some (i6 (w64 ((y1_9_.2.1) + (1 : Int))))) (rows_ldS qf7_ (i := (y1_6_).toNat) (j := 1) ((y1_9_.1), (w64 ((y1_9_.2.1) + (1 : Int))), (y1_3_.2.2.2.2.1)) (Nat.add ((y1_6_).toNat * 3) 1) rfl (hy1_8) (by decide) rfl) <|
         k
        by_cases hy1_18 : (w64 ((y1_9_.2.1) + (1 : Int))) = ((((y1_11_.2.2.2.2.2.2.1)).l.length : Nat) : Int)
        ·rw [if_pos hy1_18] at h
         obtain ⟨hy1_19, h⟩ := gd h
         have k26 := fun {A L l} (k : PL A L l) => zz 94 (xeT hy1_18) <|
          zz 99 (xnm hy1_6) <|
          yy 100 (.pur (sN 0 0 (y1_6_).toNat (Nat.add big 3))) <|
          ww (p := opSlice P 74 (sN 0 0 x1_2 (Nat.add big 3)) none (some (i6 y1_6_)) none Ax.h0 = some ((sN 0 0 (y1_6_).toNat (Nat.add big 3)), Ax.h0)) (slRowHi (e := 77) (es := 3) (by kernel_rfl) (by kernel_rfl) rfl rfl hy1_19) <|
          k
         by_cases hy1_20 : ((((y1_3_.2.2.2.2.2.2.1)).l.length : Nat) : Int) > (0 : Int)
         ·rw [if_pos hy1_20] at h
          obtain ⟨hy1_21, h⟩ := gd h
          obtain ⟨hy1_22, h⟩ := gd h
          obtain rfl := oI h
          obtain ⟨za, zt, hz⟩ : ∃ a t, ((List.take (y1_6_).toNat (((x1_1a :: x1_1t)).set (y1_6_).toNat ((y1_9_.1), (w64 ((y1_9_.2.1) + (1 : Int))), (y1_3_.2.2.2.2.1)))) ++ [(x1_4, (0 : Int), (y1_3_.2.2.1))]) = a :: t := qox_ (List.take (y1_6_).toNat (((x1_1a :: x1_1t)).set (y1_6_).toNat ((y1_9_.1), (w64 ((y1_9_.2.1) + (1 : Int))), (y1_3_.2.2.2.2.1)))) (x1_4, (0 : Int), (y1_3_.2.2.1))
          rw [hz]
          try rw [hz] at k0
          try rw [hz] at k3
          try rw [hz] at k4
          try rw [hz] at k13
          try rw [hz] at k15
          try rw [hz] at k16
          try rw [hz] at k26
          exact runC2 hm ⟨[0, 3, 8, 9, 10], [(0, 4, true)], 1, 0, [], false, [], [], []⟩ (k0 <|
           k3 <|
           k4 <|
           k13 <|
           k15 <|
           k16 <|
           k26 <|
           zz 106 (xdT hy1_20) <|
           yy 114 (.app ⟨none, rows qee_ (List.take (y1_6_).toNat (((x1_1a :: x1_1t)).set (y1_6_).toNat ((y1_9_.1), (w64 ((y1_9_.2.1) + (1 : Int))), (y1_3_.2.2.2.2.1)))), (rows qee_ (za :: zt)), ((za :: zt)).length, false⟩) <|
           ww (p := 0 < 1) ((by decide)) <|
           ww (p := rdT (layT (rows qee_ (((x1_1a :: x1_1t)).set (y1_6_).toNat ((y1_9_.1), (w64 ((y1_9_.2.1) + (1 : Int))), (y1_3_.2.2.2.2.1))))) (Nat.mul (y1_6_).toNat 3) 0 = some (rows qee_ (List.take (y1_6_).toNat (((x1_1a :: x1_1t)).set (y1_6_).toNat ((y1_9_.1), (w64 ((y1_9_.2.1) + (1 : Int))), (y1_3_.2.2.2.2.1)))))) (rows_rdTake qf7_ _ _ hy1_21) <|
           ww (p := fits (Nat.add (y1_6_).toNat 1) 24 = true) (fits_ok hy1_22 (by have := hy1_22; show (_ : Nat) + _ ≤ _; omega)) <|
           ww (p := allCells [(i6 x1_4), (i6 (0 : Int)), (i6 (y1_3_.2.2.1))] = true) (rfl) <|
           ww (p := allCells (rows qee_ (List.take (y1_6_).toNat (((x1_1a :: x1_1t)).set (y1_6_).toNat ((y1_9_.1), (w64 ((y1_9_.2.1) + (1 : Int))), (y1_3_.2.2.2.2.1))))) = true) (rows_cells qf7_ _) <|
           ww (p := rows qee_ (List.take (y1_6_).toNat (((x1_1a :: x1_1t)).set (y1_6_).toNat ((y1_9_.1), (w64 ((y1_9_.2.1) + (1 : Int))), (y1_3_.2.2.2.2.1)))) ++ [(i6 x1_4), (i6 (0 : Int)), (i6 (y1_3_.2.2.1))] = (rows qee_ (za :: zt))) (by rw [← hz]; exact (rows_app qee_ (List.take (y1_6_).toNat (((x1_1a :: x1_1t)).set (y1_6_).toNat ((y1_9_.1), (w64 ((y1_9_.2.1) + (1 : Int))), (y1_3_.2.2.2.2.1)))) [(x1_4, (0 : Int), (y1_3_.2.2.1))])) <|
           ww (p := Nat.add (y1_6_).toNat 1 = ((za :: zt)).length) (by rw [← hz]; exact (take_len hy1_21 rfl)) <|
           ww (rows_flat qf7_ (za :: zt) 77) <|
           ee) (by kernel_rfl)
         ·rw [if_neg hy1_20] at h
          obtain rfl := oI h
          obtain ⟨za, zt, hz⟩ : ∃ a t, (((x1_1a :: x1_1t)).set (y1_6_).toNat ((y1_9_.1), (w64 ((y1_9_.2.1) + (1 : Int))), (y1_3_.2.2.2.2.1))) = a :: t := qmt_
          rw [hz]
          try rw [hz] at k0
          try rw [hz] at k3
          try rw [hz] at k4
          try rw [hz] at k13
          try rw [hz] at k15
          try rw [hz] at k16
          try rw [hz] at k26
          exact runC2 hm ⟨[0, 3, 8, 9, 10], [(0, 0, true)], 1, 0, [], false, [], [], []⟩ (k0 <|
           k3 <|
           k4 <|
           k13 <|
           k15 <|
           k16 <|
           k26 <|
           zz 106 (xdF hy1_20) <|
           ww (rows_flat qf7_ (za :: zt) 77) <|
           ee) (by kernel_rfl)
        ·rw [if_neg hy1_18] at h
         have k26 := fun {A L l} (k : PL A L l) => zz 94 (xeF hy1_18) <|
          k
         by_cases hy1_19 : ((((y1_3_.2.2.2.2.2.2.1)).l.length : Nat) : Int) > (0 : Int)
         ·rw [if_pos hy1_19] at h
          obtain ⟨hy1_20, h⟩ := gd h
          obtain ⟨hy1_21, h⟩ := gd h
          obtain rfl := oI h
          obtain ⟨za, zt, hz⟩ : ∃ a t, ((List.take x1_2 (((x1_1a :: x1_1t)).set (y1_6_).toNat ((y1_9_.1), (w64 ((y1_9_.2.1) + (1 : Int))), (y1_3_.2.2.2.2.1)))) ++ [(x1_4, (0 : Int), (y1_3_.2.2.1))]) = a :: t := qox_ (List.take x1_2 (((x1_1a :: x1_1t)).set (y1_6_).toNat ((y1_9_.1), (w64 ((y1_9_.2.1) + (1 : Int))), (y1_3_.2.2.2.2.1)))) (x1_4, (0 : Int), (y1_3_.2.2.1))
          rw [hz]
          try rw [hz] at k0
          try rw [hz] at k3
          try rw [hz] at k4
          try rw [hz] at k13
          try rw [hz] at k15
          try rw [hz] at k16
          try rw [hz] at k26
          exact runC2 hm ⟨[0, 3, 8, 9, 10], [(0, 4, true)], 1, 0, [], false, [], [], []⟩ (k0 <|
           k3 <|
           k4 <|
           k13 <|
           k15 <|
           k16 <|
           k26 <|
           zz 100 (xdT hy1_19) <|
           yy 108 (.app ⟨none, rows qee_ (List.take x1_2 (((x1_1a :: x1_1t)).set (y1_6_).toNat ((y1_9_.1), (w64 ((y1_9_.2.1) + (1 : Int))), (y1_3_.2.2.2.2.1)))), (rows qee_ (za :: zt)), ((za :: zt)).length, false⟩) <|
           ww (p := 0 < 1) ((by decide)) <|
           ww (p := rdT (layT (rows qee_ (((x1_1a :: x1_1t)).set (y1_6_).toNat ((y1_9_.1), (w64 ((y1_9_.2.1) + (1 : Int))), (y1_3_.2.2.2.2.1))))) (Nat.mul x1_2 3) 0 = some (rows qee_ (List.take x1_2 (((x1_1a :: x1_1t)).set (y1_6_).toNat ((y1_9_.1), (w64 ((y1_9_.2.1) + (1 : Int))), (y1_3_.2.2.2.2.1)))))) (rows_rdTake qf7_ _ _ hy1_20) <|
           ww (p := fits (Nat.add x1_2 1) 24 = true) (fits_ok hy1_21 (by have := hy1_21; show (_ : Nat) + _ ≤ _; omega)) <|
           ww (p := allCells [(i6 x1_4), (i6 (0 : Int)), (i6 (y1_3_.2.2.1))] = true) (rfl) <|
           ww (p := allCells (rows qee_ (List.take x1_2 (((x1_1a :: x1_1t)).set (y1_6_).toNat ((y1_9_.1), (w64 ((y1_9_.2.1) + (1 : Int))), (y1_3_.2.2.2.2.1))))) = true) (rows_cells qf7_ _) <|
           ww (p := rows qee_ (List.take x1_2 (((x1_1a :: x1_1t)).set (y1_6_).toNat ((y1_9_.1), (w64 ((y1_9_.2.1) + (1 : Int))), (y1_3_.2.2.2.2.1)))) ++ [(i6 x1_4), (i6 (0 : Int)), (i6 (y1_3_.2.2.1))] = (rows qee_ (za :: zt))) (by rw [← hz]; exact (rows_app qee_ (List.take x1_2 (((x1_1a :: x1_1t)).set (y1_6_).toNat ((y1_9_.1), (w64 ((y1_9_.2.1) + (1 : Int))), (y1_3_.2.2.2.2.1)))) [(x1_4, (0 : Int), (y1_3_.2.2.1))])) <|
           ww (p := Nat.add x1_2 1 = ((za :: zt)).length) (by rw [← hz]; exact (take_len hy1_20 rfl)) <|
           ww (rows_flat qf7_ (za :: zt) 77) <|
           ee) (by kernel_rfl)
         ·rw [if_neg hy1_19] at h
          obtain rfl := oI h
          obtain ⟨za, zt, hz⟩ : ∃ a t, (((x1_1a :: x1_1t)).set (y1_6_).toNat ((y1_9_.1), (w64 ((y1_9_.2.1) + (1 : Int))), (y1_3_.2.2.2.2.1))) = a :: t := qmt_
          rw [hz]
          try rw [hz] at k0
          try rw [hz] at k3
          try rw [hz] at k4
          try rw [hz] at k13
          try rw [hz] at k15
          try rw [hz] at k16
          try rw [hz] at k26
          exact runC2 hm ⟨[0, 3, 8, 9, 10], [(0, 0, true)], 1, 0, [], false, [], [], []⟩ (k0 <|
           k3 <|
           k4 <|
           k13 <|
           k15 <|
           k16 <|
           k26 <|
           zz 100 (xdF hy1_19) <|
           ww (rows_flat qf7_ (za :: zt) 77) <|
           ee) (by kernel_rfl)
     ·rw [if_neg hy1_15] at h
      obtain rfl := oI h
      exact runC2 hm ⟨[2], [], 0, 0, [], false, [], [], []⟩ (k0 <|
       k3 <|
       k4 <|
       zz 52 (xnT hy1_15) <|
       ee) (by kernel_rfl)
   ·rw [if_neg hy1_4] at h
    have k3 := fun {A L l} (k : PL A L l) => zz 16 (xdF hy1_4) <|
     k
    by_cases hy1_5 : ((((y1_3_.2.2.2.2.2.2.1)).l.length : Nat) : Int) > (0 : Int)
    ·rw [if_pos hy1_5] at h
     obtain ⟨hy1_6, h⟩ := gd h
     obtain ⟨hy1_7, h⟩ := gd h
     obtain rfl := oI h
     obtain ⟨za, zt, hz⟩ : ∃ a t, ((List.take x1_2 (x1_1a :: x1_1t)) ++ [(x1_4, (0 : Int), (y1_3_.2.2.1))]) = a :: t := qox_ (List.take x1_2 (x1_1a :: x1_1t)) (x1_4, (0 : Int), (y1_3_.2.2.1))
     rw [hz]
     try rw [hz] at k0
     try rw [hz] at k3
     exact runC2 hm ⟨[0, 3, 8, 9, 10], [(0, 3, true)], 1, 0, [], false, [], [], []⟩ (k0 <|
      k3 <|
      zz 22 (xdT hy1_5) <|
      yy 30 (.app ⟨none, rows qee_ (List.take x1_2 (x1_1a :: x1_1t)), (rows qee_ (za :: zt)), ((za :: zt)).length, false⟩) <|
      ww (p := 0 < 1) ((by decide)) <|
      ww (p := rdT (layT (rows qee_ (x1_1a :: x1_1t))) (Nat.mul x1_2 3) 0 = some (rows qee_ (List.take x1_2 (x1_1a :: x1_1t)))) (rows_rdTake qf7_ _ _ hy1_6) <|
      ww (p := fits (Nat.add x1_2 1) 24 = true) (fits_ok hy1_7 (by have := hy1_7; show (_ : Nat) + _ ≤ _; omega)) <|
      ww (p := allCells [(i6 x1_4), (i6 (0 : Int)), (i6 (y1_3_.2.2.1))] = true) (rfl) <|
      ww (p := allCells (rows qee_ (List.take x1_2 (x1_1a :: x1_1t))) = true) (rows_cells qf7_ _) <|
      ww (p := rows qee_ (List.take x1_2 (x1_1a :: x1_1t)) ++ [(i6 x1_4), (i6 (0 : Int)), (i6 (y1_3_.2.2.1))] = (rows qee_ (za :: zt))) (by rw [← hz]; exact (rows_app qee_ (List.take x1_2 (x1_1a :: x1_1t)) [(x1_4, (0 : Int), (y1_3_.2.2.1))])) <|
      ww (p := Nat.add x1_2 1 = ((za :: zt)).length) (by rw [← hz]; exact (take_len hy1_6 rfl)) <|
      ww (rows_flat qf7_ (za :: zt) 77) <|
      ee) (by kernel_rfl)
    ·rw [if_neg hy1_5] at h
     obtain rfl := oI h
     exact runC2 hm ⟨[0, 3, 8, 9, 10], [(0, 0, true)], 1, 0, [], false, [], [], []⟩ (k0 <|
      k3 <|
      zz 22 (xdF hy1_5) <|
      ww (rows_flat qf7_ (x1_1a :: x1_1t) 77) <|
      ee) (by kernel_rfl)
  ·rw [if_neg hy1_1] at h
   obtain rfl := oI h
   exact runC2 hm ⟨[3], [(0, 0, true)], 1, 0, [], false, [], [], []⟩ (zz 1 (xdF hy1_1) <|
    ww (rows_flat qf7_ (x1_1a :: x1_1t) 77) <|
    ee) (by kernel_rfl)
theorem qgj_ (n : Nat) {rnd : Option Nat} (x1_0 : WL rw_iiiiiiLu) (x1_3 : Int) (st : List (Int × Int × Int) × Nat × Int) (r : (Unit) ⊕ (List (Int × Int × Int) × Nat)) (h : qgb_ n x1_0 x1_3 st = some r) : CG P rnd (fnN P 51) 0 (codeOf P 51 [false, true, false, true, true]) (qdq_ x1_0 x1_3 st) (qbl_ x1_0 x1_3 r) :=
 CG.iter (b := codeOf P 51 [false, false, true, false, true, true]) (by kernel_rfl) (body := qi_ n x1_0 x1_3) (S := qdq_ x1_0 x1_3) (X := qbl_ x1_0 x1_3)
  (fun s s' h => qkm_ n x1_0 x1_3 s (.inl s') h)
  (fun s r h => qkm_ n x1_0 x1_3 s (.inr r) h)
  (fun r => by intro hx; rcases r with _ | _ <;> cases hx) h
def qf8_ (n : Nat) (a0 : WL rw_iiiiiiLu) : Option (Bool) :=
 match qgb_ n a0 (((a0).l.length : Nat) : Int) (([] : List (Int × Int × Int)), 0, 0) with
 | none => none
 | some (.inl _) =>
  some false
 | some (.inr (c1_0, c1_1)) =>
  match c1_0 with
  | [] =>
   some true
  | c1_0a :: c1_0t =>
   if ((c1_1 : Nat) : Int) = (0 : Int) then
    some true
   else
    some false
theorem qmu_ (n : Nat) (a0 : WL rw_iiiiiiLu) (r : Bool) (h : qf8_ n a0 = some r) : Gv P (.func 51) (qlr_ a0) (qls_ a0) (qju_ a0 r) (qjv_ a0 r) := by
 unfold qf8_ at h
 rcases hc1 : qgb_ n a0 (((a0).l.length : Nat) : Int) (([] : List (Int × Int × Int)), 0, 0) with _ | (⟨⟩ | ⟨c1_0, c1_1⟩)
 ·rw [hc1] at h; cases h
 ·rw [hc1] at h
  dsimp only at h
  obtain rfl := oI h
  exact runF2 hm ⟨[2], [], 0, 0, [], false, [], [], []⟩ (ww (p := qid_ none a0 (((a0).l.length : Nat) : Int) (([] : List (Int × Int × Int)), 0, 0) (.inl ())) (qgj_ n a0 (((a0).l.length : Nat) : Int) (([] : List (Int × Int × Int)), 0, 0) (.inl ()) hc1) <|
   ll 10 ⟨⟨[0, 3, 8, 9, 10], [], 1, 0, [], false, [], [], []⟩, (qbl_ a0 (((a0).l.length : Nat) : Int) (.inl ())).1, (qbl_ a0 (((a0).l.length : Nat) : Int) (.inl ())).2⟩ <|
   ee) (by kernel_rfl)
 ·rw [hc1] at h
  dsimp only at h
  cases c1_0 with
  | nil =>
   dsimp only at h
   obtain rfl := oI h
   exact runF2 hm ⟨[2], [], 0, 0, [], false, [], [], []⟩ (ww (p := qid_ none a0 (((a0).l.length : Nat) : Int) (([] : List (Int × Int × Int)), 0, 0) (.inr (([] : List (Int × Int × Int)), c1_1))) (qgj_ n a0 (((a0).l.length : Nat) : Int) (([] : List (Int × Int × Int)), 0, 0) (.inr (([] : List (Int × Int × Int)), c1_1)) hc1) <|
    ll 10 ⟨⟨[0, 3, 8, 9, 10], [], 1, 0, [], false, [], [], []⟩, (qbl_ a0 (((a0).l.length : Nat) : Int) (.inr (([] : List (Int × Int × Int)), c1_1))).1, (qbl_ a0 (((a0).l.length : Nat) : Int) (.inr (([] : List (Int × Int × Int)), c1_1))).2⟩ <|
    ee) (by kernel_rfl)
  | cons c1_0a c1_0t =>
   dsimp only at h
   have k0 := fun {A L l} (k : PL A L l) => ww (p := qid_ none a0 (((a0).l.length : Nat) : Int) (([] : List (Int × Int × Int)), 0, 0) (.inr ((c1_0a :: c1_0t), c1_1))) (qgj_ n a0 (((a0).l.length : Nat) : Int) (([] : List (Int × Int × Int)), 0, 0) (.inr ((c1_0a :: c1_0t), c1_1)) hc1) <|
    ll 10 ⟨⟨[0, 3, 8, 9, 10], [], 1, 0, [], false, [], [], []⟩, (qbl_ a0 (((a0).l.length : Nat) : Int) (.inr ((c1_0a :: c1_0t), c1_1))).1, (qbl_ a0 (((a0).l.length : Nat) : Int) (.inr ((c1_0a :: c1_0t), c1_1))).2⟩ <|
    k
   by_cases hc2 : ((c1_1 : Nat) : Int) = (0 : Int)
   ·rw [if_pos hc2] at h
    obtain rfl := oI h
    exact runF2 hm ⟨[2], [], 0, 0, [], false, [], [], []⟩ (k0 <|
     zz 14 (xeT hc2) <|
     ee) (by kernel_rfl)
   ·rw [if_neg hc2] at h
    obtain rfl := oI h
    exact runF2 hm ⟨[2], [], 0, 0, [], false, [], [], []⟩ (k0 <|
     zz 14 (xeF hc2) <|
     ee) (by kernel_rfl)

def qm6_ (a0 : Int) (a1 : Int) (a2 : Int) (a3 : Int) (a4 : Int) (a5 : Int) (a6 : NL) (a7 : Int) : List Value := [(Value.agg #[(i6 a0), (i6 a1), (i6 a2), (i6 a3), (i6 a4), (i6 a5), (nlV a6), (Value.int .u64 a7)])]
def qm7_ (a0 : Int) (a1 : Int) (a2 : Int) (a3 : Int) (a4 : Int) (a5 : Int) (a6 : NL) (a7 : Int) : AH := ⟨sB [], 0, 0⟩
def qk1_ (a0 : Int) (a1 : Int) (a2 : Int) (a3 : Int) (a4 : Int) (a5 : Int) (a6 : NL) (a7 : Int) (r : Bool) : Value := match r with
 | o0 => (bO o0)
def qk2_ (a0 : Int) (a1 : Int) (a2 : Int) (a3 : Int) (a4 : Int) (a5 : Int) (a6 : NL) (a7 : Int) (r : Bool) : AH := match r with
 | o0 => ⟨sB [], 0, 0⟩
abbrev G_treesoundq1 (a0 : Int) (a1 : Int) (a2 : Int) (a3 : Int) (a4 : Int) (a5 : Int) (a6 : NL) (a7 : Int) (r : Bool) : Prop := Gv P (.func 52) (qm6_ a0 a1 a2 a3 a4 a5 a6 a7) (qm7_ a0 a1 a2 a3 a4 a5 a6 a7) (qk1_ a0 a1 a2 a3 a4 a5 a6 a7 r) (qk2_ a0 a1 a2 a3 a4 a5 a6 a7 r)
abbrev C_treesoundq1 (a0 : Int) (a1 : Int) (a2 : Int) (a3 : Int) (a4 : Int) (a5 : Int) (a6 : NL) (a7 : Int) (r : Bool) (ins outs : BL) : CallA := ⟨0, ins, qk1_ a0 a1 a2 a3 a4 a5 a6 a7 r, qk2_ a0 a1 a2 a3 a4 a5 a6 a7 r, outs⟩
def qgs_ (n : Nat) (a0 : Int) (a1 : Int) (a2 : Int) (a3 : Int) (a4 : Int) (a5 : Int) (a6 : NL) (a7 : Int) : Option (Bool) :=
 if a2 < (0 : Int) then
  some false
 else
  if a2 > a4 then
   some false
  else
   if a5 ≤ a2 then
    some false
   else
    if a1 = (1 : Int) then
     if a3 = a2 then
      some true
     else
      some false
    else
     if a1 = (2 : Int) then
      if a3 = a2 then
       some true
      else
       some false
     else
      if a1 = (4 : Int) then
       if a3 = a2 then
        if a4 = a2 then
         if (((a6).l.length : Nat) : Int) = (0 : Int) then
          some true
         else
          some false
        else
         some false
       else
        some false
      else
       if a1 = (3 : Int) then
        if a3 ≥ a2 then
         if a3 ≤ a4 then
          if (((a6).l.length : Nat) : Int) = (0 : Int) then
           some true
          else
           some false
         else
          some false
        else
         some false
       else
        if a1 = (5 : Int) then
         if a3 ≥ a2 then
          if a3 ≤ a4 then
           if (((a6).l.length : Nat) : Int) = (0 : Int) then
            some true
           else
            some false
          else
           some false
         else
          some false
        else
         if a1 = (6 : Int) then
          if a3 ≥ a2 then
           if a3 ≤ a4 then
            if (((a6).l.length : Nat) : Int) = (0 : Int) then
             some true
            else
             some false
           else
            some false
          else
           some false
         else
          some false
theorem qnt_ (n : Nat) (a0 : Int) (a1 : Int) (a2 : Int) (a3 : Int) (a4 : Int) (a5 : Int) (a6 : NL) (a7 : Int) (r : Bool) (h : qgs_ n a0 a1 a2 a3 a4 a5 a6 a7 = some r) : Gv P (.func 52) (qm6_ a0 a1 a2 a3 a4 a5 a6 a7) (qm7_ a0 a1 a2 a3 a4 a5 a6 a7) (qk1_ a0 a1 a2 a3 a4 a5 a6 a7 r) (qk2_ a0 a1 a2 a3 a4 a5 a6 a7 r) := by
 unfold qgs_ at h
 by_cases hc1 : a2 < (0 : Int)
 ·rw [if_pos hc1] at h
  obtain rfl := oI h
  exact runF2 hm ⟨[2], [], 0, 0, [], false, [], [], []⟩ (zz 7 (xdT hc1) <|
   ee) (by kernel_rfl)
 ·rw [if_neg hc1] at h
  have k0 := fun {A L l} (k : PL A L l) => zz 7 (xdF hc1) <|
   k
  by_cases hc2 : a2 > a4
  ·rw [if_pos hc2] at h
   obtain rfl := oI h
   exact runF2 hm ⟨[2], [], 0, 0, [], false, [], [], []⟩ (k0 <|
    zz 13 (xdT hc2) <|
    ee) (by kernel_rfl)
  ·rw [if_neg hc2] at h
   have k1 := fun {A L l} (k : PL A L l) => zz 13 (xdF hc2) <|
    k
   by_cases hc3 : a5 ≤ a2
   ·rw [if_pos hc3] at h
    obtain rfl := oI h
    exact runF2 hm ⟨[2], [], 0, 0, [], false, [], [], []⟩ (k0 <|
     k1 <|
     zz 20 (xdT hc3) <|
     ee) (by kernel_rfl)
   ·rw [if_neg hc3] at h
    have k2 := fun {A L l} (k : PL A L l) => zz 20 (xdF hc3) <|
     k
    by_cases hc4 : a1 = (1 : Int)
    ·rw [if_pos hc4] at h
     have k3 := fun {A L l} (k : PL A L l) => zz 30 (xeT hc4) <|
      k
     by_cases hc5 : a3 = a2
     ·rw [if_pos hc5] at h
      obtain rfl := oI h
      exact runF2 hm ⟨[2], [], 0, 0, [], false, [], [], []⟩ (k0 <|
       k1 <|
       k2 <|
       k3 <|
       zz 39 (xeT hc5) <|
       ee) (by kernel_rfl)
     ·rw [if_neg hc5] at h
      obtain rfl := oI h
      exact runF2 hm ⟨[2], [], 0, 0, [], false, [], [], []⟩ (k0 <|
       k1 <|
       k2 <|
       k3 <|
       zz 39 (xeF hc5) <|
       ee) (by kernel_rfl)
    ·rw [if_neg hc4] at h
     have k3 := fun {A L l} (k : PL A L l) => zz 30 (xeF hc4) <|
      k
     by_cases hc5 : a1 = (2 : Int)
     ·rw [if_pos hc5] at h
      have k4 := fun {A L l} (k : PL A L l) => zz 33 (xeT hc5) <|
       k
      by_cases hc6 : a3 = a2
      ·rw [if_pos hc6] at h
       obtain rfl := oI h
       exact runF2 hm ⟨[2], [], 0, 0, [], false, [], [], []⟩ (k0 <|
        k1 <|
        k2 <|
        k3 <|
        k4 <|
        zz 41 (xeT hc6) <|
        ee) (by kernel_rfl)
      ·rw [if_neg hc6] at h
       obtain rfl := oI h
       exact runF2 hm ⟨[2], [], 0, 0, [], false, [], [], []⟩ (k0 <|
        k1 <|
        k2 <|
        k3 <|
        k4 <|
        zz 41 (xeF hc6) <|
        ee) (by kernel_rfl)
     ·rw [if_neg hc5] at h
      have k4 := fun {A L l} (k : PL A L l) => zz 33 (xeF hc5) <|
       k
      by_cases hc6 : a1 = (4 : Int)
      ·rw [if_pos hc6] at h
       have k5 := fun {A L l} (k : PL A L l) => zz 37 (xeT hc6) <|
        k
       by_cases hc7 : a3 = a2
       ·rw [if_pos hc7] at h
        have k6 := fun {A L l} (k : PL A L l) => zz 45 (xeT hc7) <|
         k
        by_cases hc8 : a4 = a2
        ·rw [if_pos hc8] at h
         have k7 := fun {A L l} (k : PL A L l) => zz 51 (xeT hc8) <|
          k
         by_cases hc9 : (((a6).l.length : Nat) : Int) = (0 : Int)
         ·rw [if_pos hc9] at h
          obtain rfl := oI h
          exact runF2 hm ⟨[2], [], 0, 0, [], false, [], [], []⟩ (k0 <|
           k1 <|
           k2 <|
           k3 <|
           k4 <|
           k5 <|
           k6 <|
           k7 <|
           zz 57 (xeT hc9) <|
           ee) (by kernel_rfl)
         ·rw [if_neg hc9] at h
          obtain rfl := oI h
          exact runF2 hm ⟨[2], [], 0, 0, [], false, [], [], []⟩ (k0 <|
           k1 <|
           k2 <|
           k3 <|
           k4 <|
           k5 <|
           k6 <|
           k7 <|
           zz 57 (xeF hc9) <|
           ee) (by kernel_rfl)
        ·rw [if_neg hc8] at h
         obtain rfl := oI h
         exact runF2 hm ⟨[2], [], 0, 0, [], false, [], [], []⟩ (k0 <|
          k1 <|
          k2 <|
          k3 <|
          k4 <|
          k5 <|
          k6 <|
          zz 51 (xeF hc8) <|
          ee) (by kernel_rfl)
       ·rw [if_neg hc7] at h
        obtain rfl := oI h
        exact runF2 hm ⟨[2], [], 0, 0, [], false, [], [], []⟩ (k0 <|
         k1 <|
         k2 <|
         k3 <|
         k4 <|
         k5 <|
         zz 45 (xeF hc7) <|
         ee) (by kernel_rfl)
      ·rw [if_neg hc6] at h
       have k5 := fun {A L l} (k : PL A L l) => zz 37 (xeF hc6) <|
        k
       by_cases hc7 : a1 = (3 : Int)
       ·rw [if_pos hc7] at h
        have k6 := fun {A L l} (k : PL A L l) => zz 42 (xeT hc7) <|
         k
        by_cases hc8 : a3 ≥ a2
        ·rw [if_pos hc8] at h
         have k7 := fun {A L l} (k : PL A L l) => zz 51 (xdT hc8) <|
          k
         by_cases hc9 : a3 ≤ a4
         ·rw [if_pos hc9] at h
          have k8 := fun {A L l} (k : PL A L l) => zz 57 (xdT hc9) <|
           k
          by_cases hc10 : (((a6).l.length : Nat) : Int) = (0 : Int)
          ·rw [if_pos hc10] at h
           obtain rfl := oI h
           exact runF2 hm ⟨[2], [], 0, 0, [], false, [], [], []⟩ (k0 <|
            k1 <|
            k2 <|
            k3 <|
            k4 <|
            k5 <|
            k6 <|
            k7 <|
            k8 <|
            zz 63 (xeT hc10) <|
            ee) (by kernel_rfl)
          ·rw [if_neg hc10] at h
           obtain rfl := oI h
           exact runF2 hm ⟨[2], [], 0, 0, [], false, [], [], []⟩ (k0 <|
            k1 <|
            k2 <|
            k3 <|
            k4 <|
            k5 <|
            k6 <|
            k7 <|
            k8 <|
            zz 63 (xeF hc10) <|
            ee) (by kernel_rfl)
         ·rw [if_neg hc9] at h
          obtain rfl := oI h
          exact runF2 hm ⟨[2], [], 0, 0, [], false, [], [], []⟩ (k0 <|
           k1 <|
           k2 <|
           k3 <|
           k4 <|
           k5 <|
           k6 <|
           k7 <|
           zz 57 (xdF hc9) <|
           ee) (by kernel_rfl)
        ·rw [if_neg hc8] at h
         obtain rfl := oI h
         exact runF2 hm ⟨[2], [], 0, 0, [], false, [], [], []⟩ (k0 <|
          k1 <|
          k2 <|
          k3 <|
          k4 <|
          k5 <|
          k6 <|
          zz 51 (xdF hc8) <|
          ee) (by kernel_rfl)
       ·rw [if_neg hc7] at h
        have k6 := fun {A L l} (k : PL A L l) => zz 42 (xeF hc7) <|
         k
        by_cases hc8 : a1 = (5 : Int)
        ·rw [if_pos hc8] at h
         have k7 := fun {A L l} (k : PL A L l) => zz 46 (xeT hc8) <|
          k
         by_cases hc9 : a3 ≥ a2
         ·rw [if_pos hc9] at h
          have k8 := fun {A L l} (k : PL A L l) => zz 55 (xdT hc9) <|
           k
          by_cases hc10 : a3 ≤ a4
          ·rw [if_pos hc10] at h
           have k9 := fun {A L l} (k : PL A L l) => zz 61 (xdT hc10) <|
            k
           by_cases hc11 : (((a6).l.length : Nat) : Int) = (0 : Int)
           ·rw [if_pos hc11] at h
            obtain rfl := oI h
            exact runF2 hm ⟨[2], [], 0, 0, [], false, [], [], []⟩ (k0 <|
             k1 <|
             k2 <|
             k3 <|
             k4 <|
             k5 <|
             k6 <|
             k7 <|
             k8 <|
             k9 <|
             zz 67 (xeT hc11) <|
             ee) (by kernel_rfl)
           ·rw [if_neg hc11] at h
            obtain rfl := oI h
            exact runF2 hm ⟨[2], [], 0, 0, [], false, [], [], []⟩ (k0 <|
             k1 <|
             k2 <|
             k3 <|
             k4 <|
             k5 <|
             k6 <|
             k7 <|
             k8 <|
             k9 <|
             zz 67 (xeF hc11) <|
             ee) (by kernel_rfl)
          ·rw [if_neg hc10] at h
           obtain rfl := oI h
           exact runF2 hm ⟨[2], [], 0, 0, [], false, [], [], []⟩ (k0 <|
            k1 <|
            k2 <|
            k3 <|
            k4 <|
            k5 <|
            k6 <|
            k7 <|
            k8 <|
            zz 61 (xdF hc10) <|
            ee) (by kernel_rfl)
         ·rw [if_neg hc9] at h
          obtain rfl := oI h
          exact runF2 hm ⟨[2], [], 0, 0, [], false, [], [], []⟩ (k0 <|
           k1 <|
           k2 <|
           k3 <|
           k4 <|
           k5 <|
           k6 <|
           k7 <|
           zz 55 (xdF hc9) <|
           ee) (by kernel_rfl)
        ·rw [if_neg hc8] at h
         have k7 := fun {A L l} (k : PL A L l) => zz 46 (xeF hc8) <|
          k
         by_cases hc9 : a1 = (6 : Int)
         ·rw [if_pos hc9] at h
          have k8 := fun {A L l} (k : PL A L l) => zz 49 (xeT hc9) <|
           k
          by_cases hc10 : a3 ≥ a2
          ·rw [if_pos hc10] at h
           have k9 := fun {A L l} (k : PL A L l) => zz 57 (xdT hc10) <|
            k
           by_cases hc11 : a3 ≤ a4
           ·rw [if_pos hc11] at h
            have k10 := fun {A L l} (k : PL A L l) => zz 63 (xdT hc11) <|
             k
            by_cases hc12 : (((a6).l.length : Nat) : Int) = (0 : Int)
            ·rw [if_pos hc12] at h
             obtain rfl := oI h
             exact runF2 hm ⟨[2], [], 0, 0, [], false, [], [], []⟩ (k0 <|
              k1 <|
              k2 <|
              k3 <|
              k4 <|
              k5 <|
              k6 <|
              k7 <|
              k8 <|
              k9 <|
              k10 <|
              zz 69 (xeT hc12) <|
              ee) (by kernel_rfl)
            ·rw [if_neg hc12] at h
             obtain rfl := oI h
             exact runF2 hm ⟨[2], [], 0, 0, [], false, [], [], []⟩ (k0 <|
              k1 <|
              k2 <|
              k3 <|
              k4 <|
              k5 <|
              k6 <|
              k7 <|
              k8 <|
              k9 <|
              k10 <|
              zz 69 (xeF hc12) <|
              ee) (by kernel_rfl)
           ·rw [if_neg hc11] at h
            obtain rfl := oI h
            exact runF2 hm ⟨[2], [], 0, 0, [], false, [], [], []⟩ (k0 <|
             k1 <|
             k2 <|
             k3 <|
             k4 <|
             k5 <|
             k6 <|
             k7 <|
             k8 <|
             k9 <|
             zz 63 (xdF hc11) <|
             ee) (by kernel_rfl)
          ·rw [if_neg hc10] at h
           obtain rfl := oI h
           exact runF2 hm ⟨[2], [], 0, 0, [], false, [], [], []⟩ (k0 <|
            k1 <|
            k2 <|
            k3 <|
            k4 <|
            k5 <|
            k6 <|
            k7 <|
            k8 <|
            zz 57 (xdF hc10) <|
            ee) (by kernel_rfl)
         ·rw [if_neg hc9] at h
          obtain rfl := oI h
          exact runF2 hm ⟨[2], [], 0, 0, [], false, [], [], []⟩ (k0 <|
           k1 <|
           k2 <|
           k3 <|
           k4 <|
           k5 <|
           k6 <|
           k7 <|
           zz 49 (xeF hc9) <|
           ee) (by kernel_rfl)

def qm8_ (a0 : WL rw_iiiiiiLu) : List Value := [(wlV a0)]
def qm9_ (a0 : WL rw_iiiiiiLu) : AH := ⟨sB [], 0, 0⟩
def qk3_ (a0 : WL rw_iiiiiiLu) (r : Int) : Value := match r with
 | o0 => (i6 o0)
def qk4_ (a0 : WL rw_iiiiiiLu) (r : Int) : AH := match r with
 | o0 => ⟨sB [], 0, 0⟩
abbrev G_treeCheckq1 (a0 : WL rw_iiiiiiLu) (r : Int) : Prop := Gv P (.func 31) (qm8_ a0) (qm9_ a0) (qk3_ a0 r) (qk4_ a0 r)
abbrev qez_ (a0 : WL rw_iiiiiiLu) (r : Int) (ins outs : BL) : CallA := ⟨0, ins, qk3_ a0 r, qk4_ a0 r, outs⟩
def qem_ (x1_0 : WL rw_iiiiiiLu) (x1_1 : Int) (st : Int) : XSt := match st with
 | x1_2 => (sT 36 [(16, (wlV x1_0)), (17, (i6 x1_1)), (18, (i6 x1_2))], [], ⟨sB [], 0, 0⟩)
def qde_ (x1_0 : WL rw_iiiiiiLu) (x1_1 : Int) (r : (Unit) ⊕ (Unit)) : Ex × XSt := match r with
 | .inl _ => (.ret, (sT 36 [(2, (i6 (2 : Int)))], [], ⟨sB [], 0, 0⟩))
 | .inr _ => (.exit 0, (sT 36 [], [], ⟨sB [], 0, 0⟩))
abbrev Q_treeCheckq1_1 (rnd : Option Nat) (x1_0 : WL rw_iiiiiiLu) (x1_1 : Int) (st : Int) (c : Ex × XSt) : Prop := CG P rnd (fnN P 31) 0 (codeOf P 31 [false, false, true, false, true, true, true]) (qem_ x1_0 x1_1 st) c
abbrev qlt_ (rd : Option Nat) (x1_0 : WL rw_iiiiiiLu) (x1_1 : Int) (st : Int) (r : (Unit) ⊕ (Unit)) : Prop := CG P rd (fnN P 31) 0 (codeOf P 31 [false, true, false, true, true, true]) (qem_ x1_0 x1_1 st) (qde_ x1_0 x1_1 r)
def qdf_ (n : Nat) (x1_0 : WL rw_iiiiiiLu) (x1_1 : Int) (st : Int) : Option ((Int) ⊕ ((Unit) ⊕ (Unit))) := match st with
 | x1_2 =>
  if x1_2 < x1_1 then
   if 0 ≤ x1_2 ∧ x1_2 < (((x1_0).l.length : Nat) : Int) then
    ((some (((x1_0).l).getD (x1_2).toNat (0, 0, 0, 0, 0, 0, nl0, 0)))).bind fun y1_3_ =>
    (qgs_ n (y1_3_.1) (y1_3_.2.1) (y1_3_.2.2.1) (y1_3_.2.2.2.1) (y1_3_.2.2.2.2.1) (y1_3_.2.2.2.2.2.1) (y1_3_.2.2.2.2.2.2.1) (y1_3_.2.2.2.2.2.2.2)).bind fun y1_4_ =>
    if y1_4_ = true then
     if (y1_3_.2.1) = (1 : Int) then
      if x1_2 > (0 : Int) then
       some (.inr (.inl ()))
      else
       some (.inl (w64 (x1_2 + (1 : Int))))
     else
      some (.inl (w64 (x1_2 + (1 : Int))))
    else
     some (.inr (.inl ()))
   else none
  else
   some (.inr (.inr ()))
def qhw_ (n : Nat) (x1_0 : WL rw_iiiiiiLu) (x1_1 : Int) (st : Int) : Option ((Unit) ⊕ (Unit)) := iterM (qdf_ n x1_0 x1_1) n st
theorem qlu_ (n : Nat) {rnd : Option Nat} (x1_0 : WL rw_iiiiiiLu) (x1_1 : Int) (x1_2 : Int) (o : (Int) ⊕ ((Unit) ⊕ (Unit))) (h : qdf_ n x1_0 x1_1 x1_2 = some o) : CG P rnd (fnN P 31) 0 (codeOf P 31 [false, false, true, false, true, true, true]) (qem_ x1_0 x1_1 x1_2) (Sum.elim (fun s => (.normal, qem_ x1_0 x1_1 s)) (fun r => qde_ x1_0 x1_1 r) o) := by
 unfold qdf_ at h
 dsimp only at h
 by_cases hy1_1 : x1_2 < x1_1
 ·rw [if_pos hy1_1] at h
  obtain ⟨hy1_2, h⟩ := gd h
  obtain ⟨y1_3_, hy1_3, h⟩ := oB h
  obtain ⟨y1_4_, hy1_4, h⟩ := oB h
  have k0 := fun {A L l} (k : PL A L l) => zz 1 (xdT hy1_1) <|
   zz 8 (xk1 (x1_0).num (x1_0).off (x1_0).cap hy1_2) <|
   zz 9 (lk2 hy1_3 (toNatLt hy1_2)) <|
   yy 15 (.call (C_treesoundq1 (y1_3_.1) (y1_3_.2.1) (y1_3_.2.2.1) (y1_3_.2.2.2.1) (y1_3_.2.2.2.2.1) (y1_3_.2.2.2.2.2.1) (y1_3_.2.2.2.2.2.2.1) (y1_3_.2.2.2.2.2.2.2) y1_4_ [] [])) <|
   ww (qnt_ n (y1_3_.1) (y1_3_.2.1) (y1_3_.2.2.1) (y1_3_.2.2.2.1) (y1_3_.2.2.2.2.1) (y1_3_.2.2.2.2.2.1) (y1_3_.2.2.2.2.2.2.1) (y1_3_.2.2.2.2.2.2.2) y1_4_ hy1_4) <|
   k
  by_cases hy1_5 : y1_4_ = true
  ·rw [if_pos hy1_5] at h
   have k5 := fun {A L l} (k : PL A L l) => yy 16 (vf) <|
    ww (p := (Value.bool (!y1_4_)) = (Value.bool false)) (vBn hy1_5) <|
    k
   by_cases hy1_6 : (y1_3_.2.1) = (1 : Int)
   ·rw [if_pos hy1_6] at h
    have k7 := fun {A L l} (k : PL A L l) => zz 20 (xeT hy1_6) <|
     k
    by_cases hy1_7 : x1_2 > (0 : Int)
    ·rw [if_pos hy1_7] at h
     obtain rfl := oI h
     exact runC2 hm ⟨[2], [], 0, 0, [], false, [], [], []⟩ (k0 <|
      k5 <|
      k7 <|
      zz 23 (xdT hy1_7) <|
      ee) (by kernel_rfl)
    ·rw [if_neg hy1_7] at h
     obtain rfl := oI h
     exact runC2 hm ⟨[16, 17, 18], [], 0, 0, [], false, [], [], []⟩ (k0 <|
      k5 <|
      k7 <|
      zz 23 (xdF hy1_7) <|
      ee) (by kernel_rfl)
   ·rw [if_neg hy1_6] at h
    obtain rfl := oI h
    exact runC2 hm ⟨[16, 17, 18], [], 0, 0, [], false, [], [], []⟩ (k0 <|
     k5 <|
     zz 20 (xeF hy1_6) <|
     ee) (by kernel_rfl)
  ·rw [if_neg hy1_5] at h
   obtain rfl := oI h
   exact runC2 hm ⟨[2], [], 0, 0, [], false, [], [], []⟩ (k0 <|
    yy 16 (vt) <|
    ww (p := (Value.bool (!y1_4_)) = (Value.bool true)) (vBn (Bool.eq_false_iff.2 hy1_5)) <|
    ee) (by kernel_rfl)
 ·rw [if_neg hy1_1] at h
  obtain rfl := oI h
  exact runC2 hm ⟨[], [], 0, 0, [], false, [], [], []⟩ (zz 1 (xdF hy1_1) <|
   ee) (by kernel_rfl)
theorem qj4_ (n : Nat) {rnd : Option Nat} (x1_0 : WL rw_iiiiiiLu) (x1_1 : Int) (st : Int) (r : (Unit) ⊕ (Unit)) (h : qhw_ n x1_0 x1_1 st = some r) : CG P rnd (fnN P 31) 0 (codeOf P 31 [false, true, false, true, true, true]) (qem_ x1_0 x1_1 st) (qde_ x1_0 x1_1 r) :=
 CG.iter (b := codeOf P 31 [false, false, true, false, true, true, true]) (by kernel_rfl) (body := qdf_ n x1_0 x1_1) (S := qem_ x1_0 x1_1) (X := qde_ x1_0 x1_1)
  (fun s s' h => qlu_ n x1_0 x1_1 s (.inl s') h)
  (fun s r h => qlu_ n x1_0 x1_1 s (.inr r) h)
  (fun r => by intro hx; rcases r with _ | _ <;> cases hx) h
def qce_ (n : Nat) (a0 : WL rw_iiiiiiLu) : Option (Int) :=
 if (((a0).l.length : Nat) : Int) > (524288 : Int) then
  some 3
 else
  if (((a0).l.length : Nat) : Int) = (0 : Int) then
   some 2
  else
   (qf8_ n a0).bind fun c3_ =>
   if c3_ = true then
    match qhw_ n a0 (((a0).l.length : Nat) : Int) 0 with
    | none => none
    | some (.inl _) =>
     some 2
    | some (.inr _) =>
     some 0
   else
    some 2
theorem qdj_ (n : Nat) (a0 : WL rw_iiiiiiLu) (r : Int) (h : qce_ n a0 = some r) : Gv P (.func 31) (qm8_ a0) (qm9_ a0) (qk3_ a0 r) (qk4_ a0 r) := by
 unfold qce_ at h
 by_cases hc1 : (((a0).l.length : Nat) : Int) > (524288 : Int)
 ·rw [if_pos hc1] at h
  obtain rfl := oI h
  exact runF2 hm ⟨[2], [], 0, 0, [], false, [], [], []⟩ (zz 6 (xdT hc1) <|
   ee) (by kernel_rfl)
 ·rw [if_neg hc1] at h
  have k0 := fun {A L l} (k : PL A L l) => zz 6 (xdF hc1) <|
   k
  by_cases hc2 : (((a0).l.length : Nat) : Int) = (0 : Int)
  ·rw [if_pos hc2] at h
   obtain rfl := oI h
   exact runF2 hm ⟨[2], [], 0, 0, [], false, [], [], []⟩ (k0 <|
    zz 12 (xeT hc2) <|
    ee) (by kernel_rfl)
  ·rw [if_neg hc2] at h
   obtain ⟨c3_, hc3, h⟩ := oB h
   have k1 := fun {A L l} (k : PL A L l) => zz 12 (xeF hc2) <|
    yy 15 (.call (qog_ a0 c3_ [] [])) <|
    ww (qmu_ n a0 c3_ hc3) <|
    k
   by_cases hc4 : c3_ = true
   ·rw [if_pos hc4] at h
    have k4 := fun {A L l} (k : PL A L l) => yy 16 (vf) <|
     ww (p := (Value.bool (!c3_)) = (Value.bool false)) (vBn hc4) <|
     k
    rcases hc5 : qhw_ n a0 (((a0).l.length : Nat) : Int) 0 with _ | (⟨⟩ | ⟨⟩)
    ·rw [hc5] at h; cases h
    ·rw [hc5] at h
     dsimp only at h
     obtain rfl := oI h
     exact runF2 hm ⟨[2], [], 0, 0, [], false, [], [], []⟩ (k0 <|
      k1 <|
      k4 <|
      ww (p := qlt_ none a0 (((a0).l.length : Nat) : Int) 0 (.inl ())) (qj4_ n a0 (((a0).l.length : Nat) : Int) 0 (.inl ()) hc5) <|
      ll 25 ⟨⟨[16, 17, 18], [], 0, 0, [], false, [], [], []⟩, (qde_ a0 (((a0).l.length : Nat) : Int) (.inl ())).1, (qde_ a0 (((a0).l.length : Nat) : Int) (.inl ())).2⟩ <|
      ee) (by kernel_rfl)
    ·rw [hc5] at h
     dsimp only at h
     obtain rfl := oI h
     exact runF2 hm ⟨[2], [], 0, 0, [], false, [], [], []⟩ (k0 <|
      k1 <|
      k4 <|
      ww (p := qlt_ none a0 (((a0).l.length : Nat) : Int) 0 (.inr ())) (qj4_ n a0 (((a0).l.length : Nat) : Int) 0 (.inr ()) hc5) <|
      ll 25 ⟨⟨[16, 17, 18], [], 0, 0, [], false, [], [], []⟩, (qde_ a0 (((a0).l.length : Nat) : Int) (.inr ())).1, (qde_ a0 (((a0).l.length : Nat) : Int) (.inr ())).2⟩ <|
      ee) (by kernel_rfl)
   ·rw [if_neg hc4] at h
    obtain rfl := oI h
    exact runF2 hm ⟨[2], [], 0, 0, [], false, [], [], []⟩ (k0 <|
     k1 <|
     yy 16 (vt) <|
     ww (p := (Value.bool (!c3_)) = (Value.bool true)) (vBn (Bool.eq_false_iff.2 hc4)) <|
     ee) (by kernel_rfl)

def qna_ (a0 : Int) (a1 : Int) (a2 : Int) (a3 : Int) (a4 : Int) (a5 : Int) (a6 : NL) (a7 : Int) (a8 : Int) (a9 : Int) (a10 : Int) (a11 : Int) (a12 : Int) (a13 : Int) (a14 : NL) (a15 : Int) : List Value := [(Value.agg #[(i6 a0), (i6 a1), (i6 a2), (i6 a3), (i6 a4), (i6 a5), (nlV a6), (Value.int .u64 a7)]), (Value.agg #[(i6 a8), (i6 a9), (i6 a10), (i6 a11), (i6 a12), (i6 a13), (nlV a14), (Value.int .u64 a15)])]
def qnb_ (a0 : Int) (a1 : Int) (a2 : Int) (a3 : Int) (a4 : Int) (a5 : Int) (a6 : NL) (a7 : Int) (a8 : Int) (a9 : Int) (a10 : Int) (a11 : Int) (a12 : Int) (a13 : Int) (a14 : NL) (a15 : Int) : AH := ⟨sB [], 0, 0⟩
def qk5_ (a0 : Int) (a1 : Int) (a2 : Int) (a3 : Int) (a4 : Int) (a5 : Int) (a6 : NL) (a7 : Int) (a8 : Int) (a9 : Int) (a10 : Int) (a11 : Int) (a12 : Int) (a13 : Int) (a14 : NL) (a15 : Int) (r : Bool) : Value := match r with
 | o0 => (bO o0)
def qk6_ (a0 : Int) (a1 : Int) (a2 : Int) (a3 : Int) (a4 : Int) (a5 : Int) (a6 : NL) (a7 : Int) (a8 : Int) (a9 : Int) (a10 : Int) (a11 : Int) (a12 : Int) (a13 : Int) (a14 : NL) (a15 : Int) (r : Bool) : AH := match r with
 | o0 => ⟨sB [], 0, 0⟩
abbrev G_partsFitsq1 (a0 : Int) (a1 : Int) (a2 : Int) (a3 : Int) (a4 : Int) (a5 : Int) (a6 : NL) (a7 : Int) (a8 : Int) (a9 : Int) (a10 : Int) (a11 : Int) (a12 : Int) (a13 : Int) (a14 : NL) (a15 : Int) (r : Bool) : Prop := Gv P (.func 53) (qna_ a0 a1 a2 a3 a4 a5 a6 a7 a8 a9 a10 a11 a12 a13 a14 a15) (qnb_ a0 a1 a2 a3 a4 a5 a6 a7 a8 a9 a10 a11 a12 a13 a14 a15) (qk5_ a0 a1 a2 a3 a4 a5 a6 a7 a8 a9 a10 a11 a12 a13 a14 a15 r) (qk6_ a0 a1 a2 a3 a4 a5 a6 a7 a8 a9 a10 a11 a12 a13 a14 a15 r)
abbrev qnc_ (a0 : Int) (a1 : Int) (a2 : Int) (a3 : Int) (a4 : Int) (a5 : Int) (a6 : NL) (a7 : Int) (a8 : Int) (a9 : Int) (a10 : Int) (a11 : Int) (a12 : Int) (a13 : Int) (a14 : NL) (a15 : Int) (r : Bool) (ins outs : BL) : CallA := ⟨0, ins, qk5_ a0 a1 a2 a3 a4 a5 a6 a7 a8 a9 a10 a11 a12 a13 a14 a15 r, qk6_ a0 a1 a2 a3 a4 a5 a6 a7 a8 a9 a10 a11 a12 a13 a14 a15 r, outs⟩
def qgt_ (n : Nat) (a0 : Int) (a1 : Int) (a2 : Int) (a3 : Int) (a4 : Int) (a5 : Int) (a6 : NL) (a7 : Int) (a8 : Int) (a9 : Int) (a10 : Int) (a11 : Int) (a12 : Int) (a13 : Int) (a14 : NL) (a15 : Int) : Option (Bool) :=
 if a0 = a8 then
  if a1 = a9 then
   if a2 = a10 then
    if a4 = a12 then
     some true
    else
     some false
   else
    some false
  else
   some false
 else
  some false
theorem qk7_ (n : Nat) (a0 : Int) (a1 : Int) (a2 : Int) (a3 : Int) (a4 : Int) (a5 : Int) (a6 : NL) (a7 : Int) (a8 : Int) (a9 : Int) (a10 : Int) (a11 : Int) (a12 : Int) (a13 : Int) (a14 : NL) (a15 : Int) (r : Bool) (h : qgt_ n a0 a1 a2 a3 a4 a5 a6 a7 a8 a9 a10 a11 a12 a13 a14 a15 = some r) : Gv P (.func 53) (qna_ a0 a1 a2 a3 a4 a5 a6 a7 a8 a9 a10 a11 a12 a13 a14 a15) (qnb_ a0 a1 a2 a3 a4 a5 a6 a7 a8 a9 a10 a11 a12 a13 a14 a15) (qk5_ a0 a1 a2 a3 a4 a5 a6 a7 a8 a9 a10 a11 a12 a13 a14 a15 r) (qk6_ a0 a1 a2 a3 a4 a5 a6 a7 a8 a9 a10 a11 a12 a13 a14 a15 r) := by
 unfold qgt_ at h
 by_cases hc1 : a0 = a8
 ·rw [if_pos hc1] at h
  have k0 := fun {A L l} (k : PL A L l) => zz 9 (xeT hc1) <|
   k
  by_cases hc2 : a1 = a9
  ·rw [if_pos hc2] at h
   have k1 := fun {A L l} (k : PL A L l) => zz 15 (xeT hc2) <|
    k
   by_cases hc3 : a2 = a10
   ·rw [if_pos hc3] at h
    have k2 := fun {A L l} (k : PL A L l) => zz 22 (xeT hc3) <|
     k
    by_cases hc4 : a4 = a12
    ·rw [if_pos hc4] at h
     obtain rfl := oI h
     exact runF2 hm ⟨[4], [], 0, 0, [], false, [], [], []⟩ (k0 <|
      k1 <|
      k2 <|
      zz 29 (xeT hc4) <|
      ee) (by kernel_rfl)
    ·rw [if_neg hc4] at h
     obtain rfl := oI h
     exact runF2 hm ⟨[4], [], 0, 0, [], false, [], [], []⟩ (k0 <|
      k1 <|
      k2 <|
      zz 29 (xeF hc4) <|
      ee) (by kernel_rfl)
   ·rw [if_neg hc3] at h
    obtain rfl := oI h
    exact runF2 hm ⟨[4], [], 0, 0, [], false, [], [], []⟩ (k0 <|
     k1 <|
     zz 22 (xeF hc3) <|
     ee) (by kernel_rfl)
  ·rw [if_neg hc2] at h
   obtain rfl := oI h
   exact runF2 hm ⟨[4], [], 0, 0, [], false, [], [], []⟩ (k0 <|
    zz 15 (xeF hc2) <|
    ee) (by kernel_rfl)
 ·rw [if_neg hc1] at h
  obtain rfl := oI h
  exact runF2 hm ⟨[4], [], 0, 0, [], false, [], [], []⟩ (zz 9 (xeF hc1) <|
   ee) (by kernel_rfl)

def qmh_ (a0 : WL rw_iiiiiiLu) (a1 : Int) (a2 : WL rw_iiiiiiLu) : List Value := [(wlV a0), (i6 a1), (wlV a2)]
def qmi_ (a0 : WL rw_iiiiiiLu) (a1 : Int) (a2 : WL rw_iiiiiiLu) : AH := ⟨sB [], 0, 0⟩
def qj9_ (a0 : WL rw_iiiiiiLu) (a1 : Int) (a2 : WL rw_iiiiiiLu) (r : Bool) : Value := match r with
 | o0 => (bO o0)
def qka_ (a0 : WL rw_iiiiiiLu) (a1 : Int) (a2 : WL rw_iiiiiiLu) (r : Bool) : AH := match r with
 | o0 => ⟨sB [], 0, 0⟩
abbrev G_splicefitsq1 (a0 : WL rw_iiiiiiLu) (a1 : Int) (a2 : WL rw_iiiiiiLu) (r : Bool) : Prop := Gv P (.func 32) (qmh_ a0 a1 a2) (qmi_ a0 a1 a2) (qj9_ a0 a1 a2 r) (qka_ a0 a1 a2 r)
abbrev qo1_ (a0 : WL rw_iiiiiiLu) (a1 : Int) (a2 : WL rw_iiiiiiLu) (r : Bool) (ins outs : BL) : CallA := ⟨0, ins, qj9_ a0 a1 a2 r, qka_ a0 a1 a2 r, outs⟩
def qhb_ (n : Nat) (a0 : WL rw_iiiiiiLu) (a1 : Int) (a2 : WL rw_iiiiiiLu) : Option (Bool) :=
 if a1 ≥ (0 : Int) then
  if a1 < (((a0).l.length : Nat) : Int) then
   if 0 ≤ a1 ∧ a1 < (((a0).l.length : Nat) : Int) then
    ((some (((a0).l).getD (a1).toNat (0, 0, 0, 0, 0, 0, nl0, 0)))).bind fun c4_ =>
    if 0 ≤ (0 : Int) ∧ (0 : Int) < (((a2).l.length : Nat) : Int) then
     ((some (((a2).l).getD ((0 : Int)).toNat (0, 0, 0, 0, 0, 0, nl0, 0)))).bind fun c6_ =>
     (qgt_ n (c4_.1) (c4_.2.1) (c4_.2.2.1) (c4_.2.2.2.1) (c4_.2.2.2.2.1) (c4_.2.2.2.2.2.1) (c4_.2.2.2.2.2.2.1) (c4_.2.2.2.2.2.2.2) (c6_.1) (c6_.2.1) (c6_.2.2.1) (c6_.2.2.2.1) (c6_.2.2.2.2.1) (c6_.2.2.2.2.2.1) (c6_.2.2.2.2.2.2.1) (c6_.2.2.2.2.2.2.2)).bind fun c7_ =>
     some c7_
    else none
   else none
  else
   some false
 else
  some false
theorem qnl_ (n : Nat) (a0 : WL rw_iiiiiiLu) (a1 : Int) (a2 : WL rw_iiiiiiLu) (r : Bool) (h : qhb_ n a0 a1 a2 = some r) : Gv P (.func 32) (qmh_ a0 a1 a2) (qmi_ a0 a1 a2) (qj9_ a0 a1 a2 r) (qka_ a0 a1 a2 r) := by
 unfold qhb_ at h
 by_cases hc1 : a1 ≥ (0 : Int)
 ·rw [if_pos hc1] at h
  have k0 := fun {A L l} (k : PL A L l) => zz 4 (xdT hc1) <|
   k
  by_cases hc2 : a1 < (((a0).l.length : Nat) : Int)
  ·rw [if_pos hc2] at h
   obtain ⟨hc3, h⟩ := gd h
   obtain ⟨c4_, hc4, h⟩ := oB h
   obtain ⟨hc5, h⟩ := gd h
   obtain ⟨c6_, hc6, h⟩ := oB h
   obtain ⟨c7_, hc7, h⟩ := oB h
   obtain rfl := oI h
   exact runF2 hm ⟨[6], [], 0, 0, [], false, [], [], []⟩ (k0 <|
    zz 9 (xdT hc2) <|
    zz 14 (xk1 (a0).num (a0).off (a0).cap hc3) <|
    zz 15 (lk2 hc4 (toNatLt hc3)) <|
    zz 17 (xk1 (a2).num (a2).off (a2).cap hc5) <|
    zz 18 (lk2 hc6 (toNatLt hc5)) <|
    yy 19 (.call (qnc_ (c4_.1) (c4_.2.1) (c4_.2.2.1) (c4_.2.2.2.1) (c4_.2.2.2.2.1) (c4_.2.2.2.2.2.1) (c4_.2.2.2.2.2.2.1) (c4_.2.2.2.2.2.2.2) (c6_.1) (c6_.2.1) (c6_.2.2.1) (c6_.2.2.2.1) (c6_.2.2.2.2.1) (c6_.2.2.2.2.2.1) (c6_.2.2.2.2.2.2.1) (c6_.2.2.2.2.2.2.2) c7_ [] [])) <|
    ww (qk7_ n (c4_.1) (c4_.2.1) (c4_.2.2.1) (c4_.2.2.2.1) (c4_.2.2.2.2.1) (c4_.2.2.2.2.2.1) (c4_.2.2.2.2.2.2.1) (c4_.2.2.2.2.2.2.2) (c6_.1) (c6_.2.1) (c6_.2.2.1) (c6_.2.2.2.1) (c6_.2.2.2.2.1) (c6_.2.2.2.2.2.1) (c6_.2.2.2.2.2.2.1) (c6_.2.2.2.2.2.2.2) c7_ hc7) <|
    ee) (by kernel_rfl)
  ·rw [if_neg hc2] at h
   obtain rfl := oI h
   exact runF2 hm ⟨[6], [], 0, 0, [], false, [], [], []⟩ (k0 <|
    zz 9 (xdF hc2) <|
    ee) (by kernel_rfl)
 ·rw [if_neg hc1] at h
  obtain rfl := oI h
  exact runF2 hm ⟨[6], [], 0, 0, [], false, [], [], []⟩ (zz 4 (xdF hc1) <|
   ee) (by kernel_rfl)

def qnu_ (a0 : WL rw_iiiiiiLu) (a1 : Int) : List Value := [(wlV a0), (i6 a1)]
def qnv_ (a0 : WL rw_iiiiiiLu) (a1 : Int) : AH := ⟨sB [], 0, 0⟩
def qlz_ (a0 : WL rw_iiiiiiLu) (a1 : Int) (r : Int) : Value := match r with
 | o0 => (i6 o0)
def ql0_ (a0 : WL rw_iiiiiiLu) (a1 : Int) (r : Int) : AH := match r with
 | o0 => ⟨sB [], 0, 0⟩
abbrev G_partsEndq1 (a0 : WL rw_iiiiiiLu) (a1 : Int) (r : Int) : Prop := Gv P (.func 54) (qnu_ a0 a1) (qnv_ a0 a1) (qlz_ a0 a1 r) (ql0_ a0 a1 r)
abbrev qnw_ (a0 : WL rw_iiiiiiLu) (a1 : Int) (r : Int) (ins outs : BL) : CallA := ⟨0, ins, qlz_ a0 a1 r, ql0_ a0 a1 r, outs⟩
def qe9_ (x1_0 : WL rw_iiiiiiLu) (st : Int) : XSt := match st with
 | x1_1 => (sT 28 [(0, (wlV x1_0)), (1, (i6 x1_1))], [], ⟨sB [], 0, 0⟩)
def qfa_ (x1_0 : WL rw_iiiiiiLu) (r : Int) : Ex × XSt := match r with
 | z1_0 => (.exit 0, (sT 28 [(1, (i6 z1_0))], [], ⟨sB [], 0, 0⟩))
abbrev Q_partsEndq1_1 (rnd : Option Nat) (x1_0 : WL rw_iiiiiiLu) (st : Int) (c : Ex × XSt) : Prop := CG P rnd (fnN P 54) 0 (codeOf P 54 [false, false, false, true]) (qe9_ x1_0 st) c
abbrev qo2_ (rd : Option Nat) (x1_0 : WL rw_iiiiiiLu) (st : Int) (r : Int) : Prop := CG P rd (fnN P 54) 0 (codeOf P 54 [false, false, true]) (qe9_ x1_0 st) (qfa_ x1_0 r)
def qfb_ (n : Nat) (x1_0 : WL rw_iiiiiiLu) (st : Int) : Option ((Int) ⊕ (Int)) := match st with
 | x1_1 =>
  if 0 ≤ x1_1 ∧ x1_1 < (((x1_0).l.length : Nat) : Int) then
   ((some (((x1_0).l).getD (x1_1).toNat (0, 0, 0, 0, 0, 0, nl0, 0)))).bind fun y1_2_ =>
   if ((((y1_2_.2.2.2.2.2.2.1)).l.length : Nat) : Int) > (0 : Int) then
    ((some (w64 (((((y1_2_.2.2.2.2.2.2.1)).l.length : Nat) : Int) - (1 : Int))))).bind fun y1_4_ =>
    if 0 ≤ y1_4_ ∧ y1_4_ < ((((y1_2_.2.2.2.2.2.2.1)).l.length : Nat) : Int) then
     if (y1_4_).toNat < (((y1_2_.2.2.2.2.2.2.1)).l).length then
      ((some ((((y1_2_.2.2.2.2.2.2.1)).l).getD (y1_4_).toNat 0))).bind fun y1_7_ =>
      some (.inl y1_7_)
     else none
    else none
   else
    some (.inr x1_1)
  else none
def qkb_ (n : Nat) (x1_0 : WL rw_iiiiiiLu) (st : Int) : Option (Int) := iterM (qfb_ n x1_0) n st
theorem qmj_ (n : Nat) {rnd : Option Nat} (x1_0 : WL rw_iiiiiiLu) (x1_1 : Int) (o : (Int) ⊕ (Int)) (h : qfb_ n x1_0 x1_1 = some o) : CG P rnd (fnN P 54) 0 (codeOf P 54 [false, false, false, true]) (qe9_ x1_0 x1_1) (Sum.elim (fun s => (.normal, qe9_ x1_0 s)) (fun r => qfa_ x1_0 r) o) := by
 unfold qfb_ at h
 dsimp only at h
 obtain ⟨hy1_1, h⟩ := gd h
 obtain ⟨y1_2_, hy1_2, h⟩ := oB h
 have k0 := fun {A L l} (k : PL A L l) => zz 4 (xk1 (x1_0).num (x1_0).off (x1_0).cap hy1_1) <|
  zz 5 (fk7 (x1_0).num (Nat.add (x1_0).off ((x1_1).toNat * 8))) <|
  zz 6 (lk8 hy1_2 (toNatLt hy1_1)) <|
  k
 by_cases hy1_3 : ((((y1_2_.2.2.2.2.2.2.1)).l.length : Nat) : Int) > (0 : Int)
 ·rw [if_pos hy1_3] at h
  obtain ⟨y1_4_, hy1_4, h⟩ := oB h
  obtain ⟨hy1_5, h⟩ := gd h
  obtain ⟨hy1_6, h⟩ := gd h
  obtain ⟨y1_7_, hy1_7, h⟩ := oB h
  obtain rfl := oI h
  exact runC2 hm ⟨[0, 1], [], 0, 0, [], false, [], [], []⟩ (k0 <|
   zz 8 (xdT hy1_3) <|
   zz 13 (xk1 (x1_0).num (x1_0).off (x1_0).cap hy1_1) <|
   zz 14 (fk7 (x1_0).num (Nat.add (x1_0).off ((x1_1).toNat * 8))) <|
   zz 15 (lk8 hy1_2 (toNatLt hy1_1)) <|
   zz 18 (xk1 (x1_0).num (x1_0).off (x1_0).cap hy1_1) <|
   zz 19 (fk7 (x1_0).num (Nat.add (x1_0).off ((x1_1).toNat * 8))) <|
   zz 20 (lk8 hy1_2 (toNatLt hy1_1)) <|
   zz 22 (xnm hy1_4) <|
   zz 23 (xk9 (Nat.add ((y1_2_.2.2.2.2.2.2.1)).num 64) ((y1_2_.2.2.2.2.2.2.1)).off ((y1_2_.2.2.2.2.2.2.1)).cap hy1_5) <|
   zz 24 (nk10 hy1_7 hy1_6) <|
   ee) (by kernel_rfl)
 ·rw [if_neg hy1_3] at h
  obtain rfl := oI h
  exact runC2 hm ⟨[1], [], 0, 0, [], false, [], [], []⟩ (k0 <|
   zz 8 (xdF hy1_3) <|
   ee) (by kernel_rfl)
theorem qnm_ (n : Nat) {rnd : Option Nat} (x1_0 : WL rw_iiiiiiLu) (st : Int) (r : Int) (h : qkb_ n x1_0 st = some r) : CG P rnd (fnN P 54) 0 (codeOf P 54 [false, false, true]) (qe9_ x1_0 st) (qfa_ x1_0 r) :=
 CG.iter (b := codeOf P 54 [false, false, false, true]) (by kernel_rfl) (body := qfb_ n x1_0) (S := qe9_ x1_0) (X := qfa_ x1_0)
  (fun s s' h => qmj_ n x1_0 s (.inl s') h)
  (fun s r h => qmj_ n x1_0 s (.inr r) h)
  (fun r => by intro hx; cases hx) h
def qgk_ (n : Nat) (a0 : WL rw_iiiiiiLu) (a1 : Int) : Option (Int) :=
 (qkb_ n a0 a1).bind fun c1_ =>
 some (w64 (c1_ + (1 : Int)))
theorem qlv_ (n : Nat) (a0 : WL rw_iiiiiiLu) (a1 : Int) (r : Int) (h : qgk_ n a0 a1 = some r) : Gv P (.func 54) (qnu_ a0 a1) (qnv_ a0 a1) (qlz_ a0 a1 r) (ql0_ a0 a1 r) := by
 unfold qgk_ at h
 obtain ⟨c1_, hc1, h⟩ := oB h
 obtain rfl := oI h
 exact runF2 hm ⟨[4], [], 0, 0, [], false, [], [], []⟩ (ww (p := qo2_ none a0 a1 c1_) (qnm_ n a0 a1 c1_ hc1) <|
  ll 4 ⟨⟨[0, 1], [], 0, 0, [], false, [], [], []⟩, (qfa_ a0 c1_).1, (qfa_ a0 c1_).2⟩ <|
  ee) (by kernel_rfl)

def qnx_ (a0 : Int) (a1 : Int) (a2 : Int) : List Value := [(i6 a0), (pN 0 0), (pN 1 0)]
def qny_ (a0 : Int) (a1 : Int) (a2 : Int) : AH := ⟨sB [(0, (some (.cells (layT [(i6 a1)]) 3))), (1, (some (.cells (layT [(i6 a2)]) 3)))], 2, 2⟩
def ql1_ (a0 : Int) (a1 : Int) (a2 : Int) (r : Int) : Value := match r with
 | o0 => (i6 o0)
def ql2_ (a0 : Int) (a1 : Int) (a2 : Int) (r : Int) : AH := match r with
 | o0 => ⟨sB [], 2, 2⟩
abbrev G_treePut1q1 (a0 : Int) (a1 : Int) (a2 : Int) (r : Int) : Prop := Gv P (.func 55) (qnx_ a0 a1 a2) (qny_ a0 a1 a2) (ql1_ a0 a1 a2 r) (ql2_ a0 a1 a2 r)
abbrev C_treePut1q1 (a0 : Int) (a1 : Int) (a2 : Int) (r : Int) (ins outs : BL) : CallA := ⟨2, ins, ql1_ a0 a1 a2 r, ql2_ a0 a1 a2 r, outs⟩
def qnz_ (n : Nat) (a0 : Int) (a1 : Int) (a2 : Int) : Option (Int) :=
 if a0 ≥ a1 then
  some (w64 (a0 + a2))
 else
  some a0
theorem m_treePut1q1_ok (n : Nat) (a0 : Int) (a1 : Int) (a2 : Int) (r : Int) (h : qnz_ n a0 a1 a2 = some r) : Gv P (.func 55) (qnx_ a0 a1 a2) (qny_ a0 a1 a2) (ql1_ a0 a1 a2 r) (ql2_ a0 a1 a2 r) := by
 unfold qnz_ at h
 by_cases hc1 : a0 ≥ a1
 ·rw [if_pos hc1] at h
  obtain rfl := oI h
  exact runF2 hm ⟨[4], [], 2, 2, [], false, [], [], []⟩ (zz 6 (xdT hc1) <|
   ee) (by kernel_rfl)
 ·rw [if_neg hc1] at h
  obtain rfl := oI h
  exact runF2 hm ⟨[4], [], 2, 2, [], false, [], [], []⟩ (zz 6 (xdF hc1) <|
   ee) (by kernel_rfl)

def qn0_ (a0 : Int) (a1 : List Int) (a2 : List Int) : List Value := [(i6 a0), (pN 0 0), (pN 1 0)]
def qn1_ (a0 : Int) (a1 : List Int) (a2 : List Int) : AH := ⟨sB [(0, (some (.cells (layT (iv a1)) 3))), (1, (some (.cells (layT (iv a2)) 3)))], 2, 2⟩
def ql3_ (a0 : Int) (a1 : List Int) (a2 : List Int) (r : Int) : Value := match r with
 | o0 => (i6 o0)
def ql4_ (a0 : Int) (a1 : List Int) (a2 : List Int) (r : Int) : AH := match r with
 | o0 => ⟨sB [], 2, 2⟩
abbrev G_treePut1q2 (a0 : Int) (a1 : List Int) (a2 : List Int) (r : Int) : Prop := Gv P (.func 55) (qn0_ a0 a1 a2) (qn1_ a0 a1 a2) (ql3_ a0 a1 a2 r) (ql4_ a0 a1 a2 r)
abbrev C_treePut1q2 (a0 : Int) (a1 : List Int) (a2 : List Int) (r : Int) (ins outs : BL) : CallA := ⟨2, ins, ql3_ a0 a1 a2 r, ql4_ a0 a1 a2 r, outs⟩
def qi3_ (n : Nat) (a0 : Int) (a1 : List Int) (a2 : List Int) : Option (Int) :=
 if 0 < (a1).length then
  ((some ((a1).getD 0 0))).bind fun c2_ =>
  if a0 ≥ c2_ then
   if 0 < (a2).length then
    ((some ((a2).getD 0 0))).bind fun c5_ =>
    some (w64 (a0 + c5_))
   else none
  else
   some a0
 else none
theorem qoh_ (n : Nat) (a0 : Int) (a1 : List Int) (a2 : List Int) (r : Int) (h : qi3_ n a0 a1 a2 = some r) : Gv P (.func 55) (qn0_ a0 a1 a2) (qn1_ a0 a1 a2) (ql3_ a0 a1 a2 r) (ql4_ a0 a1 a2 r) := by
 unfold qi3_ at h
 obtain ⟨hc1, h⟩ := gd h
 obtain ⟨c2_, hc2, h⟩ := oB h
 have k0 := fun {A L l} (k : PL A L l) => zz 5 (xivN hc2 (hc1)) <|
  k
 by_cases hc3 : a0 ≥ c2_
 ·rw [if_pos hc3] at h
  obtain ⟨hc4, h⟩ := gd h
  obtain ⟨c5_, hc5, h⟩ := oB h
  obtain rfl := oI h
  exact runF2 hm ⟨[4], [], 2, 2, [], false, [], [], []⟩ (k0 <|
   zz 6 (xdT hc3) <|
   zz 10 (xivN hc5 (hc4)) <|
   ee) (by kernel_rfl)
 ·rw [if_neg hc3] at h
  obtain rfl := oI h
  exact runF2 hm ⟨[4], [], 2, 2, [], false, [], [], []⟩ (k0 <|
   zz 6 (xdF hc3) <|
   ee) (by kernel_rfl)

def qho_ (a0 : NL) (a1 : Int) (a2 : Int) : List Value := [(nlV a0), (Value.func (.func 55) #[] #[(pN 0 0), (pN 1 0)])]
def qhp_ (a0 : NL) (a1 : Int) (a2 : Int) : AH := ⟨sB [(0, (some (.cells (layT [(i6 a1)]) 3))), (1, (some (.cells (layT [(i6 a2)]) 3)))], 2, 2⟩
def qhq_ (a0 : NL) (a1 : Int) (a2 : Int) (r : NL) : Value := match r with
 | o0 => (nlV o0)
def qfc_ (a0 : NL) (a1 : Int) (a2 : Int) (r : NL) : AH := match r with
 | o0 => ⟨sB [], 2, 2⟩
abbrev G_treeeachintintq1 (a0 : NL) (a1 : Int) (a2 : Int) (r : NL) : Prop := Gv P (.func 66) (qho_ a0 a1 a2) (qhp_ a0 a1 a2) (qhq_ a0 a1 a2 r) (qfc_ a0 a1 a2 r)
abbrev qmv_ (a0 : NL) (a1 : Int) (a2 : Int) (r : NL) (ins outs : BL) : CallA := ⟨2, ins, qhq_ a0 a1 a2 r, qfc_ a0 a1 a2 r, outs⟩
def qcu_ (x1_0 : List Int) (x1_1 : List Int) (x1_3 : Nat) (x1_4 : NL) (x1_5 : Int) (st : List Int × Int) : XSt := match st with
 | (x1_2, x1_6) => (sT 29 [(1, (Value.func (.func 55) #[] #[(pN 0 0), (pN 1 0)])), (5, (sN 2 0 x1_3 x1_3)), (14, (nlV x1_4)), (15, (i6 x1_5)), (16, (i6 x1_6))], [], ⟨sB [(0, (some (.cells (layT (iv x1_0)) 3))), (1, (some (.cells (layT (iv x1_1)) 3))), (2, (some (.cells (layT (iv x1_2)) 3)))], 3, 2⟩)
def qcv_ (x1_0 : List Int) (x1_1 : List Int) (x1_3 : Nat) (x1_4 : NL) (x1_5 : Int) (r : List Int) : Ex × XSt := match r with
 | z1_0 => (.exit 0, (sT 29 [(5, (sN 2 0 x1_3 x1_3))], [], ⟨sB [(0, (some (.cells (layT (iv x1_0)) 3))), (1, (some (.cells (layT (iv x1_1)) 3))), (2, (some (.cells (layT (iv z1_0)) 3)))], 3, 2⟩))
abbrev Q_treeeachintintq1_1 (rnd : Option Nat) (x1_0 : List Int) (x1_1 : List Int) (x1_3 : Nat) (x1_4 : NL) (x1_5 : Int) (st : List Int × Int) (c : Ex × XSt) : Prop := CG P rnd (fnN P 66) 2 (codeOf P 66 [false, false, true, false, true, true, true]) (qcu_ x1_0 x1_1 x1_3 x1_4 x1_5 st) c
abbrev ql5_ (rd : Option Nat) (x1_0 : List Int) (x1_1 : List Int) (x1_3 : Nat) (x1_4 : NL) (x1_5 : Int) (st : List Int × Int) (r : List Int) : Prop := CG P rd (fnN P 66) 2 (codeOf P 66 [false, true, false, true, true, true]) (qcu_ x1_0 x1_1 x1_3 x1_4 x1_5 st) (qcv_ x1_0 x1_1 x1_3 x1_4 x1_5 r)
def qb1_ (n : Nat) (x1_0 : List Int) (x1_1 : List Int) (x1_3 : Nat) (x1_4 : NL) (x1_5 : Int) (st : List Int × Int) : Option ((List Int × Int) ⊕ (List Int)) := match st with
 | (x1_2, x1_6) =>
  if x1_6 < x1_5 then
   if 0 ≤ x1_6 ∧ x1_6 < (((x1_4).l.length : Nat) : Int) then
    if (x1_6).toNat < ((x1_4).l).length then
     ((some (((x1_4).l).getD (x1_6).toNat 0))).bind fun y1_4_ =>
     (qi3_ n y1_4_ x1_0 x1_1).bind fun y1_5_ =>
     if 0 ≤ x1_6 ∧ x1_6 < ((x1_3 : Nat) : Int) then
      if (x1_6).toNat < (x1_2).length then
       some (.inl (((x1_2).set (x1_6).toNat y1_5_), (w64 (x1_6 + (1 : Int)))))
      else none
     else none
    else none
   else none
  else
   some (.inr x1_2)
def qgl_ (n : Nat) (x1_0 : List Int) (x1_1 : List Int) (x1_3 : Nat) (x1_4 : NL) (x1_5 : Int) (st : List Int × Int) : Option (List Int) := iterM (qb1_ n x1_0 x1_1 x1_3 x1_4 x1_5) n st
theorem qi4_ (n : Nat) {rnd : Option Nat} (x1_0 : List Int) (x1_1 : List Int) (x1_3 : Nat) (x1_4 : NL) (x1_5 : Int) (st : List Int × Int) (o : (List Int × Int) ⊕ (List Int)) (h : qb1_ n x1_0 x1_1 x1_3 x1_4 x1_5 st = some o) : CG P rnd (fnN P 66) 2 (codeOf P 66 [false, false, true, false, true, true, true]) (qcu_ x1_0 x1_1 x1_3 x1_4 x1_5 st) (Sum.elim (fun s => (.normal, qcu_ x1_0 x1_1 x1_3 x1_4 x1_5 s)) (fun r => qcv_ x1_0 x1_1 x1_3 x1_4 x1_5 r) o) := by
 obtain ⟨x1_2, x1_6⟩ := st
 unfold qb1_ at h
 dsimp only at h
 by_cases hy1_1 : x1_6 < x1_5
 ·rw [if_pos hy1_1] at h
  obtain ⟨hy1_2, h⟩ := gd h
  obtain ⟨hy1_3, h⟩ := gd h
  obtain ⟨y1_4_, hy1_4, h⟩ := oB h
  obtain ⟨y1_5_, hy1_5, h⟩ := oB h
  obtain ⟨hy1_6, h⟩ := gd h
  obtain ⟨hy1_7, h⟩ := gd h
  obtain rfl := oI h
  exact runC2 hm ⟨[1, 5, 14, 15, 16], [(0, 0, true), (1, 1, true), (2, 2, true)], 3, 2, [], false, [], [], []⟩ (zz 1 (xdT hy1_1) <|
   zz 8 (xk9 (Nat.add (x1_4).num 64) (x1_4).off (x1_4).cap hy1_2) <|
   zz 9 (nk10 hy1_4 hy1_3) <|
   yy 16 (.call (C_treePut1q2 y1_4_ x1_0 x1_1 y1_5_ [(0, 0, true), (1, 1, true)] [])) <|
   ww (qoh_ n y1_4_ x1_0 x1_1 y1_5_ hy1_5) <|
   ww (iv_flat x1_0 3) <|
   ww (iv_flat x1_1 3) <|
   zz 17 (xk18 2 x1_3 hy1_6) <|
   yy 18 (.sto (layT (iv ((x1_2).set (x1_6).toNat y1_5_)))) <|
   ww (p := ∃ old, rdT (layT (iv x1_2)) 1 (x1_6).toNat = some old) (Exists.elim (iv_st (x1_2) ((x1_6).toNat) (y1_5_) hy1_7) fun o h => ⟨o, h.1⟩) <|
   ww (p := layL [(i6 y1_5_)] (x1_6).toNat (layT (iv x1_2)) = layT (iv ((x1_2).set (x1_6).toNat y1_5_))) (Exists.elim (iv_st (x1_2) ((x1_6).toNat) (y1_5_) hy1_7) fun o h => h.2) <|
   ww (iv_flat x1_0 3) <|
   ww (iv_flat x1_1 3) <|
   ww (iv_flat ((x1_2).set (x1_6).toNat y1_5_) 3) <|
   ee) (by kernel_rfl)
 ·rw [if_neg hy1_1] at h
  obtain rfl := oI h
  exact runC2 hm ⟨[5], [(0, 0, true), (1, 1, true), (2, 2, true)], 3, 2, [], false, [], [], []⟩ (zz 1 (xdF hy1_1) <|
   ww (iv_flat x1_0 3) <|
   ww (iv_flat x1_1 3) <|
   ww (iv_flat x1_2 3) <|
   ee) (by kernel_rfl)
theorem qkw_ (n : Nat) {rnd : Option Nat} (x1_0 : List Int) (x1_1 : List Int) (x1_3 : Nat) (x1_4 : NL) (x1_5 : Int) (st : List Int × Int) (r : List Int) (h : qgl_ n x1_0 x1_1 x1_3 x1_4 x1_5 st = some r) : CG P rnd (fnN P 66) 2 (codeOf P 66 [false, true, false, true, true, true]) (qcu_ x1_0 x1_1 x1_3 x1_4 x1_5 st) (qcv_ x1_0 x1_1 x1_3 x1_4 x1_5 r) :=
 CG.iter (b := codeOf P 66 [false, false, true, false, true, true, true]) (by kernel_rfl) (body := qb1_ n x1_0 x1_1 x1_3 x1_4 x1_5) (S := qcu_ x1_0 x1_1 x1_3 x1_4 x1_5) (X := qcv_ x1_0 x1_1 x1_3 x1_4 x1_5)
  (fun s s' h => qi4_ n x1_0 x1_1 x1_3 x1_4 x1_5 s (.inl s') h)
  (fun s r h => qi4_ n x1_0 x1_1 x1_3 x1_4 x1_5 s (.inr r) h)
  (fun r => by intro hx; cases hx) h
def qcw_ (n : Nat) (a0 : NL) (a1 : Int) (a2 : Int) : Option (NL) :=
 if (((a0).l.length : Nat) : Int) = (0 : Int) then
  some nl0
 else
  if 0 ≤ (((a0).l.length : Nat) : Int) then
   if ((((a0).l.length : Nat) : Int)).toNat * 8 ≤ 140737488355328 then
    (qgl_ n [a1] [a2] (((((a0).l.length : Nat) : Int)).toNat) a0 (((a0).l.length : Nat) : Int) ((List.replicate ((((a0).l.length : Nat) : Int)).toNat (0 : Int)), 0)).bind fun c4_ =>
    if (((((a0).l.length : Nat) : Int)).toNat) = c4_.length then
     if hc6 : c4_.length ≤ 9223372036854775807 then
      some (frzL c4_ hc6)
     else none
    else none
   else none
  else none
theorem qln_ (n : Nat) (a0 : NL) (a1 : Int) (a2 : Int) (r : NL) (h : qcw_ n a0 a1 a2 = some r) : Gv P (.func 66) (qho_ a0 a1 a2) (qhp_ a0 a1 a2) (qhq_ a0 a1 a2 r) (qfc_ a0 a1 a2 r) := by
 unfold qcw_ at h
 by_cases hc1 : (((a0).l.length : Nat) : Int) = (0 : Int)
 ·rw [if_pos hc1] at h
  obtain rfl := oI h
  exact runF2 hm ⟨[4], [], 2, 2, [], true, [], [], [4]⟩ (zz 6 (xeT hc1) <|
   ee) (by kernel_rfl)
 ·rw [if_neg hc1] at h
  obtain ⟨hc2, h⟩ := gd h
  obtain ⟨hc3, h⟩ := gd h
  obtain ⟨c4_, hc4, h⟩ := oB h
  obtain ⟨hc5, h⟩ := gd h
  obtain ⟨hc6, h⟩ := gdD h
  obtain rfl := oI h
  have k0_ : Gv P (.func 66) (qho_ a0 a1 a2) (qhp_ a0 a1 a2) (Value.slice (some ⟨Nat.add (2 * cod c4_ + 1) 64, 0, some 1⟩) (((((a0).l.length : Nat) : Int)).toNat) (Nat.add big (((((a0).l.length : Nat) : Int)).toNat))) (qfc_ a0 a1 a2 (frzL c4_ hc6)) := runF2 hm ⟨[4], [], 2, 2, [(2, Nat.add (2 * cod c4_ + 1) 64)], true, [], [], []⟩ (zz 6 (xeF hc1) <|
  yy 11 (.mk ((((a0).l.length : Nat) : Int)).toNat (iv (List.replicate ((((a0).l.length : Nat) : Int)).toNat (0 : Int)))) <|
  ww (p := natOf (i6 (((a0).l.length : Nat) : Int)) = some ((((a0).l.length : Nat) : Int)).toNat) (natOf_toNat hc2) <|
  ww (p := natOf (i6 (((a0).l.length : Nat) : Int)) = some ((((a0).l.length : Nat) : Int)).toNat) (natOf_toNat hc2) <|
  ww (p := fits ((((a0).l.length : Nat) : Int)).toNat 8 = true) (fits_ok hc3 (by omega)) <|
  ww (p := isZ8 [(i6 (0 : Int))] = false) (rfl) <|
  ww (p := reps [(i6 (0 : Int))] ((((a0).l.length : Nat) : Int)).toNat = (iv (List.replicate ((((a0).l.length : Nat) : Int)).toNat (0 : Int)))) (reps_iv _) <|
  ww (p := ql5_ none [a1] [a2] (((((a0).l.length : Nat) : Int)).toNat) a0 (((a0).l.length : Nat) : Int) ((List.replicate ((((a0).l.length : Nat) : Int)).toNat (0 : Int)), 0) c4_) (qkw_ n [a1] [a2] (((((a0).l.length : Nat) : Int)).toNat) a0 (((a0).l.length : Nat) : Int) ((List.replicate ((((a0).l.length : Nat) : Int)).toNat (0 : Int)), 0) c4_ hc4) <|
  ww (iv_flat (List.replicate ((((a0).l.length : Nat) : Int)).toNat (0 : Int)) 3) <|
  ll 19 ⟨⟨[1, 5, 14, 15, 16], [(0, 0, false), (1, 1, false), (2, 2, true)], 3, 2, [], false, [], [], []⟩, (qcv_ [a1] [a2] (((((a0).l.length : Nat) : Int)).toNat) a0 (((a0).l.length : Nat) : Int) c4_).1, (qcv_ [a1] [a2] (((((a0).l.length : Nat) : Int)).toNat) a0 (((a0).l.length : Nat) : Int) c4_).2⟩ <|
  ww (frz_ok qbs_ qd1_ c4_) <|
  ee) (by kernel_rfl)
  have k1_ := gvLen (fn := fun m_ => (Value.slice (some ⟨Nat.add (2 * cod c4_ + 1) 64, 0, some 1⟩) m_ (Nat.add big m_))) hc5 k0_
  exact k1_

def qnd_ (a0 : Int) (a1 : Int) (a2 : Int) (a3 : Int) (a4 : Int) (a5 : Int) (a6 : NL) (a7 : Int) (a8 : Int) (a9 : Int) : List Value := [(Value.agg #[(i6 a0), (i6 a1), (i6 a2), (i6 a3), (i6 a4), (i6 a5), (nlV a6), (Value.int .u64 a7)]), (Value.func (.func 55) #[] #[(pN 0 0), (pN 1 0)])]
def qne_ (a0 : Int) (a1 : Int) (a2 : Int) (a3 : Int) (a4 : Int) (a5 : Int) (a6 : NL) (a7 : Int) (a8 : Int) (a9 : Int) : AH := ⟨sB [(0, (some (.cells (layT [(i6 a8)]) 3))), (1, (some (.cells (layT [(i6 a9)]) 3)))], 2, 2⟩
def qk8_ (a0 : Int) (a1 : Int) (a2 : Int) (a3 : Int) (a4 : Int) (a5 : Int) (a6 : NL) (a7 : Int) (a8 : Int) (a9 : Int) (r : NL) : Value := match r with
 | o0 => (Value.agg #[(i6 a0), (i6 a1), (i6 a2), (i6 a3), (i6 a4), (i6 a5), (nlV o0), (Value.int .u64 a7)])
def qk9_ (a0 : Int) (a1 : Int) (a2 : Int) (a3 : Int) (a4 : Int) (a5 : Int) (a6 : NL) (a7 : Int) (a8 : Int) (a9 : Int) (r : NL) : AH := match r with
 | o0 => ⟨sB [(2, (some (.cells (layT [(i6 a0), (i6 a1), (i6 a2), (i6 a3), (i6 a4), (i6 a5), (nlV o0), (Value.int .u64 a7)]) 49)))], 3, 2⟩
abbrev G_treemovedq1 (a0 : Int) (a1 : Int) (a2 : Int) (a3 : Int) (a4 : Int) (a5 : Int) (a6 : NL) (a7 : Int) (a8 : Int) (a9 : Int) (r : NL) : Prop := Gv P (.func 57) (qnd_ a0 a1 a2 a3 a4 a5 a6 a7 a8 a9) (qne_ a0 a1 a2 a3 a4 a5 a6 a7 a8 a9) (qk8_ a0 a1 a2 a3 a4 a5 a6 a7 a8 a9 r) (qk9_ a0 a1 a2 a3 a4 a5 a6 a7 a8 a9 r)
abbrev qnf_ (a0 : Int) (a1 : Int) (a2 : Int) (a3 : Int) (a4 : Int) (a5 : Int) (a6 : NL) (a7 : Int) (a8 : Int) (a9 : Int) (r : NL) (ins outs : BL) : CallA := ⟨2, ins, qk8_ a0 a1 a2 a3 a4 a5 a6 a7 a8 a9 r, qk9_ a0 a1 a2 a3 a4 a5 a6 a7 a8 a9 r, outs⟩
def qgu_ (n : Nat) (a0 : Int) (a1 : Int) (a2 : Int) (a3 : Int) (a4 : Int) (a5 : Int) (a6 : NL) (a7 : Int) (a8 : Int) (a9 : Int) : Option (NL) :=
 (qcw_ n a6 a8 a9).bind fun c1_ =>
 some c1_
theorem qla_ (n : Nat) (a0 : Int) (a1 : Int) (a2 : Int) (a3 : Int) (a4 : Int) (a5 : Int) (a6 : NL) (a7 : Int) (a8 : Int) (a9 : Int) (r : NL) (h : qgu_ n a0 a1 a2 a3 a4 a5 a6 a7 a8 a9 = some r) : Gv P (.func 57) (qnd_ a0 a1 a2 a3 a4 a5 a6 a7 a8 a9) (qne_ a0 a1 a2 a3 a4 a5 a6 a7 a8 a9) (qk8_ a0 a1 a2 a3 a4 a5 a6 a7 a8 a9 r) (qk9_ a0 a1 a2 a3 a4 a5 a6 a7 a8 a9 r) := by
 unfold qgu_ at h
 obtain ⟨c1_, hc1, h⟩ := oB h
 obtain rfl := oI h
 exact runF2 hm ⟨[4], [(2, 3, false)], 3, 2, [], false, [], [], []⟩ (yy 7 (.call (qmv_ a6 a8 a9 c1_ [(0, 0, false), (1, 1, false)] [])) <|
  ww (qln_ n a6 a8 a9 c1_ hc1) <|
  ee) (by kernel_rfl)

def qn2_ (a0 : Int) (a1 : Int) : List Value := [(i6 a0), (pN 0 0)]
def qn3_ (a0 : Int) (a1 : Int) : AH := ⟨sB [(0, (some (.cells (layT [(i6 a1)]) 3)))], 1, 1⟩
def ql6_ (a0 : Int) (a1 : Int) (r : Unit) : Value := match r with
 | _ => (i6 (w64 (a0 + a1)))
def ql7_ (a0 : Int) (a1 : Int) (r : Unit) : AH := match r with
 | _ => ⟨sB [], 1, 1⟩
abbrev G_treePut2q1 (a0 : Int) (a1 : Int) (r : Unit) : Prop := Gv P (.func 56) (qn2_ a0 a1) (qn3_ a0 a1) (ql6_ a0 a1 r) (ql7_ a0 a1 r)
abbrev C_treePut2q1 (a0 : Int) (a1 : Int) (r : Unit) (ins outs : BL) : CallA := ⟨1, ins, ql6_ a0 a1 r, ql7_ a0 a1 r, outs⟩
def qn4_ (n : Nat) (a0 : Int) (a1 : Int) : Option (Unit) :=
 some ()
theorem m_treePut2q1_ok (n : Nat) (a0 : Int) (a1 : Int) (r : Unit) (h : qn4_ n a0 a1 = some r) : Gv P (.func 56) (qn2_ a0 a1) (qn3_ a0 a1) (ql6_ a0 a1 r) (ql7_ a0 a1 r) := by
 unfold qn4_ at h
 obtain rfl := oI h
 exact runF2 hm ⟨[3], [], 1, 1, [], false, [], [], []⟩ (ee) (by kernel_rfl)

def qn5_ (a0 : Int) (a1 : List Int) : List Value := [(i6 a0), (pN 0 0)]
def qn6_ (a0 : Int) (a1 : List Int) : AH := ⟨sB [(0, (some (.cells (layT (iv a1)) 3)))], 1, 1⟩
def ql8_ (a0 : Int) (a1 : List Int) (r : Int) : Value := match r with
 | o0 => (i6 o0)
def ql9_ (a0 : Int) (a1 : List Int) (r : Int) : AH := match r with
 | o0 => ⟨sB [], 1, 1⟩
abbrev G_treePut2q2 (a0 : Int) (a1 : List Int) (r : Int) : Prop := Gv P (.func 56) (qn5_ a0 a1) (qn6_ a0 a1) (ql8_ a0 a1 r) (ql9_ a0 a1 r)
abbrev C_treePut2q2 (a0 : Int) (a1 : List Int) (r : Int) (ins outs : BL) : CallA := ⟨1, ins, ql8_ a0 a1 r, ql9_ a0 a1 r, outs⟩
def qi5_ (n : Nat) (a0 : Int) (a1 : List Int) : Option (Int) :=
 if 0 < (a1).length then
  ((some ((a1).getD 0 0))).bind fun c2_ =>
  some (w64 (a0 + c2_))
 else none
theorem qoi_ (n : Nat) (a0 : Int) (a1 : List Int) (r : Int) (h : qi5_ n a0 a1 = some r) : Gv P (.func 56) (qn5_ a0 a1) (qn6_ a0 a1) (ql8_ a0 a1 r) (ql9_ a0 a1 r) := by
 unfold qi5_ at h
 obtain ⟨hc1, h⟩ := gd h
 obtain ⟨c2_, hc2, h⟩ := oB h
 obtain rfl := oI h
 exact runF2 hm ⟨[3], [], 1, 1, [], false, [], [], []⟩ (zz 4 (xivN hc2 (hc1)) <|
  ee) (by kernel_rfl)

def qhr_ (a0 : NL) (a1 : Int) : List Value := [(nlV a0), (Value.func (.func 56) #[] #[(pN 0 0)])]
def qhs_ (a0 : NL) (a1 : Int) : AH := ⟨sB [(0, (some (.cells (layT [(i6 a1)]) 3)))], 1, 1⟩
def qht_ (a0 : NL) (a1 : Int) (r : NL) : Value := match r with
 | o0 => (nlV o0)
def qfd_ (a0 : NL) (a1 : Int) (r : NL) : AH := match r with
 | o0 => ⟨sB [], 1, 1⟩
abbrev G_treeeachintintq2 (a0 : NL) (a1 : Int) (r : NL) : Prop := Gv P (.func 66) (qhr_ a0 a1) (qhs_ a0 a1) (qht_ a0 a1 r) (qfd_ a0 a1 r)
abbrev qmw_ (a0 : NL) (a1 : Int) (r : NL) (ins outs : BL) : CallA := ⟨1, ins, qht_ a0 a1 r, qfd_ a0 a1 r, outs⟩
def qcx_ (x1_0 : List Int) (x1_2 : Nat) (x1_3 : NL) (x1_4 : Int) (st : List Int × Int) : XSt := match st with
 | (x1_1, x1_5) => (sT 29 [(1, (Value.func (.func 56) #[] #[(pN 0 0)])), (5, (sN 1 0 x1_2 x1_2)), (14, (nlV x1_3)), (15, (i6 x1_4)), (16, (i6 x1_5))], [], ⟨sB [(0, (some (.cells (layT (iv x1_0)) 3))), (1, (some (.cells (layT (iv x1_1)) 3)))], 2, 1⟩)
def qcy_ (x1_0 : List Int) (x1_2 : Nat) (x1_3 : NL) (x1_4 : Int) (r : List Int) : Ex × XSt := match r with
 | z1_0 => (.exit 0, (sT 29 [(5, (sN 1 0 x1_2 x1_2))], [], ⟨sB [(0, (some (.cells (layT (iv x1_0)) 3))), (1, (some (.cells (layT (iv z1_0)) 3)))], 2, 1⟩))
abbrev Q_treeeachintintq2_1 (rnd : Option Nat) (x1_0 : List Int) (x1_2 : Nat) (x1_3 : NL) (x1_4 : Int) (st : List Int × Int) (c : Ex × XSt) : Prop := CG P rnd (fnN P 66) 1 (codeOf P 66 [false, false, true, false, true, true, true]) (qcx_ x1_0 x1_2 x1_3 x1_4 st) c
abbrev qma_ (rd : Option Nat) (x1_0 : List Int) (x1_2 : Nat) (x1_3 : NL) (x1_4 : Int) (st : List Int × Int) (r : List Int) : Prop := CG P rd (fnN P 66) 1 (codeOf P 66 [false, true, false, true, true, true]) (qcx_ x1_0 x1_2 x1_3 x1_4 st) (qcy_ x1_0 x1_2 x1_3 x1_4 r)
def qb2_ (n : Nat) (x1_0 : List Int) (x1_2 : Nat) (x1_3 : NL) (x1_4 : Int) (st : List Int × Int) : Option ((List Int × Int) ⊕ (List Int)) := match st with
 | (x1_1, x1_5) =>
  if x1_5 < x1_4 then
   if 0 ≤ x1_5 ∧ x1_5 < (((x1_3).l.length : Nat) : Int) then
    if (x1_5).toNat < ((x1_3).l).length then
     ((some (((x1_3).l).getD (x1_5).toNat 0))).bind fun y1_4_ =>
     (qi5_ n y1_4_ x1_0).bind fun y1_5_ =>
     if 0 ≤ x1_5 ∧ x1_5 < ((x1_2 : Nat) : Int) then
      if (x1_5).toNat < (x1_1).length then
       some (.inl (((x1_1).set (x1_5).toNat y1_5_), (w64 (x1_5 + (1 : Int)))))
      else none
     else none
    else none
   else none
  else
   some (.inr x1_1)
def qgm_ (n : Nat) (x1_0 : List Int) (x1_2 : Nat) (x1_3 : NL) (x1_4 : Int) (st : List Int × Int) : Option (List Int) := iterM (qb2_ n x1_0 x1_2 x1_3 x1_4) n st
theorem qi6_ (n : Nat) {rnd : Option Nat} (x1_0 : List Int) (x1_2 : Nat) (x1_3 : NL) (x1_4 : Int) (st : List Int × Int) (o : (List Int × Int) ⊕ (List Int)) (h : qb2_ n x1_0 x1_2 x1_3 x1_4 st = some o) : CG P rnd (fnN P 66) 1 (codeOf P 66 [false, false, true, false, true, true, true]) (qcx_ x1_0 x1_2 x1_3 x1_4 st) (Sum.elim (fun s => (.normal, qcx_ x1_0 x1_2 x1_3 x1_4 s)) (fun r => qcy_ x1_0 x1_2 x1_3 x1_4 r) o) := by
 obtain ⟨x1_1, x1_5⟩ := st
 unfold qb2_ at h
 dsimp only at h
 by_cases hy1_1 : x1_5 < x1_4
 ·rw [if_pos hy1_1] at h
  obtain ⟨hy1_2, h⟩ := gd h
  obtain ⟨hy1_3, h⟩ := gd h
  obtain ⟨y1_4_, hy1_4, h⟩ := oB h
  obtain ⟨y1_5_, hy1_5, h⟩ := oB h
  obtain ⟨hy1_6, h⟩ := gd h
  obtain ⟨hy1_7, h⟩ := gd h
  obtain rfl := oI h
  exact runC2 hm ⟨[1, 5, 14, 15, 16], [(0, 0, true), (1, 1, true)], 2, 1, [], false, [], [], []⟩ (zz 1 (xdT hy1_1) <|
   zz 8 (xk9 (Nat.add (x1_3).num 64) (x1_3).off (x1_3).cap hy1_2) <|
   zz 9 (nk10 hy1_4 hy1_3) <|
   yy 16 (.call (C_treePut2q2 y1_4_ x1_0 y1_5_ [(0, 0, true)] [])) <|
   ww (qoi_ n y1_4_ x1_0 y1_5_ hy1_5) <|
   ww (iv_flat x1_0 3) <|
   zz 17 (xk18 1 x1_2 hy1_6) <|
   yy 18 (.sto (layT (iv ((x1_1).set (x1_5).toNat y1_5_)))) <|
   ww (p := ∃ old, rdT (layT (iv x1_1)) 1 (x1_5).toNat = some old) (Exists.elim (iv_st (x1_1) ((x1_5).toNat) (y1_5_) hy1_7) fun o h => ⟨o, h.1⟩) <|
   ww (p := layL [(i6 y1_5_)] (x1_5).toNat (layT (iv x1_1)) = layT (iv ((x1_1).set (x1_5).toNat y1_5_))) (Exists.elim (iv_st (x1_1) ((x1_5).toNat) (y1_5_) hy1_7) fun o h => h.2) <|
   ww (iv_flat x1_0 3) <|
   ww (iv_flat ((x1_1).set (x1_5).toNat y1_5_) 3) <|
   ee) (by kernel_rfl)
 ·rw [if_neg hy1_1] at h
  obtain rfl := oI h
  exact runC2 hm ⟨[5], [(0, 0, true), (1, 1, true)], 2, 1, [], false, [], [], []⟩ (zz 1 (xdF hy1_1) <|
   ww (iv_flat x1_0 3) <|
   ww (iv_flat x1_1 3) <|
   ee) (by kernel_rfl)
theorem qkx_ (n : Nat) {rnd : Option Nat} (x1_0 : List Int) (x1_2 : Nat) (x1_3 : NL) (x1_4 : Int) (st : List Int × Int) (r : List Int) (h : qgm_ n x1_0 x1_2 x1_3 x1_4 st = some r) : CG P rnd (fnN P 66) 1 (codeOf P 66 [false, true, false, true, true, true]) (qcx_ x1_0 x1_2 x1_3 x1_4 st) (qcy_ x1_0 x1_2 x1_3 x1_4 r) :=
 CG.iter (b := codeOf P 66 [false, false, true, false, true, true, true]) (by kernel_rfl) (body := qb2_ n x1_0 x1_2 x1_3 x1_4) (S := qcx_ x1_0 x1_2 x1_3 x1_4) (X := qcy_ x1_0 x1_2 x1_3 x1_4)
  (fun s s' h => qi6_ n x1_0 x1_2 x1_3 x1_4 s (.inl s') h)
  (fun s r h => qi6_ n x1_0 x1_2 x1_3 x1_4 s (.inr r) h)
  (fun r => by intro hx; cases hx) h
def qdg_ (n : Nat) (a0 : NL) (a1 : Int) : Option (NL) :=
 if (((a0).l.length : Nat) : Int) = (0 : Int) then
  some nl0
 else
  if 0 ≤ (((a0).l.length : Nat) : Int) then
   if ((((a0).l.length : Nat) : Int)).toNat * 8 ≤ 140737488355328 then
    (qgm_ n [a1] (((((a0).l.length : Nat) : Int)).toNat) a0 (((a0).l.length : Nat) : Int) ((List.replicate ((((a0).l.length : Nat) : Int)).toNat (0 : Int)), 0)).bind fun c4_ =>
    if (((((a0).l.length : Nat) : Int)).toNat) = c4_.length then
     if hc6 : c4_.length ≤ 9223372036854775807 then
      some (frzL c4_ hc6)
     else none
    else none
   else none
  else none
theorem qlo_ (n : Nat) (a0 : NL) (a1 : Int) (r : NL) (h : qdg_ n a0 a1 = some r) : Gv P (.func 66) (qhr_ a0 a1) (qhs_ a0 a1) (qht_ a0 a1 r) (qfd_ a0 a1 r) := by
 unfold qdg_ at h
 by_cases hc1 : (((a0).l.length : Nat) : Int) = (0 : Int)
 ·rw [if_pos hc1] at h
  obtain rfl := oI h
  exact runF2 hm ⟨[4], [], 1, 1, [], true, [], [], [4]⟩ (zz 6 (xeT hc1) <|
   ee) (by kernel_rfl)
 ·rw [if_neg hc1] at h
  obtain ⟨hc2, h⟩ := gd h
  obtain ⟨hc3, h⟩ := gd h
  obtain ⟨c4_, hc4, h⟩ := oB h
  obtain ⟨hc5, h⟩ := gd h
  obtain ⟨hc6, h⟩ := gdD h
  obtain rfl := oI h
  have k0_ : Gv P (.func 66) (qhr_ a0 a1) (qhs_ a0 a1) (Value.slice (some ⟨Nat.add (2 * cod c4_ + 1) 64, 0, some 1⟩) (((((a0).l.length : Nat) : Int)).toNat) (Nat.add big (((((a0).l.length : Nat) : Int)).toNat))) (qfd_ a0 a1 (frzL c4_ hc6)) := runF2 hm ⟨[4], [], 1, 1, [(1, Nat.add (2 * cod c4_ + 1) 64)], true, [], [], []⟩ (zz 6 (xeF hc1) <|
  yy 11 (.mk ((((a0).l.length : Nat) : Int)).toNat (iv (List.replicate ((((a0).l.length : Nat) : Int)).toNat (0 : Int)))) <|
  ww (p := natOf (i6 (((a0).l.length : Nat) : Int)) = some ((((a0).l.length : Nat) : Int)).toNat) (natOf_toNat hc2) <|
  ww (p := natOf (i6 (((a0).l.length : Nat) : Int)) = some ((((a0).l.length : Nat) : Int)).toNat) (natOf_toNat hc2) <|
  ww (p := fits ((((a0).l.length : Nat) : Int)).toNat 8 = true) (fits_ok hc3 (by omega)) <|
  ww (p := isZ8 [(i6 (0 : Int))] = false) (rfl) <|
  ww (p := reps [(i6 (0 : Int))] ((((a0).l.length : Nat) : Int)).toNat = (iv (List.replicate ((((a0).l.length : Nat) : Int)).toNat (0 : Int)))) (reps_iv _) <|
  ww (p := qma_ none [a1] (((((a0).l.length : Nat) : Int)).toNat) a0 (((a0).l.length : Nat) : Int) ((List.replicate ((((a0).l.length : Nat) : Int)).toNat (0 : Int)), 0) c4_) (qkx_ n [a1] (((((a0).l.length : Nat) : Int)).toNat) a0 (((a0).l.length : Nat) : Int) ((List.replicate ((((a0).l.length : Nat) : Int)).toNat (0 : Int)), 0) c4_ hc4) <|
  ww (iv_flat (List.replicate ((((a0).l.length : Nat) : Int)).toNat (0 : Int)) 3) <|
  ll 19 ⟨⟨[1, 5, 14, 15, 16], [(0, 0, false), (1, 1, true)], 2, 1, [], false, [], [], []⟩, (qcy_ [a1] (((((a0).l.length : Nat) : Int)).toNat) a0 (((a0).l.length : Nat) : Int) c4_).1, (qcy_ [a1] (((((a0).l.length : Nat) : Int)).toNat) a0 (((a0).l.length : Nat) : Int) c4_).2⟩ <|
  ww (frz_ok qbs_ qd1_ c4_) <|
  ee) (by kernel_rfl)
  have k1_ := gvLen (fn := fun m_ => (Value.slice (some ⟨Nat.add (2 * cod c4_ + 1) 64, 0, some 1⟩) m_ (Nat.add big m_))) hc5 k0_
  exact k1_

def qng_ (a0 : Int) (a1 : Int) (a2 : Int) (a3 : Int) (a4 : Int) (a5 : Int) (a6 : NL) (a7 : Int) (a8 : Int) : List Value := [(Value.agg #[(i6 a0), (i6 a1), (i6 a2), (i6 a3), (i6 a4), (i6 a5), (nlV a6), (Value.int .u64 a7)]), (Value.func (.func 56) #[] #[(pN 0 0)])]
def qnh_ (a0 : Int) (a1 : Int) (a2 : Int) (a3 : Int) (a4 : Int) (a5 : Int) (a6 : NL) (a7 : Int) (a8 : Int) : AH := ⟨sB [(0, (some (.cells (layT [(i6 a8)]) 3)))], 1, 1⟩
def qlb_ (a0 : Int) (a1 : Int) (a2 : Int) (a3 : Int) (a4 : Int) (a5 : Int) (a6 : NL) (a7 : Int) (a8 : Int) (r : NL) : Value := match r with
 | o0 => (Value.agg #[(i6 a0), (i6 a1), (i6 a2), (i6 a3), (i6 a4), (i6 a5), (nlV o0), (Value.int .u64 a7)])
def qlc_ (a0 : Int) (a1 : Int) (a2 : Int) (a3 : Int) (a4 : Int) (a5 : Int) (a6 : NL) (a7 : Int) (a8 : Int) (r : NL) : AH := match r with
 | o0 => ⟨sB [(1, (some (.cells (layT [(i6 a0), (i6 a1), (i6 a2), (i6 a3), (i6 a4), (i6 a5), (nlV o0), (Value.int .u64 a7)]) 49)))], 2, 1⟩
abbrev G_treemovedq2 (a0 : Int) (a1 : Int) (a2 : Int) (a3 : Int) (a4 : Int) (a5 : Int) (a6 : NL) (a7 : Int) (a8 : Int) (r : NL) : Prop := Gv P (.func 57) (qng_ a0 a1 a2 a3 a4 a5 a6 a7 a8) (qnh_ a0 a1 a2 a3 a4 a5 a6 a7 a8) (qlb_ a0 a1 a2 a3 a4 a5 a6 a7 a8 r) (qlc_ a0 a1 a2 a3 a4 a5 a6 a7 a8 r)
abbrev C_treemovedq2 (a0 : Int) (a1 : Int) (a2 : Int) (a3 : Int) (a4 : Int) (a5 : Int) (a6 : NL) (a7 : Int) (a8 : Int) (r : NL) (ins outs : BL) : CallA := ⟨1, ins, qlb_ a0 a1 a2 a3 a4 a5 a6 a7 a8 r, qlc_ a0 a1 a2 a3 a4 a5 a6 a7 a8 r, outs⟩
def qjs_ (n : Nat) (a0 : Int) (a1 : Int) (a2 : Int) (a3 : Int) (a4 : Int) (a5 : Int) (a6 : NL) (a7 : Int) (a8 : Int) : Option (NL) :=
 (qdg_ n a6 a8).bind fun c1_ =>
 some c1_
theorem qn7_ (n : Nat) (a0 : Int) (a1 : Int) (a2 : Int) (a3 : Int) (a4 : Int) (a5 : Int) (a6 : NL) (a7 : Int) (a8 : Int) (r : NL) (h : qjs_ n a0 a1 a2 a3 a4 a5 a6 a7 a8 = some r) : Gv P (.func 57) (qng_ a0 a1 a2 a3 a4 a5 a6 a7 a8) (qnh_ a0 a1 a2 a3 a4 a5 a6 a7 a8) (qlb_ a0 a1 a2 a3 a4 a5 a6 a7 a8 r) (qlc_ a0 a1 a2 a3 a4 a5 a6 a7 a8 r) := by
 unfold qjs_ at h
 obtain ⟨c1_, hc1, h⟩ := oB h
 obtain rfl := oI h
 exact runF2 hm ⟨[4], [(1, 2, false)], 2, 1, [], false, [], [], []⟩ (yy 7 (.call (qmw_ a6 a8 c1_ [(0, 0, false)] [])) <|
  ww (qlo_ n a6 a8 c1_ hc1) <|
  ee) (by kernel_rfl)

def qoo_ (a0 : WL rw_iiiiiiLu) (a1 : Int) (a2 : WL rw_iiiiiiLu) : List Value := [(wlV a0), (i6 a1), (wlV a2)]
def qop_ (a0 : WL rw_iiiiiiLu) (a1 : Int) (a2 : WL rw_iiiiiiLu) : AH := ⟨sB [], 0, 0⟩
def qmx_ (a0 : WL rw_iiiiiiLu) (a1 : Int) (a2 : WL rw_iiiiiiLu) (r : (Int) ⊕ (List R8)) : Value := match r with
 | .inl o0 => (Value.tuple #[(Value.slice none 0 0), (i6 o0)])
 | .inr o0 => (Value.tuple #[(sN 0 0 (o0).length (Nat.add big 8)), (i6 (0 : Int))])
def qmy_ (a0 : WL rw_iiiiiiLu) (a1 : Int) (a2 : WL rw_iiiiiiLu) (r : (Int) ⊕ (List R8)) : AH := match r with
 | .inl o0 => ⟨sB [], 0, 0⟩
 | .inr o0 => ⟨sB [(0, (some (.cells (layT (rows rw_iiiiiiLu o0)) 49)))], 1, 0⟩
abbrev G_treePutq1 (a0 : WL rw_iiiiiiLu) (a1 : Int) (a2 : WL rw_iiiiiiLu) (r : (Int) ⊕ (List R8)) : Prop := Gv P (.func 33) (qoo_ a0 a1 a2) (qop_ a0 a1 a2) (qmx_ a0 a1 a2 r) (qmy_ a0 a1 a2 r)
abbrev qoq_ (a0 : WL rw_iiiiiiLu) (a1 : Int) (a2 : WL rw_iiiiiiLu) (r : (Int) ⊕ (List R8)) (ins outs : BL) : CallA := ⟨0, ins, qmx_ a0 a1 a2 r, qmy_ a0 a1 a2 r, outs⟩
def qgv_ (x3_0 : Int) (x3_1 : Int) (x3_3 : WL rw_iiiiiiLu) (x3_4 : Int) (st : List R8 × Int) : XSt := match st with
 | (x3_2, x3_5) => (sT 115 [(12, (Value.func (.func 55) #[] #[(pN 0 0), (pN 1 0)])), (14, (sN 2 0 (x3_2).length (Nat.add big 8))), (101, (wlV x3_3)), (102, (i6 x3_4)), (103, (i6 x3_5))], [], ⟨sB [(0, (some (.cells (layT [(i6 x3_0)]) 3))), (1, (some (.cells (layT [(i6 x3_1)]) 3))), (2, (some (.cells (layT (rows rw_iiiiiiLu x3_2)) 49)))], 3, 0⟩)
def qgw_ (x3_0 : Int) (x3_1 : Int) (x3_3 : WL rw_iiiiiiLu) (x3_4 : Int) (r : List R8) : Ex × XSt := match r with
 | z3_0 => (.exit 4, (sT 115 [(14, (sN 0 0 (z3_0).length (Nat.add big 8)))], [], ⟨sB [(0, (some (.cells (layT (rows rw_iiiiiiLu z3_0)) 49)))], 1, 0⟩))
abbrev Q_treePutq1_3 (rnd : Option Nat) (x3_0 : Int) (x3_1 : Int) (x3_3 : WL rw_iiiiiiLu) (x3_4 : Int) (st : List R8 × Int) (c : Ex × XSt) : Prop := CG P rnd (fnN P 33) 0 (codeOf P 33 [false, false, true, false, true, true, true, true, true, true, true, true, true, true, true, true]) (qgv_ x3_0 x3_1 x3_3 x3_4 st) c
abbrev U_treePutq1_3 (rd : Option Nat) (x3_0 : Int) (x3_1 : Int) (x3_3 : WL rw_iiiiiiLu) (x3_4 : Int) (st : List R8 × Int) (r : List R8) : Prop := CG P rd (fnN P 33) 0 (codeOf P 33 [false, true, false, true, true, true, true, true, true, true, true, true, true, true, true]) (qgv_ x3_0 x3_1 x3_3 x3_4 st) (qgw_ x3_0 x3_1 x3_3 x3_4 r)
def qe0_ (n : Nat) (x3_0 : Int) (x3_1 : Int) (x3_3 : WL rw_iiiiiiLu) (x3_4 : Int) (st : List R8 × Int) : Option ((List R8 × Int) ⊕ (List R8)) := match st with
 | (x3_2, x3_5) =>
  if x3_5 < x3_4 then
   if 0 ≤ x3_5 ∧ x3_5 < (((x3_3).l.length : Nat) : Int) then
    ((some (((x3_3).l).getD (x3_5).toNat (0, 0, 0, 0, 0, 0, nl0, 0)))).bind fun y3_3_ =>
    (qgu_ n (y3_3_.1) (y3_3_.2.1) (y3_3_.2.2.1) (y3_3_.2.2.2.1) (y3_3_.2.2.2.2.1) (y3_3_.2.2.2.2.2.1) (y3_3_.2.2.2.2.2.2.1) (y3_3_.2.2.2.2.2.2.2) x3_0 x3_1).bind fun y3_4_ =>
    if ((x3_2).length + 1) * 80 ≤ 140737488355328 then
     some (.inl ((x3_2 ++ [((y3_3_.1), (y3_3_.2.1), (y3_3_.2.2.1), (y3_3_.2.2.2.1), (y3_3_.2.2.2.2.1), (y3_3_.2.2.2.2.2.1), y3_4_, (y3_3_.2.2.2.2.2.2.2))]), (w64 (x3_5 + (1 : Int)))))
    else none
   else none
  else
   some (.inr x3_2)
def qld_ (n : Nat) (x3_0 : Int) (x3_1 : Int) (x3_3 : WL rw_iiiiiiLu) (x3_4 : Int) (st : List R8 × Int) : Option (List R8) := iterM (qe0_ n x3_0 x3_1 x3_3 x3_4) n st
theorem qni_ (n : Nat) {rnd : Option Nat} (x3_0 : Int) (x3_1 : Int) (x3_3 : WL rw_iiiiiiLu) (x3_4 : Int) (st : List R8 × Int) (o : (List R8 × Int) ⊕ (List R8)) (h : qe0_ n x3_0 x3_1 x3_3 x3_4 st = some o) : CG P rnd (fnN P 33) 0 (codeOf P 33 [false, false, true, false, true, true, true, true, true, true, true, true, true, true, true, true]) (qgv_ x3_0 x3_1 x3_3 x3_4 st) (Sum.elim (fun s => (.normal, qgv_ x3_0 x3_1 x3_3 x3_4 s)) (fun r => qgw_ x3_0 x3_1 x3_3 x3_4 r) o) := by
 obtain ⟨x3_2, x3_5⟩ := st
 unfold qe0_ at h
 dsimp only at h
 by_cases hy3_1 : x3_5 < x3_4
 ·rw [if_pos hy3_1] at h
  obtain ⟨hy3_2, h⟩ := gd h
  obtain ⟨y3_3_, hy3_3, h⟩ := oB h
  obtain ⟨y3_4_, hy3_4, h⟩ := oB h
  obtain ⟨hy3_5, h⟩ := gd h
  obtain rfl := oI h
  exact runC2 hm ⟨[12, 14, 101, 102, 103], [(0, 0, false), (1, 1, false), (2, 6, true)], 3, 0, [], false, [], [], []⟩ (zz 1 (xdT hy3_1) <|
   zz 7 (xk1 (x3_3).num (x3_3).off (x3_3).cap hy3_2) <|
   zz 8 (lk2 hy3_3 (toNatLt hy3_2)) <|
   yy 14 (.call (qnf_ (y3_3_.1) (y3_3_.2.1) (y3_3_.2.2.1) (y3_3_.2.2.2.1) (y3_3_.2.2.2.2.1) (y3_3_.2.2.2.2.2.1) (y3_3_.2.2.2.2.2.2.1) (y3_3_.2.2.2.2.2.2.2) x3_0 x3_1 y3_4_ [(0, 0, false), (1, 1, false)] [(4, 2, false)])) <|
   ww (qla_ n (y3_3_.1) (y3_3_.2.1) (y3_3_.2.2.1) (y3_3_.2.2.2.1) (y3_3_.2.2.2.2.1) (y3_3_.2.2.2.2.2.1) (y3_3_.2.2.2.2.2.2.1) (y3_3_.2.2.2.2.2.2.2) x3_0 x3_1 y3_4_ hy3_4) <|
   yy 16 (.app ⟨none, rows rw_iiiiiiLu x3_2, (rows rw_iiiiiiLu (x3_2 ++ [((y3_3_.1), (y3_3_.2.1), (y3_3_.2.2.1), (y3_3_.2.2.2.1), (y3_3_.2.2.2.2.1), (y3_3_.2.2.2.2.2.1), y3_4_, (y3_3_.2.2.2.2.2.2.2))])), ((x3_2 ++ [((y3_3_.1), (y3_3_.2.1), (y3_3_.2.2.1), (y3_3_.2.2.2.1), (y3_3_.2.2.2.2.1), (y3_3_.2.2.2.2.2.1), y3_4_, (y3_3_.2.2.2.2.2.2.2))])).length, false⟩) <|
   ww (p := 0 < 1) ((by decide)) <|
   ww (p := rdT (layT (rows rw_iiiiiiLu x3_2)) (Nat.mul (x3_2).length 8) 0 = some (rows rw_iiiiiiLu x3_2)) (rows_rd rwf_iiiiiiLu _ _ rfl) <|
   ww (p := fits (Nat.add (x3_2).length 1) 80 = true) (fits_ok hy3_5 (by have := hy3_5; show (_ : Nat) + _ ≤ _; omega)) <|
   ww (p := allCells [(i6 (y3_3_.1)), (i6 (y3_3_.2.1)), (i6 (y3_3_.2.2.1)), (i6 (y3_3_.2.2.2.1)), (i6 (y3_3_.2.2.2.2.1)), (i6 (y3_3_.2.2.2.2.2.1)), (nlV y3_4_), (Value.int .u64 (y3_3_.2.2.2.2.2.2.2))] = true) (rfl) <|
   ww (p := allCells (rows rw_iiiiiiLu x3_2) = true) (rows_cells rwf_iiiiiiLu _) <|
   ww (p := rows rw_iiiiiiLu x3_2 ++ [(i6 (y3_3_.1)), (i6 (y3_3_.2.1)), (i6 (y3_3_.2.2.1)), (i6 (y3_3_.2.2.2.1)), (i6 (y3_3_.2.2.2.2.1)), (i6 (y3_3_.2.2.2.2.2.1)), (nlV y3_4_), (Value.int .u64 (y3_3_.2.2.2.2.2.2.2))] = (rows rw_iiiiiiLu (x3_2 ++ [((y3_3_.1), (y3_3_.2.1), (y3_3_.2.2.1), (y3_3_.2.2.2.1), (y3_3_.2.2.2.2.1), (y3_3_.2.2.2.2.2.1), y3_4_, (y3_3_.2.2.2.2.2.2.2))]))) (rows_app rw_iiiiiiLu x3_2 [((y3_3_.1), (y3_3_.2.1), (y3_3_.2.2.1), (y3_3_.2.2.2.1), (y3_3_.2.2.2.2.1), (y3_3_.2.2.2.2.2.1), y3_4_, (y3_3_.2.2.2.2.2.2.2))]) <|
   ww (p := Nat.add (x3_2).length 1 = ((x3_2 ++ [((y3_3_.1), (y3_3_.2.1), (y3_3_.2.2.1), (y3_3_.2.2.2.1), (y3_3_.2.2.2.2.1), (y3_3_.2.2.2.2.2.1), y3_4_, (y3_3_.2.2.2.2.2.2.2))])).length) (by simp) <|
   ww (rows_flat rwf_iiiiiiLu (x3_2 ++ [((y3_3_.1), (y3_3_.2.1), (y3_3_.2.2.1), (y3_3_.2.2.2.1), (y3_3_.2.2.2.2.1), (y3_3_.2.2.2.2.2.1), y3_4_, (y3_3_.2.2.2.2.2.2.2))]) 49) <|
   ee) (by kernel_rfl)
 ·rw [if_neg hy3_1] at h
  obtain rfl := oI h
  exact runC2 hm ⟨[14], [(0, 2, true)], 1, 0, [], false, [], [], []⟩ (zz 1 (xdF hy3_1) <|
   ww (rows_flat rwf_iiiiiiLu x3_2 49) <|
   ee) (by kernel_rfl)
theorem qn8_ (n : Nat) {rnd : Option Nat} (x3_0 : Int) (x3_1 : Int) (x3_3 : WL rw_iiiiiiLu) (x3_4 : Int) (st : List R8 × Int) (r : List R8) (h : qld_ n x3_0 x3_1 x3_3 x3_4 st = some r) : CG P rnd (fnN P 33) 0 (codeOf P 33 [false, true, false, true, true, true, true, true, true, true, true, true, true, true, true]) (qgv_ x3_0 x3_1 x3_3 x3_4 st) (qgw_ x3_0 x3_1 x3_3 x3_4 r) :=
 CG.iter (b := codeOf P 33 [false, false, true, false, true, true, true, true, true, true, true, true, true, true, true, true]) (by kernel_rfl) (body := qe0_ n x3_0 x3_1 x3_3 x3_4) (S := qgv_ x3_0 x3_1 x3_3 x3_4) (X := qgw_ x3_0 x3_1 x3_3 x3_4)
  (fun s s' h => qni_ n x3_0 x3_1 x3_3 x3_4 s (.inl s') h)
  (fun s r h => qni_ n x3_0 x3_1 x3_3 x3_4 s (.inr r) h)
  (fun r => by intro hx; cases hx) h
def qgx_ (x2_0 : WL rw_iiiiiiLu) (x2_1 : Int) (x2_2 : Int) (x2_3 : Int) (x2_5 : WL rw_iiiiiiLu) (x2_6 : Int) (st : List R8 × Int) : XSt := match st with
 | (x2_4, x2_7) => (sT 115 [(0, (wlV x2_0)), (10, (pN 0 0)), (12, (Value.func (.func 55) #[] #[(pN 0 0), (pN 1 0)])), (13, (Value.func (.func 56) #[] #[(pN 2 0)])), (14, (sN 3 0 (x2_4).length (Nat.add big 8))), (86, (wlV x2_5)), (87, (i6 x2_6)), (88, (i6 x2_7))], [], ⟨sB [(0, (some (.cells (layT [(i6 x2_1)]) 3))), (1, (some (.cells (layT [(i6 x2_2)]) 3))), (2, (some (.cells (layT [(i6 x2_3)]) 3))), (3, (some (.cells (layT (rows rw_iiiiiiLu x2_4)) 49)))], 4, 0⟩)
def qgy_ (x2_0 : WL rw_iiiiiiLu) (x2_1 : Int) (x2_2 : Int) (x2_3 : Int) (x2_5 : WL rw_iiiiiiLu) (x2_6 : Int) (r : List R8) : Ex × XSt := match r with
 | z2_0 => (.exit 2, (sT 115 [(0, (wlV x2_0)), (10, (pN 0 0)), (12, (Value.func (.func 55) #[] #[(pN 0 0), (pN 1 0)])), (14, (sN 2 0 (z2_0).length (Nat.add big 8)))], [], ⟨sB [(0, (some (.cells (layT [(i6 x2_1)]) 3))), (1, (some (.cells (layT [(i6 x2_2)]) 3))), (2, (some (.cells (layT (rows rw_iiiiiiLu z2_0)) 49)))], 3, 0⟩))
abbrev Q_treePutq1_2 (rnd : Option Nat) (x2_0 : WL rw_iiiiiiLu) (x2_1 : Int) (x2_2 : Int) (x2_3 : Int) (x2_5 : WL rw_iiiiiiLu) (x2_6 : Int) (st : List R8 × Int) (c : Ex × XSt) : Prop := CG P rnd (fnN P 33) 0 (codeOf P 33 [false, false, true, false, true, true, true, true, true, true, true, true, true, true, true]) (qgx_ x2_0 x2_1 x2_2 x2_3 x2_5 x2_6 st) c
abbrev U_treePutq1_2 (rd : Option Nat) (x2_0 : WL rw_iiiiiiLu) (x2_1 : Int) (x2_2 : Int) (x2_3 : Int) (x2_5 : WL rw_iiiiiiLu) (x2_6 : Int) (st : List R8 × Int) (r : List R8) : Prop := CG P rd (fnN P 33) 0 (codeOf P 33 [false, true, false, true, true, true, true, true, true, true, true, true, true, true]) (qgx_ x2_0 x2_1 x2_2 x2_3 x2_5 x2_6 st) (qgy_ x2_0 x2_1 x2_2 x2_3 x2_5 x2_6 r)
def qe1_ (n : Nat) (x2_0 : WL rw_iiiiiiLu) (x2_1 : Int) (x2_2 : Int) (x2_3 : Int) (x2_5 : WL rw_iiiiiiLu) (x2_6 : Int) (st : List R8 × Int) : Option ((List R8 × Int) ⊕ (List R8)) := match st with
 | (x2_4, x2_7) =>
  if x2_7 < x2_6 then
   if 0 ≤ x2_7 ∧ x2_7 < (((x2_5).l.length : Nat) : Int) then
    ((some (((x2_5).l).getD (x2_7).toNat (0, 0, 0, 0, 0, 0, nl0, 0)))).bind fun y2_3_ =>
    (qjs_ n (y2_3_.1) (y2_3_.2.1) (y2_3_.2.2.1) (y2_3_.2.2.2.1) (y2_3_.2.2.2.2.1) (y2_3_.2.2.2.2.2.1) (y2_3_.2.2.2.2.2.2.1) (y2_3_.2.2.2.2.2.2.2) x2_3).bind fun y2_4_ =>
    if ((x2_4).length + 1) * 80 ≤ 140737488355328 then
     some (.inl ((x2_4 ++ [((y2_3_.1), (y2_3_.2.1), (y2_3_.2.2.1), (y2_3_.2.2.2.1), (y2_3_.2.2.2.2.1), (y2_3_.2.2.2.2.2.1), y2_4_, (y2_3_.2.2.2.2.2.2.2))]), (w64 (x2_7 + (1 : Int)))))
    else none
   else none
  else
   some (.inr x2_4)
def qle_ (n : Nat) (x2_0 : WL rw_iiiiiiLu) (x2_1 : Int) (x2_2 : Int) (x2_3 : Int) (x2_5 : WL rw_iiiiiiLu) (x2_6 : Int) (st : List R8 × Int) : Option (List R8) := iterM (qe1_ n x2_0 x2_1 x2_2 x2_3 x2_5 x2_6) n st
theorem qnj_ (n : Nat) {rnd : Option Nat} (x2_0 : WL rw_iiiiiiLu) (x2_1 : Int) (x2_2 : Int) (x2_3 : Int) (x2_5 : WL rw_iiiiiiLu) (x2_6 : Int) (st : List R8 × Int) (o : (List R8 × Int) ⊕ (List R8)) (h : qe1_ n x2_0 x2_1 x2_2 x2_3 x2_5 x2_6 st = some o) : CG P rnd (fnN P 33) 0 (codeOf P 33 [false, false, true, false, true, true, true, true, true, true, true, true, true, true, true]) (qgx_ x2_0 x2_1 x2_2 x2_3 x2_5 x2_6 st) (Sum.elim (fun s => (.normal, qgx_ x2_0 x2_1 x2_2 x2_3 x2_5 x2_6 s)) (fun r => qgy_ x2_0 x2_1 x2_2 x2_3 x2_5 x2_6 r) o) := by
 obtain ⟨x2_4, x2_7⟩ := st
 unfold qe1_ at h
 dsimp only at h
 by_cases hy2_1 : x2_7 < x2_6
 ·rw [if_pos hy2_1] at h
  obtain ⟨hy2_2, h⟩ := gd h
  obtain ⟨y2_3_, hy2_3, h⟩ := oB h
  obtain ⟨y2_4_, hy2_4, h⟩ := oB h
  obtain ⟨hy2_5, h⟩ := gd h
  obtain rfl := oI h
  exact runC2 hm ⟨[0, 10, 12, 13, 14, 86, 87, 88], [(0, 0, false), (1, 1, false), (2, 2, false), (3, 7, true)], 4, 0, [], false, [], [], []⟩ (zz 1 (xdT hy2_1) <|
   zz 7 (xk1 (x2_5).num (x2_5).off (x2_5).cap hy2_2) <|
   zz 8 (lk2 hy2_3 (toNatLt hy2_2)) <|
   yy 14 (.call (C_treemovedq2 (y2_3_.1) (y2_3_.2.1) (y2_3_.2.2.1) (y2_3_.2.2.2.1) (y2_3_.2.2.2.2.1) (y2_3_.2.2.2.2.2.1) (y2_3_.2.2.2.2.2.2.1) (y2_3_.2.2.2.2.2.2.2) x2_3 y2_4_ [(0, 2, false)] [(5, 1, false)])) <|
   ww (qn7_ n (y2_3_.1) (y2_3_.2.1) (y2_3_.2.2.1) (y2_3_.2.2.2.1) (y2_3_.2.2.2.2.1) (y2_3_.2.2.2.2.2.1) (y2_3_.2.2.2.2.2.2.1) (y2_3_.2.2.2.2.2.2.2) x2_3 y2_4_ hy2_4) <|
   yy 16 (.app ⟨none, rows rw_iiiiiiLu x2_4, (rows rw_iiiiiiLu (x2_4 ++ [((y2_3_.1), (y2_3_.2.1), (y2_3_.2.2.1), (y2_3_.2.2.2.1), (y2_3_.2.2.2.2.1), (y2_3_.2.2.2.2.2.1), y2_4_, (y2_3_.2.2.2.2.2.2.2))])), ((x2_4 ++ [((y2_3_.1), (y2_3_.2.1), (y2_3_.2.2.1), (y2_3_.2.2.2.1), (y2_3_.2.2.2.2.1), (y2_3_.2.2.2.2.2.1), y2_4_, (y2_3_.2.2.2.2.2.2.2))])).length, false⟩) <|
   ww (p := 0 < 1) ((by decide)) <|
   ww (p := rdT (layT (rows rw_iiiiiiLu x2_4)) (Nat.mul (x2_4).length 8) 0 = some (rows rw_iiiiiiLu x2_4)) (rows_rd rwf_iiiiiiLu _ _ rfl) <|
   ww (p := fits (Nat.add (x2_4).length 1) 80 = true) (fits_ok hy2_5 (by have := hy2_5; show (_ : Nat) + _ ≤ _; omega)) <|
   ww (p := allCells [(i6 (y2_3_.1)), (i6 (y2_3_.2.1)), (i6 (y2_3_.2.2.1)), (i6 (y2_3_.2.2.2.1)), (i6 (y2_3_.2.2.2.2.1)), (i6 (y2_3_.2.2.2.2.2.1)), (nlV y2_4_), (Value.int .u64 (y2_3_.2.2.2.2.2.2.2))] = true) (rfl) <|
   ww (p := allCells (rows rw_iiiiiiLu x2_4) = true) (rows_cells rwf_iiiiiiLu _) <|
   ww (p := rows rw_iiiiiiLu x2_4 ++ [(i6 (y2_3_.1)), (i6 (y2_3_.2.1)), (i6 (y2_3_.2.2.1)), (i6 (y2_3_.2.2.2.1)), (i6 (y2_3_.2.2.2.2.1)), (i6 (y2_3_.2.2.2.2.2.1)), (nlV y2_4_), (Value.int .u64 (y2_3_.2.2.2.2.2.2.2))] = (rows rw_iiiiiiLu (x2_4 ++ [((y2_3_.1), (y2_3_.2.1), (y2_3_.2.2.1), (y2_3_.2.2.2.1), (y2_3_.2.2.2.2.1), (y2_3_.2.2.2.2.2.1), y2_4_, (y2_3_.2.2.2.2.2.2.2))]))) (rows_app rw_iiiiiiLu x2_4 [((y2_3_.1), (y2_3_.2.1), (y2_3_.2.2.1), (y2_3_.2.2.2.1), (y2_3_.2.2.2.2.1), (y2_3_.2.2.2.2.2.1), y2_4_, (y2_3_.2.2.2.2.2.2.2))]) <|
   ww (p := Nat.add (x2_4).length 1 = ((x2_4 ++ [((y2_3_.1), (y2_3_.2.1), (y2_3_.2.2.1), (y2_3_.2.2.2.1), (y2_3_.2.2.2.2.1), (y2_3_.2.2.2.2.2.1), y2_4_, (y2_3_.2.2.2.2.2.2.2))])).length) (by simp) <|
   ww (rows_flat rwf_iiiiiiLu (x2_4 ++ [((y2_3_.1), (y2_3_.2.1), (y2_3_.2.2.1), (y2_3_.2.2.2.1), (y2_3_.2.2.2.2.1), (y2_3_.2.2.2.2.2.1), y2_4_, (y2_3_.2.2.2.2.2.2.2))]) 49) <|
   ee) (by kernel_rfl)
 ·rw [if_neg hy2_1] at h
  obtain rfl := oI h
  exact runC2 hm ⟨[0, 10, 12, 14], [(0, 0, false), (1, 1, false), (2, 3, true)], 3, 0, [], false, [], [], []⟩ (zz 1 (xdF hy2_1) <|
   ww (rows_flat rwf_iiiiiiLu x2_4 49) <|
   ee) (by kernel_rfl)
theorem qn9_ (n : Nat) {rnd : Option Nat} (x2_0 : WL rw_iiiiiiLu) (x2_1 : Int) (x2_2 : Int) (x2_3 : Int) (x2_5 : WL rw_iiiiiiLu) (x2_6 : Int) (st : List R8 × Int) (r : List R8) (h : qle_ n x2_0 x2_1 x2_2 x2_3 x2_5 x2_6 st = some r) : CG P rnd (fnN P 33) 0 (codeOf P 33 [false, true, false, true, true, true, true, true, true, true, true, true, true, true]) (qgx_ x2_0 x2_1 x2_2 x2_3 x2_5 x2_6 st) (qgy_ x2_0 x2_1 x2_2 x2_3 x2_5 x2_6 r) :=
 CG.iter (b := codeOf P 33 [false, false, true, false, true, true, true, true, true, true, true, true, true, true, true]) (by kernel_rfl) (body := qe1_ n x2_0 x2_1 x2_2 x2_3 x2_5 x2_6) (S := qgx_ x2_0 x2_1 x2_2 x2_3 x2_5 x2_6) (X := qgy_ x2_0 x2_1 x2_2 x2_3 x2_5 x2_6)
  (fun s s' h => qnj_ n x2_0 x2_1 x2_2 x2_3 x2_5 x2_6 s (.inl s') h)
  (fun s r h => qnj_ n x2_0 x2_1 x2_2 x2_3 x2_5 x2_6 s (.inr r) h)
  (fun r => by intro hx; cases hx) h
def qgz_ (x1_0 : WL rw_iiiiiiLu) (x1_1 : WL rw_iiiiiiLu) (x1_2 : Int) (x1_3 : Int) (x1_4 : Int) (x1_6 : WL rw_iiiiiiLu) (x1_7 : Int) (st : List R8 × Int) : XSt := match st with
 | (x1_5, x1_8) => (sT 115 [(0, (wlV x1_0)), (2, (wlV x1_1)), (10, (pN 0 0)), (12, (Value.func (.func 55) #[] #[(pN 0 0), (pN 1 0)])), (13, (Value.func (.func 56) #[] #[(pN 2 0)])), (14, (sN 3 0 (x1_5).length (Nat.add big 8))), (73, (wlV x1_6)), (74, (i6 x1_7)), (75, (i6 x1_8))], [], ⟨sB [(0, (some (.cells (layT [(i6 x1_2)]) 3))), (1, (some (.cells (layT [(i6 x1_3)]) 3))), (2, (some (.cells (layT [(i6 x1_4)]) 3))), (3, (some (.cells (layT (rows rw_iiiiiiLu x1_5)) 49)))], 4, 0⟩)
def qg0_ (x1_0 : WL rw_iiiiiiLu) (x1_1 : WL rw_iiiiiiLu) (x1_2 : Int) (x1_3 : Int) (x1_4 : Int) (x1_6 : WL rw_iiiiiiLu) (x1_7 : Int) (r : List R8) : Ex × XSt := match r with
 | z1_0 => (.exit 0, (sT 115 [(0, (wlV x1_0)), (2, (wlV x1_1)), (10, (pN 0 0)), (12, (Value.func (.func 55) #[] #[(pN 0 0), (pN 1 0)])), (13, (Value.func (.func 56) #[] #[(pN 2 0)])), (14, (sN 3 0 (z1_0).length (Nat.add big 8)))], [], ⟨sB [(0, (some (.cells (layT [(i6 x1_2)]) 3))), (1, (some (.cells (layT [(i6 x1_3)]) 3))), (2, (some (.cells (layT [(i6 x1_4)]) 3))), (3, (some (.cells (layT (rows rw_iiiiiiLu z1_0)) 49)))], 4, 0⟩))
abbrev Q_treePutq1_1 (rnd : Option Nat) (x1_0 : WL rw_iiiiiiLu) (x1_1 : WL rw_iiiiiiLu) (x1_2 : Int) (x1_3 : Int) (x1_4 : Int) (x1_6 : WL rw_iiiiiiLu) (x1_7 : Int) (st : List R8 × Int) (c : Ex × XSt) : Prop := CG P rnd (fnN P 33) 0 (codeOf P 33 [false, false, true, false, true, true, true, true, true, true, true, true, true, true]) (qgz_ x1_0 x1_1 x1_2 x1_3 x1_4 x1_6 x1_7 st) c
abbrev U_treePutq1_1 (rd : Option Nat) (x1_0 : WL rw_iiiiiiLu) (x1_1 : WL rw_iiiiiiLu) (x1_2 : Int) (x1_3 : Int) (x1_4 : Int) (x1_6 : WL rw_iiiiiiLu) (x1_7 : Int) (st : List R8 × Int) (r : List R8) : Prop := CG P rd (fnN P 33) 0 (codeOf P 33 [false, true, false, true, true, true, true, true, true, true, true, true, true]) (qgz_ x1_0 x1_1 x1_2 x1_3 x1_4 x1_6 x1_7 st) (qg0_ x1_0 x1_1 x1_2 x1_3 x1_4 x1_6 x1_7 r)
def qe2_ (n : Nat) (x1_0 : WL rw_iiiiiiLu) (x1_1 : WL rw_iiiiiiLu) (x1_2 : Int) (x1_3 : Int) (x1_4 : Int) (x1_6 : WL rw_iiiiiiLu) (x1_7 : Int) (st : List R8 × Int) : Option ((List R8 × Int) ⊕ (List R8)) := match st with
 | (x1_5, x1_8) =>
  if x1_8 < x1_7 then
   if 0 ≤ x1_8 ∧ x1_8 < (((x1_6).l.length : Nat) : Int) then
    ((some (((x1_6).l).getD (x1_8).toNat (0, 0, 0, 0, 0, 0, nl0, 0)))).bind fun y1_3_ =>
    (qgu_ n (y1_3_.1) (y1_3_.2.1) (y1_3_.2.2.1) (y1_3_.2.2.2.1) (y1_3_.2.2.2.2.1) (y1_3_.2.2.2.2.2.1) (y1_3_.2.2.2.2.2.2.1) (y1_3_.2.2.2.2.2.2.2) x1_2 x1_3).bind fun y1_4_ =>
    if ((x1_5).length + 1) * 80 ≤ 140737488355328 then
     some (.inl ((x1_5 ++ [((y1_3_.1), (y1_3_.2.1), (y1_3_.2.2.1), (y1_3_.2.2.2.1), (y1_3_.2.2.2.2.1), (y1_3_.2.2.2.2.2.1), y1_4_, (y1_3_.2.2.2.2.2.2.2))]), (w64 (x1_8 + (1 : Int)))))
    else none
   else none
  else
   some (.inr x1_5)
def qlf_ (n : Nat) (x1_0 : WL rw_iiiiiiLu) (x1_1 : WL rw_iiiiiiLu) (x1_2 : Int) (x1_3 : Int) (x1_4 : Int) (x1_6 : WL rw_iiiiiiLu) (x1_7 : Int) (st : List R8 × Int) : Option (List R8) := iterM (qe2_ n x1_0 x1_1 x1_2 x1_3 x1_4 x1_6 x1_7) n st
theorem qnk_ (n : Nat) {rnd : Option Nat} (x1_0 : WL rw_iiiiiiLu) (x1_1 : WL rw_iiiiiiLu) (x1_2 : Int) (x1_3 : Int) (x1_4 : Int) (x1_6 : WL rw_iiiiiiLu) (x1_7 : Int) (st : List R8 × Int) (o : (List R8 × Int) ⊕ (List R8)) (h : qe2_ n x1_0 x1_1 x1_2 x1_3 x1_4 x1_6 x1_7 st = some o) : CG P rnd (fnN P 33) 0 (codeOf P 33 [false, false, true, false, true, true, true, true, true, true, true, true, true, true]) (qgz_ x1_0 x1_1 x1_2 x1_3 x1_4 x1_6 x1_7 st) (Sum.elim (fun s => (.normal, qgz_ x1_0 x1_1 x1_2 x1_3 x1_4 x1_6 x1_7 s)) (fun r => qg0_ x1_0 x1_1 x1_2 x1_3 x1_4 x1_6 x1_7 r) o) := by
 obtain ⟨x1_5, x1_8⟩ := st
 unfold qe2_ at h
 dsimp only at h
 by_cases hy1_1 : x1_8 < x1_7
 ·rw [if_pos hy1_1] at h
  obtain ⟨hy1_2, h⟩ := gd h
  obtain ⟨y1_3_, hy1_3, h⟩ := oB h
  obtain ⟨y1_4_, hy1_4, h⟩ := oB h
  obtain ⟨hy1_5, h⟩ := gd h
  obtain rfl := oI h
  exact runC2 hm ⟨[0, 2, 10, 12, 13, 14, 73, 74, 75], [(0, 0, false), (1, 1, false), (2, 2, false), (3, 7, true)], 4, 0, [], false, [], [], []⟩ (zz 1 (xdT hy1_1) <|
   zz 7 (xk1 (x1_6).num (x1_6).off (x1_6).cap hy1_2) <|
   zz 8 (lk2 hy1_3 (toNatLt hy1_2)) <|
   yy 14 (.call (qnf_ (y1_3_.1) (y1_3_.2.1) (y1_3_.2.2.1) (y1_3_.2.2.2.1) (y1_3_.2.2.2.2.1) (y1_3_.2.2.2.2.2.1) (y1_3_.2.2.2.2.2.2.1) (y1_3_.2.2.2.2.2.2.2) x1_2 x1_3 y1_4_ [(0, 0, false), (1, 1, false)] [(5, 2, false)])) <|
   ww (qla_ n (y1_3_.1) (y1_3_.2.1) (y1_3_.2.2.1) (y1_3_.2.2.2.1) (y1_3_.2.2.2.2.1) (y1_3_.2.2.2.2.2.1) (y1_3_.2.2.2.2.2.2.1) (y1_3_.2.2.2.2.2.2.2) x1_2 x1_3 y1_4_ hy1_4) <|
   yy 16 (.app ⟨none, rows rw_iiiiiiLu x1_5, (rows rw_iiiiiiLu (x1_5 ++ [((y1_3_.1), (y1_3_.2.1), (y1_3_.2.2.1), (y1_3_.2.2.2.1), (y1_3_.2.2.2.2.1), (y1_3_.2.2.2.2.2.1), y1_4_, (y1_3_.2.2.2.2.2.2.2))])), ((x1_5 ++ [((y1_3_.1), (y1_3_.2.1), (y1_3_.2.2.1), (y1_3_.2.2.2.1), (y1_3_.2.2.2.2.1), (y1_3_.2.2.2.2.2.1), y1_4_, (y1_3_.2.2.2.2.2.2.2))])).length, false⟩) <|
   ww (p := 0 < 1) ((by decide)) <|
   ww (p := rdT (layT (rows rw_iiiiiiLu x1_5)) (Nat.mul (x1_5).length 8) 0 = some (rows rw_iiiiiiLu x1_5)) (rows_rd rwf_iiiiiiLu _ _ rfl) <|
   ww (p := fits (Nat.add (x1_5).length 1) 80 = true) (fits_ok hy1_5 (by have := hy1_5; show (_ : Nat) + _ ≤ _; omega)) <|
   ww (p := allCells [(i6 (y1_3_.1)), (i6 (y1_3_.2.1)), (i6 (y1_3_.2.2.1)), (i6 (y1_3_.2.2.2.1)), (i6 (y1_3_.2.2.2.2.1)), (i6 (y1_3_.2.2.2.2.2.1)), (nlV y1_4_), (Value.int .u64 (y1_3_.2.2.2.2.2.2.2))] = true) (rfl) <|
   ww (p := allCells (rows rw_iiiiiiLu x1_5) = true) (rows_cells rwf_iiiiiiLu _) <|
   ww (p := rows rw_iiiiiiLu x1_5 ++ [(i6 (y1_3_.1)), (i6 (y1_3_.2.1)), (i6 (y1_3_.2.2.1)), (i6 (y1_3_.2.2.2.1)), (i6 (y1_3_.2.2.2.2.1)), (i6 (y1_3_.2.2.2.2.2.1)), (nlV y1_4_), (Value.int .u64 (y1_3_.2.2.2.2.2.2.2))] = (rows rw_iiiiiiLu (x1_5 ++ [((y1_3_.1), (y1_3_.2.1), (y1_3_.2.2.1), (y1_3_.2.2.2.1), (y1_3_.2.2.2.2.1), (y1_3_.2.2.2.2.2.1), y1_4_, (y1_3_.2.2.2.2.2.2.2))]))) (rows_app rw_iiiiiiLu x1_5 [((y1_3_.1), (y1_3_.2.1), (y1_3_.2.2.1), (y1_3_.2.2.2.1), (y1_3_.2.2.2.2.1), (y1_3_.2.2.2.2.2.1), y1_4_, (y1_3_.2.2.2.2.2.2.2))]) <|
   ww (p := Nat.add (x1_5).length 1 = ((x1_5 ++ [((y1_3_.1), (y1_3_.2.1), (y1_3_.2.2.1), (y1_3_.2.2.2.1), (y1_3_.2.2.2.2.1), (y1_3_.2.2.2.2.2.1), y1_4_, (y1_3_.2.2.2.2.2.2.2))])).length) (by simp) <|
   ww (rows_flat rwf_iiiiiiLu (x1_5 ++ [((y1_3_.1), (y1_3_.2.1), (y1_3_.2.2.1), (y1_3_.2.2.2.1), (y1_3_.2.2.2.2.1), (y1_3_.2.2.2.2.2.1), y1_4_, (y1_3_.2.2.2.2.2.2.2))]) 49) <|
   ee) (by kernel_rfl)
 ·rw [if_neg hy1_1] at h
  obtain rfl := oI h
  exact runC2 hm ⟨[0, 2, 10, 12, 13, 14], [(0, 0, false), (1, 1, false), (2, 2, false), (3, 3, true)], 4, 0, [], false, [], [], []⟩ (zz 1 (xdF hy1_1) <|
   ww (rows_flat rwf_iiiiiiLu x1_5 49) <|
   ee) (by kernel_rfl)
theorem qoa_ (n : Nat) {rnd : Option Nat} (x1_0 : WL rw_iiiiiiLu) (x1_1 : WL rw_iiiiiiLu) (x1_2 : Int) (x1_3 : Int) (x1_4 : Int) (x1_6 : WL rw_iiiiiiLu) (x1_7 : Int) (st : List R8 × Int) (r : List R8) (h : qlf_ n x1_0 x1_1 x1_2 x1_3 x1_4 x1_6 x1_7 st = some r) : CG P rnd (fnN P 33) 0 (codeOf P 33 [false, true, false, true, true, true, true, true, true, true, true, true, true]) (qgz_ x1_0 x1_1 x1_2 x1_3 x1_4 x1_6 x1_7 st) (qg0_ x1_0 x1_1 x1_2 x1_3 x1_4 x1_6 x1_7 r) :=
 CG.iter (b := codeOf P 33 [false, false, true, false, true, true, true, true, true, true, true, true, true, true]) (by kernel_rfl) (body := qe2_ n x1_0 x1_1 x1_2 x1_3 x1_4 x1_6 x1_7) (S := qgz_ x1_0 x1_1 x1_2 x1_3 x1_4 x1_6 x1_7) (X := qg0_ x1_0 x1_1 x1_2 x1_3 x1_4 x1_6 x1_7)
  (fun s s' h => qnk_ n x1_0 x1_1 x1_2 x1_3 x1_4 x1_6 x1_7 s (.inl s') h)
  (fun s r h => qnk_ n x1_0 x1_1 x1_2 x1_3 x1_4 x1_6 x1_7 s (.inr r) h)
  (fun r => by intro hx; cases hx) h
def qix_ (n : Nat) (a0 : WL rw_iiiiiiLu) (a1 : Int) (a2 : WL rw_iiiiiiLu) : Option ((Int) ⊕ (List R8)) :=
 (qce_ n a0).bind fun c1_ =>
 if c1_ = (0 : Int) then
  (qce_ n a2).bind fun c3_ =>
  if c3_ = (0 : Int) then
   if a1 < (0 : Int) then
    some (.inl 2)
   else
    if a1 ≥ (((a0).l.length : Nat) : Int) then
     some (.inl 2)
    else
     if 0 ≤ a1 ∧ a1 < (((a0).l.length : Nat) : Int) then
      ((some (((a0).l).getD (a1).toNat (0, 0, 0, 0, 0, 0, nl0, 0)))).bind fun c8_ =>
      if 0 ≤ (0 : Int) ∧ (0 : Int) < (((a2).l.length : Nat) : Int) then
       ((some (((a2).l).getD ((0 : Int)).toNat (0, 0, 0, 0, 0, 0, nl0, 0)))).bind fun c10_ =>
       (qgt_ n (c8_.1) (c8_.2.1) (c8_.2.2.1) (c8_.2.2.2.1) (c8_.2.2.2.2.1) (c8_.2.2.2.2.2.1) (c8_.2.2.2.2.2.2.1) (c8_.2.2.2.2.2.2.2) (c10_.1) (c10_.2.1) (c10_.2.2.1) (c10_.2.2.2.1) (c10_.2.2.2.2.1) (c10_.2.2.2.2.2.1) (c10_.2.2.2.2.2.2.1) (c10_.2.2.2.2.2.2.2)).bind fun c11_ =>
       if c11_ = true then
        (qgk_ n a0 a1).bind fun c13_ =>
        ((some (w64 ((((a2).l.length : Nat) : Int) - (w64 (c13_ - a1)))))).bind fun c14_ =>
        ((some (w64 ((((a0).l.length : Nat) : Int) + c14_)))).bind fun c15_ =>
        if c15_ > (524288 : Int) then
         some (.inl 3)
        else
         if 0 ≤ c15_ then
          if (c15_).toNat * 80 ≤ 140737488355328 then
           if 0 ≤ a1 then
            if hc20 : 0 ≤ (a1).toNat ∧ (a1).toNat ≤ (a0).l.length then
             (qlf_ n a0 a2 c13_ c14_ a1 (wlSub rwf_iiiiiiLu a0 0 (a1).toNat hc20) ((((wlSub rwf_iiiiiiLu a0 0 (a1).toNat hc20)).l.length : Nat) : Int) ([], 0)).bind fun c21_ =>
             (qle_ n a0 c13_ c14_ a1 a2 (((a2).l.length : Nat) : Int) (c21_, 0)).bind fun c22_ =>
             if 0 ≤ c13_ then
              if hc24 : (c13_).toNat ≤ (a0).l.length ∧ (a0).l.length ≤ (a0).l.length then
               (qld_ n c13_ c14_ (wlSub rwf_iiiiiiLu a0 (c13_).toNat (a0).l.length hc24) ((((wlSub rwf_iiiiiiLu a0 (c13_).toNat (a0).l.length hc24)).l.length : Nat) : Int) (c22_, 0)).bind fun c25_ =>
               some (.inr c25_)
              else none
             else none
            else none
           else none
          else none
         else none
       else
        some (.inl 2)
      else none
     else none
  else
   some (.inl c3_)
 else
  some (.inl c1_)
theorem qmk_ (n : Nat) (a0 : WL rw_iiiiiiLu) (a1 : Int) (a2 : WL rw_iiiiiiLu) (r : (Int) ⊕ (List R8)) (h : qix_ n a0 a1 a2 = some r) : Gv P (.func 33) (qoo_ a0 a1 a2) (qop_ a0 a1 a2) (qmx_ a0 a1 a2 r) (qmy_ a0 a1 a2 r) := by
 unfold qix_ at h
 obtain ⟨c1_, hc1, h⟩ := oB h
 have k0 := fun {A L l} (k : PL A L l) => yy 7 (.call (qez_ a0 c1_ [] [])) <|
  ww (qdj_ n a0 c1_ hc1) <|
  k
 by_cases hc2 : c1_ = (0 : Int)
 ·rw [if_pos hc2] at h
  obtain ⟨c3_, hc3, h⟩ := oB h
  have k2 := fun {A L l} (k : PL A L l) => zz 11 (xnF hc2) <|
   yy 16 (.call (qez_ a2 c3_ [] [])) <|
   ww (qdj_ n a2 c3_ hc3) <|
   k
  by_cases hc4 : c3_ = (0 : Int)
  ·rw [if_pos hc4] at h
   have k5 := fun {A L l} (k : PL A L l) => zz 20 (xnF hc4) <|
    k
   by_cases hc5 : a1 < (0 : Int)
   ·rw [if_pos hc5] at h
    obtain rfl := oI h
    exact runF2 hm ⟨[6, 7], [], 0, 0, [], false, [], [], []⟩ (k0 <|
     k2 <|
     k5 <|
     zz 25 (xdT hc5) <|
     ee) (by kernel_rfl)
   ·rw [if_neg hc5] at h
    have k6 := fun {A L l} (k : PL A L l) => zz 25 (xdF hc5) <|
     k
    by_cases hc6 : a1 ≥ (((a0).l.length : Nat) : Int)
    ·rw [if_pos hc6] at h
     obtain rfl := oI h
     exact runF2 hm ⟨[6, 7], [], 0, 0, [], false, [], [], []⟩ (k0 <|
      k2 <|
      k5 <|
      k6 <|
      zz 30 (xdT hc6) <|
      ee) (by kernel_rfl)
    ·rw [if_neg hc6] at h
     obtain ⟨hc7, h⟩ := gd h
     obtain ⟨c8_, hc8, h⟩ := oB h
     obtain ⟨hc9, h⟩ := gd h
     obtain ⟨c10_, hc10, h⟩ := oB h
     obtain ⟨c11_, hc11, h⟩ := oB h
     have k7 := fun {A L l} (k : PL A L l) => zz 30 (xdF hc6) <|
      zz 35 (xk1 (a0).num (a0).off (a0).cap hc7) <|
      zz 36 (lk2 hc8 (toNatLt hc7)) <|
      zz 38 (xk1 (a2).num (a2).off (a2).cap hc9) <|
      zz 39 (lk2 hc10 (toNatLt hc9)) <|
      yy 40 (.call (qnc_ (c8_.1) (c8_.2.1) (c8_.2.2.1) (c8_.2.2.2.1) (c8_.2.2.2.2.1) (c8_.2.2.2.2.2.1) (c8_.2.2.2.2.2.2.1) (c8_.2.2.2.2.2.2.2) (c10_.1) (c10_.2.1) (c10_.2.2.1) (c10_.2.2.2.1) (c10_.2.2.2.2.1) (c10_.2.2.2.2.2.1) (c10_.2.2.2.2.2.2.1) (c10_.2.2.2.2.2.2.2) c11_ [] [])) <|
      ww (qk7_ n (c8_.1) (c8_.2.1) (c8_.2.2.1) (c8_.2.2.2.1) (c8_.2.2.2.2.1) (c8_.2.2.2.2.2.1) (c8_.2.2.2.2.2.2.1) (c8_.2.2.2.2.2.2.2) (c10_.1) (c10_.2.1) (c10_.2.2.1) (c10_.2.2.2.1) (c10_.2.2.2.2.1) (c10_.2.2.2.2.2.1) (c10_.2.2.2.2.2.2.1) (c10_.2.2.2.2.2.2.2) c11_ hc11) <|
      k
     by_cases hc12 : c11_ = true
     ·rw [if_pos hc12] at h
      obtain ⟨c13_, hc13, h⟩ := oB h
      obtain ⟨c14_, hc14, h⟩ := oB h
      obtain ⟨c15_, hc15, h⟩ := oB h
      have k14 := fun {A L l} (k : PL A L l) => yy 41 (vf) <|
       ww (p := (Value.bool (!c11_)) = (Value.bool false)) (vBn hc12) <|
       yy 47 (.call (qnw_ a0 a1 c13_ [] [])) <|
       ww (qlv_ n a0 a1 c13_ hc13) <|
       zz 56 (xnm hc14) <|
       zz 64 (xnm hc15) <|
       k
      by_cases hc16 : c15_ > (524288 : Int)
      ·rw [if_pos hc16] at h
       obtain rfl := oI h
       exact runF2 hm ⟨[6, 7], [], 0, 0, [], false, [], [], []⟩ (k0 <|
        k2 <|
        k5 <|
        k6 <|
        k7 <|
        k14 <|
        zz 65 (xdT hc16) <|
        ee) (by kernel_rfl)
      ·rw [if_neg hc16] at h
       obtain ⟨hc17, h⟩ := gd h
       obtain ⟨hc18, h⟩ := gd h
       obtain ⟨hc19, h⟩ := gd h
       obtain ⟨hc20, h⟩ := gdD h
       replace h := oB h
       obtain ⟨c21_, hc21, h⟩ := h
       replace h := oB h
       obtain ⟨c22_, hc22, h⟩ := h
       replace h := gd h
       obtain ⟨hc23, h⟩ := h
       replace h := gdD h
       obtain ⟨hc24, h⟩ := h
       replace h := oB h
       obtain ⟨c25_, hc25, h⟩ := h
       obtain rfl := oI h
       exact runF2 hm ⟨[6, 7], [(0, 0, true)], 1, 0, [], false, [], [], []⟩ (k0 <|
        k2 <|
        k5 <|
        k6 <|
        k7 <|
        k14 <|
        zz 65 (xdF hc16) <|
        zz 77 (xnm hc15) <|
        yy 78 (.mk (c15_).toNat []) <|
        ww (p := natOf (i6 c15_) = some (c15_).toNat) (natOf_toNat hc17) <|
        ww (p := fits (c15_).toNat 80 = true) (fits_ok hc18 (by omega)) <|
        yy 84 (.pur (wlV (wlSub rwf_iiiiiiLu a0 0 (a1).toNat hc20))) <|
        ww (p := opSlice P 22 (wlV a0) none (some (i6 a1)) none Ax.h0 = some ((wlV (wlSub rwf_iiiiiiLu a0 0 (a1).toNat hc20)), Ax.h0)) (slWL (e := 49) rwf_iiiiiiLu a0 (by kernel_rfl) (by kernel_rfl) rfl (bnd_int hc19) hc20) <|
        ww (p := U_treePutq1_1 none a0 a2 c13_ c14_ a1 (wlSub rwf_iiiiiiLu a0 0 (a1).toNat hc20) ((((wlSub rwf_iiiiiiLu a0 0 (a1).toNat hc20)).l.length : Nat) : Int) ([], 0) c21_) (qoa_ n a0 a2 c13_ c14_ a1 (wlSub rwf_iiiiiiLu a0 0 (a1).toNat hc20) ((((wlSub rwf_iiiiiiLu a0 0 (a1).toNat hc20)).l.length : Nat) : Int) ([], 0) c21_ hc21) <|
        ll 88 ⟨⟨[0, 2, 10, 12, 13, 14, 73, 74, 75], [(0, 1, false), (1, 2, false), (2, 0, false), (3, 3, false)], 4, 0, [], false, [], [], []⟩, (qg0_ a0 a2 c13_ c14_ a1 (wlSub rwf_iiiiiiLu a0 0 (a1).toNat hc20) ((((wlSub rwf_iiiiiiLu a0 0 (a1).toNat hc20)).l.length : Nat) : Int) c21_).1, (qg0_ a0 a2 c13_ c14_ a1 (wlSub rwf_iiiiiiLu a0 0 (a1).toNat hc20) ((((wlSub rwf_iiiiiiLu a0 0 (a1).toNat hc20)).l.length : Nat) : Int) c21_).2⟩ <|
        ww (p := U_treePutq1_2 none a0 c13_ c14_ a1 a2 (((a2).l.length : Nat) : Int) (c21_, 0) c22_) (qn9_ n a0 c13_ c14_ a1 a2 (((a2).l.length : Nat) : Int) (c21_, 0) c22_ hc22) <|
        ww (rows_flat rwf_iiiiiiLu c21_ 49) <|
        ll 95 ⟨⟨[0, 10, 12, 13, 14, 86, 87, 88], [(0, 0, false), (1, 1, false), (2, 2, false), (3, 3, true)], 4, 0, [], false, [], [], []⟩, (qgy_ a0 c13_ c14_ a1 a2 (((a2).l.length : Nat) : Int) c22_).1, (qgy_ a0 c13_ c14_ a1 a2 (((a2).l.length : Nat) : Int) c22_).2⟩ <|
        yy 100 (.pur (wlV (wlSub rwf_iiiiiiLu a0 (c13_).toNat (a0).l.length hc24))) <|
        ww (p := opSlice P 22 (wlV a0) (some (i6 c13_)) none none Ax.h0 = some ((wlV (wlSub rwf_iiiiiiLu a0 (c13_).toNat (a0).l.length hc24)), Ax.h0)) (slWL (e := 49) rwf_iiiiiiLu a0 (by kernel_rfl) (by kernel_rfl) (bnd_int hc23) rfl hc24) <|
        ww (p := U_treePutq1_3 none c13_ c14_ (wlSub rwf_iiiiiiLu a0 (c13_).toNat (a0).l.length hc24) ((((wlSub rwf_iiiiiiLu a0 (c13_).toNat (a0).l.length hc24)).l.length : Nat) : Int) (c22_, 0) c25_) (qn8_ n c13_ c14_ (wlSub rwf_iiiiiiLu a0 (c13_).toNat (a0).l.length hc24) ((((wlSub rwf_iiiiiiLu a0 (c13_).toNat (a0).l.length hc24)).l.length : Nat) : Int) (c22_, 0) c25_ hc25) <|
        ww (rows_flat rwf_iiiiiiLu c22_ 49) <|
        ll 104 ⟨⟨[12, 14, 101, 102, 103], [(0, 0, false), (1, 1, false), (2, 2, true)], 3, 0, [], false, [], [], []⟩, (qgw_ c13_ c14_ (wlSub rwf_iiiiiiLu a0 (c13_).toNat (a0).l.length hc24) ((((wlSub rwf_iiiiiiLu a0 (c13_).toNat (a0).l.length hc24)).l.length : Nat) : Int) c25_).1, (qgw_ c13_ c14_ (wlSub rwf_iiiiiiLu a0 (c13_).toNat (a0).l.length hc24) ((((wlSub rwf_iiiiiiLu a0 (c13_).toNat (a0).l.length hc24)).l.length : Nat) : Int) c25_).2⟩ <|
        ww (rows_flat rwf_iiiiiiLu c25_ 49) <|
        ee) (by kernel_rfl)
     ·rw [if_neg hc12] at h
      obtain rfl := oI h
      exact runF2 hm ⟨[6, 7], [], 0, 0, [], false, [], [], []⟩ (k0 <|
       k2 <|
       k5 <|
       k6 <|
       k7 <|
       yy 41 (vt) <|
       ww (p := (Value.bool (!c11_)) = (Value.bool true)) (vBn (Bool.eq_false_iff.2 hc12)) <|
       ee) (by kernel_rfl)
  ·rw [if_neg hc4] at h
   obtain rfl := oI h
   exact runF2 hm ⟨[6, 7], [], 0, 0, [], false, [], [], []⟩ (k0 <|
    k2 <|
    zz 20 (xnT hc4) <|
    ee) (by kernel_rfl)
 ·rw [if_neg hc2] at h
  obtain rfl := oI h
  exact runF2 hm ⟨[6, 7], [], 0, 0, [], false, [], [], []⟩ (k0 <|
   zz 11 (xnT hc2) <|
   ee) (by kernel_rfl)

def qor_ (a0 : WL rw_iiiiiiLu) (a1 : Int) : List Value := [(wlV a0), (i6 a1)]
def qos_ (a0 : WL rw_iiiiiiLu) (a1 : Int) : AH := ⟨sB [], 0, 0⟩
def qmz_ (a0 : WL rw_iiiiiiLu) (a1 : Int) (r : Bool) : Value := match r with
 | o0 => (bO o0)
def qm0_ (a0 : WL rw_iiiiiiLu) (a1 : Int) (r : Bool) : AH := match r with
 | o0 => ⟨sB [], 0, 0⟩
abbrev G_treehasq1 (a0 : WL rw_iiiiiiLu) (a1 : Int) (r : Bool) : Prop := Gv P (.func 61) (qor_ a0 a1) (qos_ a0 a1) (qmz_ a0 a1 r) (qm0_ a0 a1 r)
abbrev C_treehasq1 (a0 : WL rw_iiiiiiLu) (a1 : Int) (r : Bool) (ins outs : BL) : CallA := ⟨0, ins, qmz_ a0 a1 r, qm0_ a0 a1 r, outs⟩
def qj5_ (n : Nat) (a0 : WL rw_iiiiiiLu) (a1 : Int) : Option (Bool) :=
 if a1 ≥ (0 : Int) then
  if a1 < (((a0).l.length : Nat) : Int) then
   (qce_ n a0).bind fun c3_ =>
   if c3_ = (0 : Int) then
    some true
   else
    some false
  else
   some false
 else
  some false
theorem qo3_ (n : Nat) (a0 : WL rw_iiiiiiLu) (a1 : Int) (r : Bool) (h : qj5_ n a0 a1 = some r) : Gv P (.func 61) (qor_ a0 a1) (qos_ a0 a1) (qmz_ a0 a1 r) (qm0_ a0 a1 r) := by
 unfold qj5_ at h
 by_cases hc1 : a1 ≥ (0 : Int)
 ·rw [if_pos hc1] at h
  have k0 := fun {A L l} (k : PL A L l) => zz 4 (xdT hc1) <|
   k
  by_cases hc2 : a1 < (((a0).l.length : Nat) : Int)
  ·rw [if_pos hc2] at h
   obtain ⟨c3_, hc3, h⟩ := oB h
   have k1 := fun {A L l} (k : PL A L l) => zz 9 (xdT hc2) <|
    yy 13 (.call (qez_ a0 c3_ [] [])) <|
    ww (qdj_ n a0 c3_ hc3) <|
    k
   by_cases hc4 : c3_ = (0 : Int)
   ·rw [if_pos hc4] at h
    obtain rfl := oI h
    exact runF2 hm ⟨[4], [], 0, 0, [], false, [], [], []⟩ (k0 <|
     k1 <|
     zz 14 (xeT hc4) <|
     ee) (by kernel_rfl)
   ·rw [if_neg hc4] at h
    obtain rfl := oI h
    exact runF2 hm ⟨[4], [], 0, 0, [], false, [], [], []⟩ (k0 <|
     k1 <|
     zz 14 (xeF hc4) <|
     ee) (by kernel_rfl)
  ·rw [if_neg hc2] at h
   obtain rfl := oI h
   exact runF2 hm ⟨[4], [], 0, 0, [], false, [], [], []⟩ (k0 <|
    zz 9 (xdF hc2) <|
    ee) (by kernel_rfl)
 ·rw [if_neg hc1] at h
  obtain rfl := oI h
  exact runF2 hm ⟨[4], [], 0, 0, [], false, [], [], []⟩ (zz 4 (xdF hc1) <|
   ee) (by kernel_rfl)

def qot_ (a0 : WL rw_iiiiiiLu) (a1 : Int) : List Value := [(wlV a0), (i6 a1)]
def qou_ (a0 : WL rw_iiiiiiLu) (a1 : Int) : AH := ⟨sB [], 0, 0⟩
def qm1_ (a0 : WL rw_iiiiiiLu) (a1 : Int) (r : Int) : Value := match r with
 | o0 => (i6 o0)
def qm2_ (a0 : WL rw_iiiiiiLu) (a1 : Int) (r : Int) : AH := match r with
 | o0 => ⟨sB [], 0, 0⟩
abbrev G_treeEndq1 (a0 : WL rw_iiiiiiLu) (a1 : Int) (r : Int) : Prop := Gv P (.func 36) (qot_ a0 a1) (qou_ a0 a1) (qm1_ a0 a1 r) (qm2_ a0 a1 r)
abbrev qm3_ (a0 : WL rw_iiiiiiLu) (a1 : Int) (r : Int) (ins outs : BL) : CallA := ⟨0, ins, qm1_ a0 a1 r, qm2_ a0 a1 r, outs⟩
def qhu_ (n : Nat) (a0 : WL rw_iiiiiiLu) (a1 : Int) : Option (Int) :=
 (qj5_ n a0 a1).bind fun c1_ =>
 if c1_ = true then
  (qgk_ n a0 a1).bind fun c3_ =>
  some c3_
 else
  some 0
theorem qkc_ (n : Nat) (a0 : WL rw_iiiiiiLu) (a1 : Int) (r : Int) (h : qhu_ n a0 a1 = some r) : Gv P (.func 36) (qot_ a0 a1) (qou_ a0 a1) (qm1_ a0 a1 r) (qm2_ a0 a1 r) := by
 unfold qhu_ at h
 obtain ⟨c1_, hc1, h⟩ := oB h
 have k0 := fun {A L l} (k : PL A L l) => yy 6 (.call (C_treehasq1 a0 a1 c1_ [] [])) <|
  ww (qo3_ n a0 a1 c1_ hc1) <|
  k
 by_cases hc2 : c1_ = true
 ·rw [if_pos hc2] at h
  obtain ⟨c3_, hc3, h⟩ := oB h
  obtain rfl := oI h
  exact runF2 hm ⟨[4], [], 0, 0, [], false, [], [], []⟩ (k0 <|
   yy 7 (vf) <|
   ww (p := (Value.bool (!c1_)) = (Value.bool false)) (vBn hc2) <|
   yy 12 (.call (qnw_ a0 a1 c3_ [] [])) <|
   ww (qlv_ n a0 a1 c3_ hc3) <|
   ee) (by kernel_rfl)
 ·rw [if_neg hc2] at h
  obtain rfl := oI h
  exact runF2 hm ⟨[4], [], 0, 0, [], false, [], [], []⟩ (k0 <|
   yy 7 (vt) <|
   ww (p := (Value.bool (!c1_)) = (Value.bool true)) (vBn (Bool.eq_false_iff.2 hc2)) <|
   ee) (by kernel_rfl)

def qml_ (a0 : WL rw_iiiiiiLu) (a1 : Int) (a2 : Int) : List Value := [(wlV a0), (i6 a1), (i6 a2)]
def qmm_ (a0 : WL rw_iiiiiiLu) (a1 : Int) (a2 : Int) : AH := ⟨sB [], 0, 0⟩
def qkd_ (a0 : WL rw_iiiiiiLu) (a1 : Int) (a2 : Int) (r : Unit) : Value := match r with
 | _ => (Value.func (.func 60) #[] #[(pN 0 0), (pN 1 0), (pN 2 0)])
def qke_ (a0 : WL rw_iiiiiiLu) (a1 : Int) (a2 : Int) (r : Unit) : AH := match r with
 | _ => ⟨sB [(0, (some (.cells (layT [(wlV a0)]) 22))), (1, (some (.cells (layT [(i6 a1)]) 3))), (2, (some (.cells (layT [(i6 a2)]) 3)))], 3, 0⟩
abbrev G_splicemetsq1 (a0 : WL rw_iiiiiiLu) (a1 : Int) (a2 : Int) (r : Unit) : Prop := Gv P (.func 35) (qml_ a0 a1 a2) (qmm_ a0 a1 a2) (qkd_ a0 a1 a2 r) (qke_ a0 a1 a2 r)
abbrev qhc_ (a0 : WL rw_iiiiiiLu) (a1 : Int) (a2 : Int) (r : Unit) (ins outs : BL) : CallA := ⟨0, ins, qkd_ a0 a1 a2 r, qke_ a0 a1 a2 r, outs⟩
def qcz_ (n : Nat) (a0 : WL rw_iiiiiiLu) (a1 : Int) (a2 : Int) : Option (Unit) :=
 some ()
theorem qek_ (n : Nat) (a0 : WL rw_iiiiiiLu) (a1 : Int) (a2 : Int) (r : Unit) (h : qcz_ n a0 a1 a2 = some r) : Gv P (.func 35) (qml_ a0 a1 a2) (qmm_ a0 a1 a2) (qkd_ a0 a1 a2 r) (qke_ a0 a1 a2 r) := by
 unfold qcz_ at h
 obtain rfl := oI h
 exact runF2 hm ⟨[6], [(0, 0, false), (1, 1, false), (2, 2, false)], 3, 0, [], false, [], [], []⟩ (ee) (by kernel_rfl)

def qkn_ (a0 : Int) (a1 : Int) : List Value := [(Value.int .u64 a0), (Value.int .u64 a1)]
def qko_ (a0 : Int) (a1 : Int) : AH := ⟨sB [], 0, 0⟩
def qie_ (a0 : Int) (a1 : Int) (r : Int) : Value := match r with
 | o0 => (Value.int .u64 o0)
def qif_ (a0 : Int) (a1 : Int) (r : Int) : AH := match r with
 | o0 => ⟨sB [], 0, 0⟩
abbrev G_splicegather1q1 (a0 : Int) (a1 : Int) (r : Int) : Prop := Gv P (.func 59) (qkn_ a0 a1) (qko_ a0 a1) (qie_ a0 a1 r) (qif_ a0 a1 r)
abbrev qnn_ (a0 : Int) (a1 : Int) (r : Int) (ins outs : BL) : CallA := ⟨0, ins, qie_ a0 a1 r, qif_ a0 a1 r, outs⟩
def qgc_ (n : Nat) (a0 : Int) (a1 : Int) : Option (Int) :=
 some (bOr .u64 a0 a1)
theorem qmb_ (n : Nat) (a0 : Int) (a1 : Int) (r : Int) (h : qgc_ n a0 a1 = some r) : Gv P (.func 59) (qkn_ a0 a1) (qko_ a0 a1) (qie_ a0 a1 r) (qif_ a0 a1 r) := by
 unfold qgc_ at h
 obtain rfl := oI h
 exact runF2 hm ⟨[4], [], 0, 0, [], false, [], [], []⟩ (ee) (by kernel_rfl)

def qeq_ (a0 : Int) (a1 : WL rw_iiiiiiLu) (a2 : Int) (a3 : Int) (a4 : Int) : List Value := [(Value.int .u64 a4)]
def qer_ (a0 : Int) (a1 : WL rw_iiiiiiLu) (a2 : Int) (a3 : Int) (a4 : Int) : AH := ⟨sB [(0, (some (rblk P 58 [false, true, false, true] .ready none [(4, (pN 2 0)), (5, (pN 3 0)), (8, (Value.func (.func 60) #[] #[(pN 4 0), (pN 5 0), (pN 6 0)]))] 1))), (1, (some (.marks true))), (2, (some (.cells (layT [(Value.int .u64 a0)]) 41))), (3, (some (.cells (layT [(Value.func (.func 59) #[] #[])]) 70))), (4, (some (.cells (layT [(wlV a1)]) 22))), (5, (some (.cells (layT [(i6 a2)]) 3))), (6, (some (.cells (layT [(i6 a3)]) 3)))], 7, 7⟩
def qda_ (a0 : Int) (a1 : WL rw_iiiiiiLu) (a2 : Int) (a3 : Int) (a4 : Int) (r : Int) : Value := match r with
 | o0 => (bO true)
def qdb_ (a0 : Int) (a1 : WL rw_iiiiiiLu) (a2 : Int) (a3 : Int) (a4 : Int) (r : Int) : AH := match r with
 | o0 => ⟨sB [(0, (some (rblk P 58 [false, true, false, true] .ready none [(4, (pN 2 0)), (5, (pN 3 0)), (8, (Value.func (.func 60) #[] #[(pN 4 0), (pN 5 0), (pN 6 0)]))] 1))), (1, (some (.marks true))), (2, (some (.cells (layT [(Value.int .u64 o0)]) 41))), (3, (some (.cells (layT [(Value.func (.func 59) #[] #[])]) 70))), (4, (some (.cells (layT [(wlV a1)]) 22))), (5, (some (.cells (layT [(i6 a2)]) 3))), (6, (some (.cells (layT [(i6 a3)]) 3)))], 7, 0⟩
abbrev qnr_ (a0 : Int) (a1 : WL rw_iiiiiiLu) (a2 : Int) (a3 : Int) (a4 : Int) (r : Int) : Prop := Gv P (.yield 0) (qeq_ a0 a1 a2 a3 a4) (qer_ a0 a1 a2 a3 a4) (qda_ a0 a1 a2 a3 a4 r) (qdb_ a0 a1 a2 a3 a4 r)
abbrev qiv_ (a0 : Int) (a1 : WL rw_iiiiiiLu) (a2 : Int) (a3 : Int) (a4 : Int) (r : Int) (ins outs : BL) : CallA := ⟨7, ins, qda_ a0 a1 a2 a3 a4 r, qdb_ a0 a1 a2 a3 a4 r, outs⟩
def qb7_ (n : Nat) (a0 : Int) (a1 : WL rw_iiiiiiLu) (a2 : Int) (a3 : Int) (a4 : Int) : Option (Int) :=
 (qgc_ n a0 a4).bind fun c1_ =>
 some c1_
theorem qhv_ (n : Nat) (a0 : Int) (a1 : WL rw_iiiiiiLu) (a2 : Int) (a3 : Int) (a4 : Int) (r : Int) (h : qb7_ n a0 a1 a2 a3 a4 = some r) : Gv P (.yield 0) (qeq_ a0 a1 a2 a3 a4) (qer_ a0 a1 a2 a3 a4) (qda_ a0 a1 a2 a3 a4 r) (qdb_ a0 a1 a2 a3 a4 r) := by
 unfold qb7_ at h
 obtain ⟨c1_, hc1, h⟩ := oB h
 obtain rfl := oI h
 exact runY2 hm ⟨[], [(0, 0, false), (1, 1, false), (2, 2, false), (3, 3, false), (4, 4, false), (5, 5, false), (6, 6, false)], 7, 0, [], false, [], [], []⟩ (ee) (yy 4 (.call (qnn_ a0 a4 c1_ [] [])) <|
  ww (qmb_ n a0 a4 c1_ hc1) <|
  ee) (by kernel_rfl)

def qlw_ (a0 : Int) (a1 : WL rw_iiiiiiLu) (a2 : Int) (a3 : Int) : List Value := [(Value.func (.yield 0) #[] #[]), (pN 4 0), (pN 5 0), (pN 6 0)]
def qlx_ (a0 : Int) (a1 : WL rw_iiiiiiLu) (a2 : Int) (a3 : Int) : AH := ⟨sB [(0, (some (rblk P 58 [false, true, false, true] .ready none [(4, (pN 2 0)), (5, (pN 3 0)), (8, (Value.func (.func 60) #[] #[(pN 4 0), (pN 5 0), (pN 6 0)]))] 1))), (1, (some (.marks true))), (2, (some (.cells (layT [(Value.int .u64 a0)]) 41))), (3, (some (.cells (layT [(Value.func (.func 59) #[] #[])]) 70))), (4, (some (.cells (layT [(wlV a1)]) 22))), (5, (some (.cells (layT [(i6 a2)]) 3))), (6, (some (.cells (layT [(i6 a3)]) 3)))], 7, 7⟩
def qjw_ (a0 : Int) (a1 : WL rw_iiiiiiLu) (a2 : Int) (a3 : Int) (r : Int) : Value := match r with
 | o0 => (Value.tuple #[])
def qjx_ (a0 : Int) (a1 : WL rw_iiiiiiLu) (a2 : Int) (a3 : Int) (r : Int) : AH := match r with
 | o0 => ⟨sB [(0, (some (rblk P 58 [false, true, false, true] .ready none [(4, (pN 2 0)), (5, (pN 3 0)), (8, (Value.func (.func 60) #[] #[(pN 4 0), (pN 5 0), (pN 6 0)]))] 1))), (1, (some (.marks true))), (2, (some (.cells (layT [(Value.int .u64 o0)]) 41))), (3, (some (.cells (layT [(Value.func (.func 59) #[] #[])]) 70))), (4, (some (.cells (layT [(wlV a1)]) 22))), (5, (some (.cells (layT [(i6 a2)]) 3))), (6, (some (.cells (layT [(i6 a3)]) 3)))], 7, 0⟩
abbrev G_splicemets1q1 (a0 : Int) (a1 : WL rw_iiiiiiLu) (a2 : Int) (a3 : Int) (r : Int) : Prop := Gv P (.func 60) (qlw_ a0 a1 a2 a3) (qlx_ a0 a1 a2 a3) (qjw_ a0 a1 a2 a3 r) (qjx_ a0 a1 a2 a3 r)
abbrev qoj_ (a0 : Int) (a1 : WL rw_iiiiiiLu) (a2 : Int) (a3 : Int) (r : Int) (ins outs : BL) : CallA := ⟨7, ins, qjw_ a0 a1 a2 a3 r, qjx_ a0 a1 a2 a3 r, outs⟩
def qdr_ (x1_1 : WL rw_iiiiiiLu) (x1_2 : Int) (x1_3 : Int) (x1_4 : WL rw_iiiiiiLu) (x1_5 : Int) (st : Int × Int) : XSt := match st with
 | (x1_0, x1_6) => (sT 22 [(0, (Value.func (.yield 0) #[] #[])), (10, (wlV x1_4)), (11, (i6 x1_5)), (12, (i6 x1_6))], [], ⟨sB [(0, (some (rblk P 58 [false, true, false, true] .ready none [(4, (pN 2 0)), (5, (pN 3 0)), (8, (Value.func (.func 60) #[] #[(pN 4 0), (pN 5 0), (pN 6 0)]))] 1))), (1, (some (.marks true))), (2, (some (.cells (layT [(Value.int .u64 x1_0)]) 41))), (3, (some (.cells (layT [(Value.func (.func 59) #[] #[])]) 70))), (4, (some (.cells (layT [(wlV x1_1)]) 22))), (5, (some (.cells (layT [(i6 x1_2)]) 3))), (6, (some (.cells (layT [(i6 x1_3)]) 3)))], 7, 0⟩)
def qds_ (x1_1 : WL rw_iiiiiiLu) (x1_2 : Int) (x1_3 : Int) (x1_4 : WL rw_iiiiiiLu) (x1_5 : Int) (r : Int) : Ex × XSt := match r with
 | z1_0 => (.exit 0, (sT 22 [], [], ⟨sB [(0, (some (rblk P 58 [false, true, false, true] .ready none [(4, (pN 2 0)), (5, (pN 3 0)), (8, (Value.func (.func 60) #[] #[(pN 4 0), (pN 5 0), (pN 6 0)]))] 1))), (1, (some (.marks true))), (2, (some (.cells (layT [(Value.int .u64 z1_0)]) 41))), (3, (some (.cells (layT [(Value.func (.func 59) #[] #[])]) 70))), (4, (some (.cells (layT [(wlV x1_1)]) 22))), (5, (some (.cells (layT [(i6 x1_2)]) 3))), (6, (some (.cells (layT [(i6 x1_3)]) 3)))], 7, 0⟩))
abbrev Q_splicemets1q1_1 (rnd : Option Nat) (x1_1 : WL rw_iiiiiiLu) (x1_2 : Int) (x1_3 : Int) (x1_4 : WL rw_iiiiiiLu) (x1_5 : Int) (st : Int × Int) (c : Ex × XSt) : Prop := CG P rnd (fnN P 60) 7 (codeOf P 60 [false, false, true]) (qdr_ x1_1 x1_2 x1_3 x1_4 x1_5 st) c
abbrev qno_ (rd : Option Nat) (x1_1 : WL rw_iiiiiiLu) (x1_2 : Int) (x1_3 : Int) (x1_4 : WL rw_iiiiiiLu) (x1_5 : Int) (st : Int × Int) (r : Int) : Prop := CG P rd (fnN P 60) 7 (codeOf P 60 [false, true]) (qdr_ x1_1 x1_2 x1_3 x1_4 x1_5 st) (qds_ x1_1 x1_2 x1_3 x1_4 x1_5 r)
def qc4_ (n : Nat) (x1_1 : WL rw_iiiiiiLu) (x1_2 : Int) (x1_3 : Int) (x1_4 : WL rw_iiiiiiLu) (x1_5 : Int) (st : Int × Int) : Option ((Int × Int) ⊕ (Int)) := match st with
 | (x1_0, x1_6) =>
  if x1_6 < x1_5 then
   if 0 ≤ x1_6 ∧ x1_6 < (((x1_4).l.length : Nat) : Int) then
    ((some (((x1_4).l).getD (x1_6).toNat (0, 0, 0, 0, 0, 0, nl0, 0)))).bind fun y1_3_ =>
    (qb7_ n x1_0 x1_1 x1_2 x1_3 (y1_3_.2.2.2.2.2.2.2)).bind fun y1_4_ =>
    some (.inl (y1_4_, (w64 (x1_6 + (1 : Int)))))
   else none
  else
   some (.inr x1_0)
def qig_ (n : Nat) (x1_1 : WL rw_iiiiiiLu) (x1_2 : Int) (x1_3 : Int) (x1_4 : WL rw_iiiiiiLu) (x1_5 : Int) (st : Int × Int) : Option (Int) := iterM (qc4_ n x1_1 x1_2 x1_3 x1_4 x1_5) n st
theorem qkp_ (n : Nat) {rnd : Option Nat} (x1_1 : WL rw_iiiiiiLu) (x1_2 : Int) (x1_3 : Int) (x1_4 : WL rw_iiiiiiLu) (x1_5 : Int) (st : Int × Int) (o : (Int × Int) ⊕ (Int)) (h : qc4_ n x1_1 x1_2 x1_3 x1_4 x1_5 st = some o) : CG P rnd (fnN P 60) 7 (codeOf P 60 [false, false, true]) (qdr_ x1_1 x1_2 x1_3 x1_4 x1_5 st) (Sum.elim (fun s => (.normal, qdr_ x1_1 x1_2 x1_3 x1_4 x1_5 s)) (fun r => qds_ x1_1 x1_2 x1_3 x1_4 x1_5 r) o) := by
 obtain ⟨x1_0, x1_6⟩ := st
 unfold qc4_ at h
 dsimp only at h
 by_cases hy1_1 : x1_6 < x1_5
 ·rw [if_pos hy1_1] at h
  obtain ⟨hy1_2, h⟩ := gd h
  obtain ⟨y1_3_, hy1_3, h⟩ := oB h
  obtain ⟨y1_4_, hy1_4, h⟩ := oB h
  obtain rfl := oI h
  exact runC2 hm ⟨[0, 10, 11, 12], [(0, 0, false), (1, 1, false), (2, 2, false), (3, 3, false), (4, 4, false), (5, 5, false), (6, 6, false)], 7, 0, [], false, [], [], []⟩ (zz 1 (xdT hy1_1) <|
   zz 7 (xk1 (x1_4).num (x1_4).off (x1_4).cap hy1_2) <|
   zz 8 (lk2 hy1_3 (toNatLt hy1_2)) <|
   yy 15 (.call (qiv_ x1_0 x1_1 x1_2 x1_3 (y1_3_.2.2.2.2.2.2.2) y1_4_ [(0, 0, false), (1, 1, false), (2, 2, false), (3, 3, false), (4, 4, false), (5, 5, false), (6, 6, false)] [(0, 0, false), (1, 1, false), (2, 2, false), (3, 3, false), (4, 4, false), (5, 5, false), (6, 6, false)])) <|
   ww (qhv_ n x1_0 x1_1 x1_2 x1_3 (y1_3_.2.2.2.2.2.2.2) y1_4_ hy1_4) <|
   ee) (by kernel_rfl)
 ·rw [if_neg hy1_1] at h
  obtain rfl := oI h
  exact runC2 hm ⟨[], [(0, 0, false), (1, 1, false), (2, 2, false), (3, 3, false), (4, 4, false), (5, 5, false), (6, 6, false)], 7, 0, [], false, [], [], []⟩ (zz 1 (xdF hy1_1) <|
   ee) (by kernel_rfl)
theorem qmc_ (n : Nat) {rnd : Option Nat} (x1_1 : WL rw_iiiiiiLu) (x1_2 : Int) (x1_3 : Int) (x1_4 : WL rw_iiiiiiLu) (x1_5 : Int) (st : Int × Int) (r : Int) (h : qig_ n x1_1 x1_2 x1_3 x1_4 x1_5 st = some r) : CG P rnd (fnN P 60) 7 (codeOf P 60 [false, true]) (qdr_ x1_1 x1_2 x1_3 x1_4 x1_5 st) (qds_ x1_1 x1_2 x1_3 x1_4 x1_5 r) :=
 CG.iter (b := codeOf P 60 [false, false, true]) (by kernel_rfl) (body := qc4_ n x1_1 x1_2 x1_3 x1_4 x1_5) (S := qdr_ x1_1 x1_2 x1_3 x1_4 x1_5) (X := qds_ x1_1 x1_2 x1_3 x1_4 x1_5)
  (fun s s' h => qkp_ n x1_1 x1_2 x1_3 x1_4 x1_5 s (.inl s') h)
  (fun s r h => qkp_ n x1_1 x1_2 x1_3 x1_4 x1_5 s (.inr r) h)
  (fun r => by intro hx; cases hx) h
def qhx_ (n : Nat) (a0 : Int) (a1 : WL rw_iiiiiiLu) (a2 : Int) (a3 : Int) : Option (Int) :=
 if 0 ≤ a2 then
  if 0 ≤ a3 then
   if hc3 : (a2).toNat ≤ (a3).toNat ∧ (a3).toNat ≤ (a1).l.length then
    (qig_ n a1 a2 a3 (wlSub rwf_iiiiiiLu a1 (a2).toNat (a3).toNat hc3) ((((wlSub rwf_iiiiiiLu a1 (a2).toNat (a3).toNat hc3)).l.length : Nat) : Int) (a0, 0)).bind fun c4_ =>
    some c4_
   else none
  else none
 else none
theorem qm4_ (n : Nat) (a0 : Int) (a1 : WL rw_iiiiiiLu) (a2 : Int) (a3 : Int) (r : Int) (h : qhx_ n a0 a1 a2 a3 = some r) : Gv P (.func 60) (qlw_ a0 a1 a2 a3) (qlx_ a0 a1 a2 a3) (qjw_ a0 a1 a2 a3 r) (qjx_ a0 a1 a2 a3 r) := by
 unfold qhx_ at h
 obtain ⟨hc1, h⟩ := gd h
 obtain ⟨hc2, h⟩ := gd h
 obtain ⟨hc3, h⟩ := gdD h
 replace h := oB h
 obtain ⟨c4_, hc4, h⟩ := h
 obtain rfl := oI h
 exact runF2 hm ⟨[], [(0, 0, false), (1, 1, false), (2, 2, false), (3, 3, false), (4, 4, false), (5, 5, false), (6, 6, false)], 7, 0, [], false, [], [], []⟩ (yy 4 (.pur (wlV (wlSub rwf_iiiiiiLu a1 (a2).toNat (a3).toNat hc3))) <|
  ww (p := opSlice P 22 (wlV a1) (some (i6 a2)) (some (i6 a3)) none Ax.h0 = some ((wlV (wlSub rwf_iiiiiiLu a1 (a2).toNat (a3).toNat hc3)), Ax.h0)) (slWL (e := 49) rwf_iiiiiiLu a1 (by kernel_rfl) (by kernel_rfl) (bnd_int hc1) (bnd_int hc2) hc3) <|
  ww (p := qno_ none a1 a2 a3 (wlSub rwf_iiiiiiLu a1 (a2).toNat (a3).toNat hc3) ((((wlSub rwf_iiiiiiLu a1 (a2).toNat (a3).toNat hc3)).l.length : Nat) : Int) (a0, 0) c4_) (qmc_ n a1 a2 a3 (wlSub rwf_iiiiiiLu a1 (a2).toNat (a3).toNat hc3) ((((wlSub rwf_iiiiiiLu a1 (a2).toNat (a3).toNat hc3)).l.length : Nat) : Int) (a0, 0) c4_ hc4) <|
  ll 8 ⟨⟨[0, 10, 11, 12], [(0, 0, false), (1, 1, false), (2, 2, false), (3, 3, false), (4, 4, false), (5, 5, false), (6, 6, false)], 7, 0, [], false, [], [], []⟩, (qds_ a1 a2 a3 (wlSub rwf_iiiiiiLu a1 (a2).toNat (a3).toNat hc3) ((((wlSub rwf_iiiiiiLu a1 (a2).toNat (a3).toNat hc3)).l.length : Nat) : Int) c4_).1, (qds_ a1 a2 a3 (wlSub rwf_iiiiiiLu a1 (a2).toNat (a3).toNat hc3) ((((wlSub rwf_iiiiiiLu a1 (a2).toNat (a3).toNat hc3)).l.length : Nat) : Int) c4_).2⟩ <|
  ee) (by kernel_rfl)

def qhd_ (a0 : WL rw_iiiiiiLu) (a1 : Int) (a2 : Int) (a3 : Int) : List Value := [(Value.func (.func 60) #[] #[(pN 0 0), (pN 1 0), (pN 2 0)]), (Value.int .u64 a3), (Value.func (.func 59) #[] #[])]
def qhe_ (a0 : WL rw_iiiiiiLu) (a1 : Int) (a2 : Int) (a3 : Int) : AH := ⟨sB [(0, (some (.cells (layT [(wlV a0)]) 22))), (1, (some (.cells (layT [(i6 a1)]) 3))), (2, (some (.cells (layT [(i6 a2)]) 3)))], 3, 3⟩
def qeh_ (a0 : WL rw_iiiiiiLu) (a1 : Int) (a2 : Int) (a3 : Int) (r : Int) : Value := match r with
 | o0 => (Value.int .u64 o0)
def qei_ (a0 : WL rw_iiiiiiLu) (a1 : Int) (a2 : Int) (a3 : Int) (r : Int) : AH := match r with
 | o0 => ⟨sB [(0, (some (.cells (layT [(wlV a0)]) 22))), (1, (some (.cells (layT [(i6 a1)]) 3))), (2, (some (.cells (layT [(i6 a2)]) 3))), (3, (some (.marks false)))], 4, 0⟩
abbrev qo4_ (a0 : WL rw_iiiiiiLu) (a1 : Int) (a2 : Int) (a3 : Int) (r : Int) : Prop := Gv P (.func 58) (qhd_ a0 a1 a2 a3) (qhe_ a0 a1 a2 a3) (qeh_ a0 a1 a2 a3 r) (qei_ a0 a1 a2 a3 r)
abbrev qkf_ (a0 : WL rw_iiiiiiLu) (a1 : Int) (a2 : Int) (a3 : Int) (r : Int) (ins outs : BL) : CallA := ⟨3, ins, qeh_ a0 a1 a2 a3 r, qei_ a0 a1 a2 a3 r, outs⟩
def qdc_ (n : Nat) (a0 : WL rw_iiiiiiLu) (a1 : Int) (a2 : Int) (a3 : Int) : Option (Int) :=
 (qhx_ n a3 a0 a1 a2).bind fun c1_ =>
 some c1_
theorem qji_ (n : Nat) (a0 : WL rw_iiiiiiLu) (a1 : Int) (a2 : Int) (a3 : Int) (r : Int) (h : qdc_ n a0 a1 a2 a3 = some r) : Gv P (.func 58) (qhd_ a0 a1 a2 a3) (qhe_ a0 a1 a2 a3) (qeh_ a0 a1 a2 a3 r) (qei_ a0 a1 a2 a3 r) := by
 unfold qdc_ at h
 obtain ⟨c1_, hc1, h⟩ := oB h
 obtain rfl := oI h
 exact runF2 hm ⟨[6], [(0, 0, false), (1, 1, false), (2, 2, false), (3, 5, false)], 4, 0, [], false, [], [], []⟩ (yy 8 (.rng (qoj_ a3 a0 a1 a2 c1_ [(0, 6, false), (1, 5, false), (2, 3, false), (3, 4, false), (4, 0, false), (5, 1, false), (6, 2, false)] [(6, 0, false), (5, 1, false), (3, 2, false), (4, 3, false), (0, 4, false), (1, 5, false), (2, 6, false)]) [4, 5, 8]) <|
  ww (qm4_ n a3 a0 a1 a2 c1_ hc1) <|
  ee) (by kernel_rfl)

def qlg_ (a0 : WL rw_iiiiiiLu) (a1 : Int) (a2 : Int) : List Value := [(Value.func (.func 60) #[] #[(pN 0 0), (pN 1 0), (pN 2 0)])]
def qlh_ (a0 : WL rw_iiiiiiLu) (a1 : Int) (a2 : Int) : AH := ⟨sB [(0, (some (.cells (layT [(wlV a0)]) 22))), (1, (some (.cells (layT [(i6 a1)]) 3))), (2, (some (.cells (layT [(i6 a2)]) 3)))], 3, 3⟩
def qi7_ (a0 : WL rw_iiiiiiLu) (a1 : Int) (a2 : Int) (r : Int) : Value := match r with
 | o0 => (Value.int .u64 o0)
def qi8_ (a0 : WL rw_iiiiiiLu) (a1 : Int) (a2 : Int) (r : Int) : AH := match r with
 | o0 => ⟨sB [(0, (some (.cells (layT [(wlV a0)]) 22))), (1, (some (.cells (layT [(i6 a1)]) 3))), (2, (some (.cells (layT [(i6 a2)]) 3)))], 3, 0⟩
abbrev G_splicegatherq1 (a0 : WL rw_iiiiiiLu) (a1 : Int) (a2 : Int) (r : Int) : Prop := Gv P (.func 34) (qlg_ a0 a1 a2) (qlh_ a0 a1 a2) (qi7_ a0 a1 a2 r) (qi8_ a0 a1 a2 r)
abbrev qe3_ (a0 : WL rw_iiiiiiLu) (a1 : Int) (a2 : Int) (r : Int) (ins outs : BL) : CallA := ⟨3, ins, qi7_ a0 a1 a2 r, qi8_ a0 a1 a2 r, outs⟩
def qbj_ (n : Nat) (a0 : WL rw_iiiiiiLu) (a1 : Int) (a2 : Int) : Option (Int) :=
 (qdc_ n a0 a1 a2 0).bind fun c1_ =>
 some c1_
theorem qdz_ (n : Nat) (a0 : WL rw_iiiiiiLu) (a1 : Int) (a2 : Int) (r : Int) (h : qbj_ n a0 a1 a2 = some r) : Gv P (.func 34) (qlg_ a0 a1 a2) (qlh_ a0 a1 a2) (qi7_ a0 a1 a2 r) (qi8_ a0 a1 a2 r) := by
 unfold qbj_ at h
 obtain ⟨c1_, hc1, h⟩ := oB h
 obtain rfl := oI h
 exact runF2 hm ⟨[2], [(0, 0, false), (1, 1, false), (2, 2, false)], 3, 0, [], false, [], [], []⟩ (yy 4 (.call (qkf_ a0 a1 a2 0 c1_ [(0, 0, false), (1, 1, false), (2, 2, false)] [(0, 0, false), (1, 1, false), (2, 2, false)])) <|
  ww (qji_ n a0 a1 a2 0 c1_ hc1) <|
  ee) (by kernel_rfl)

def qli_ (a0 : Int) : List Value := [(i6 a0)]
def qlj_ (a0 : Int) : AH := ⟨sB [], 0, 0⟩
def qi9_ (a0 : Int) (r : Bool) : Value := match r with
 | o0 => (bO o0)
def qja_ (a0 : Int) (r : Bool) : AH := match r with
 | o0 => ⟨sB [], 0, 0⟩
abbrev G_spliceexistsq1 (a0 : Int) (r : Bool) : Prop := Gv P (.func 43) (qli_ a0) (qlj_ a0) (qi9_ a0 r) (qja_ a0 r)
abbrev qob_ (a0 : Int) (r : Bool) (ins outs : BL) : CallA := ⟨0, ins, qi9_ a0 r, qja_ a0 r, outs⟩
def qhf_ (n : Nat) (a0 : Int) : Option (Bool) :=
 if a0 ≥ (0 : Int) then
  if a0 < (64 : Int) then
   some true
  else
   some false
 else
  some false
theorem qmn_ (n : Nat) (a0 : Int) (r : Bool) (h : qhf_ n a0 = some r) : Gv P (.func 43) (qli_ a0) (qlj_ a0) (qi9_ a0 r) (qja_ a0 r) := by
 unfold qhf_ at h
 by_cases hc1 : a0 ≥ (0 : Int)
 ·rw [if_pos hc1] at h
  have k0 := fun {A L l} (k : PL A L l) => zz 4 (xdT hc1) <|
   k
  by_cases hc2 : a0 < (64 : Int)
  ·rw [if_pos hc2] at h
   obtain rfl := oI h
   exact runF2 hm ⟨[2], [], 0, 0, [], false, [], [], []⟩ (k0 <|
    zz 7 (xdT hc2) <|
    ee) (by kernel_rfl)
  ·rw [if_neg hc2] at h
   obtain rfl := oI h
   exact runF2 hm ⟨[2], [], 0, 0, [], false, [], [], []⟩ (k0 <|
    zz 7 (xdF hc2) <|
    ee) (by kernel_rfl)
 ·rw [if_neg hc1] at h
  obtain rfl := oI h
  exact runF2 hm ⟨[2], [], 0, 0, [], false, [], [], []⟩ (zz 4 (xdF hc1) <|
   ee) (by kernel_rfl)


end Go.Proofs.Ytofkckljnmphdaa.spb20
