/-
  What functions do, told by pure functions. No condition.
-/
import Derived.Test.YtpbcnplpaibjnaaHsoATold
set_option linter.unusedSimpArgs false
set_option linter.unusedVariables false
set_option linter.unusedSectionVars false
set_option linter.unnecessarySimpa false
namespace Go.Proofs.Ytpbcnplpaibjnaa.hsow
open Go Go.Proofs.Ytpbcnplpaibjnaa Ax
variable [Args]
noncomputable def A_viewportlaw23HeapSorts (g1 : Int) : List Value := [(sW 0 0 (Args.A).length Args.cA), (i6 g1)]
noncomputable def H_viewportlaw23HeapSorts (g1 : Int) : AH := ⟨sB [], 0, 0⟩
noncomputable def V_viewportlaw23HeapSorts (g1 : Int) (r : Unit) : Value := match r with
  | _ => (bO true)
noncomputable def R_viewportlaw23HeapSorts (g1 : Int) (r : Unit) : AH := match r with
  | _ => ⟨sB [], 0, 0⟩
noncomputable abbrev G_viewportlaw23HeapSorts (g1 : Int) (r : Unit) : Prop := Gv P (.func 3) (A_viewportlaw23HeapSorts g1) (H_viewportlaw23HeapSorts g1) (V_viewportlaw23HeapSorts g1 r) (R_viewportlaw23HeapSorts g1 r)
noncomputable abbrev C_viewportlaw23HeapSorts (g1 : Int) (r : Unit) (ins outs : BL) : CallA := ⟨0, ins, V_viewportlaw23HeapSorts g1 r, R_viewportlaw23HeapSorts g1 r, outs⟩
noncomputable def S_viewportlaw23HeapSorts_4 (x4_0 : Int) (x4_3 : Int) (st : List (Int × Int × Int) × Nat × MapI Int × Int × Int × Int) : XSt := match st with
  | (x4_1, x4_2, x4_4, x4_5, x4_6, x4_7) => (sT 149 [(0, (sW 0 0 (Args.A).length Args.cA)), (1, (i6 x4_0)), (5, (pN 0 0)), (12, (Value.map (some 2))), (13, (pN 3 0)), (14, (i6 x4_7))], [], ⟨sB [(0, (some (.cells (layT [(pN 0 0), (Value.func (.func 6) #[] #[]), (slQ x4_1 1 x4_2 3), (i6 x4_3)]) 40))), (1, (nblkR rw_iii x4_1 44)), (2, (some (.map (mEs mvI x4_4) (mLen x4_4)))), (3, (some (.cells (layT [(i6 x4_5), (i6 x4_6)]) 27)))], 4, 0⟩)
noncomputable def X_viewportlaw23HeapSorts_4 (x4_0 : Int) (x4_3 : Int) (r : List (Int × Int × Int) × Nat) : Ex × XSt := match r with
  | (z4_0, z4_1) => (.exit 6, (sT 149 [(5, (pN 0 0))], [], ⟨sB [(0, (some (.cells (layT [(pN 0 0), (Value.func (.func 6) #[] #[]), (slQ z4_0 1 z4_1 3), (i6 x4_3)]) 40))), (1, (nblkR rw_iii z4_0 44))], 2, 0⟩))
noncomputable abbrev Q_viewportlaw23HeapSorts_4 (rnd : Option Nat) (x4_0 : Int) (x4_3 : Int) (st : List (Int × Int × Int) × Nat × MapI Int × Int × Int × Int) (c : Ex × XSt) : Prop := CG P rnd (fnN P 3) 0 (codeOf P 3 [false, false, true, false, true, true, true, true, true, true, true, true, true, true, true]) (S_viewportlaw23HeapSorts_4 x4_0 x4_3 st) c
noncomputable abbrev U_viewportlaw23HeapSorts_4 (rd : Option Nat) (x4_0 : Int) (x4_3 : Int) (st : List (Int × Int × Int) × Nat × MapI Int × Int × Int × Int) (r : List (Int × Int × Int) × Nat) : Prop := CG P rd (fnN P 3) 0 (codeOf P 3 [false, true, false, true, true, true, true, true, true, true, true, true, true, true]) (S_viewportlaw23HeapSorts_4 x4_0 x4_3 st) (X_viewportlaw23HeapSorts_4 x4_0 x4_3 r)
def B_viewportlaw23HeapSorts_4 (n : Nat) (x4_0 : Int) (x4_3 : Int) (st : List (Int × Int × Int) × Nat × MapI Int × Int × Int × Int) : Option ((List (Int × Int × Int) × Nat × MapI Int × Int × Int × Int) ⊕ (List (Int × Int × Int) × Nat)) := match st with
  | (x4_1, x4_2, x4_4, x4_5, x4_6, x4_7) =>
    match x4_1 with
    | [] =>
      if x4_7 < (((Args.A).length : Nat) : Int) then
        none
      else
        some (.inr (([] : List (Int × Int × Int)), 0))
    | x4_1a :: x4_1t =>
      if x4_7 < (((Args.A).length : Nat) : Int) then
        (m_heapHeapviewportlaw23itemTakeq2 n (x4_1a :: x4_1t) x4_2 x4_3).bind fun t => match t with
        | (y4_2_0, y4_2_1, y4_2_2, y4_2_3, y4_2_4) =>
          match y4_2_0 with
          | [] =>
            none
          | y4_2_0a :: y4_2_0t =>
            if y4_2_4 = true then
              if y4_2_3 < (0 : Int) then
                none
              else
                if y4_2_3 ≥ (((Args.A).length : Nat) : Int) then
                  none
                else
                  if 0 ≤ y4_2_3 ∧ y4_2_3 < (((Args.A).length : Nat) : Int) then
                    if ((Args.A).getD (y4_2_3).toNat 0) = y4_2_2 then
                      if (mGetI x4_4 y4_2_3) = (0 : Int) then
                        if x4_7 > (0 : Int) then
                          if x4_5 > y4_2_2 then
                            none
                          else
                            if x4_0 = (0 : Int) then
                              if x4_5 = y4_2_2 then
                                if x4_6 > y4_2_3 then
                                  none
                                else
                                  some (.inl ((y4_2_0a :: y4_2_0t), y4_2_1, (mPut x4_4 y4_2_3 (1 : Int)), y4_2_2, y4_2_3, (w64 (x4_7 + (1 : Int)))))
                              else
                                some (.inl ((y4_2_0a :: y4_2_0t), y4_2_1, (mPut x4_4 y4_2_3 (1 : Int)), y4_2_2, y4_2_3, (w64 (x4_7 + (1 : Int)))))
                            else
                              some (.inl ((y4_2_0a :: y4_2_0t), y4_2_1, (mPut x4_4 y4_2_3 (1 : Int)), y4_2_2, y4_2_3, (w64 (x4_7 + (1 : Int)))))
                        else
                          some (.inl ((y4_2_0a :: y4_2_0t), y4_2_1, (mPut x4_4 y4_2_3 (1 : Int)), y4_2_2, y4_2_3, (w64 (x4_7 + (1 : Int)))))
                      else
                        none
                    else
                      none
                  else none
            else
              none
      else
        some (.inr ((x4_1a :: x4_1t), x4_2))
def m_viewportlaw23HeapSorts_4 (n : Nat) (x4_0 : Int) (x4_3 : Int) (st : List (Int × Int × Int) × Nat × MapI Int × Int × Int × Int) : Option (List (Int × Int × Int) × Nat) := iterM (B_viewportlaw23HeapSorts_4 n x4_0 x4_3) n st
set_option maxRecDepth 100000 in
theorem q_viewportlaw23HeapSorts_4_0 (n : Nat) {rnd : Option Nat} (x4_0 : Int) (x4_2 : Nat) (x4_3 : Int) (x4_4 : MapI Int) (x4_5 x4_6 x4_7 : Int) (hy4_1 : ¬ (x4_7 < (((Args.A).length : Nat) : Int))) : Q_viewportlaw23HeapSorts_4 rnd x4_0 x4_3 (([] : List (Int × Int × Int)), x4_2, x4_4, x4_5, x4_6, x4_7) (X_viewportlaw23HeapSorts_4 x4_0 x4_3 (([] : List (Int × Int × Int)), 0)) :=
  runC2 hm (L := lT []) ⟨[5], [(0, 0, false)], 2, 0⟩ (zz 5 (xdF hy4_1) <|
ee) (by kernel_rfl)
set_option maxRecDepth 100000 in
theorem q_viewportlaw23HeapSorts_4_1 (n : Nat) {rnd : Option Nat} (x4_0 : Int) (x4_1a : Int × Int × Int) (x4_1t : List (Int × Int × Int)) (x4_2 : Nat) (x4_3 : Int) (x4_4 : MapI Int) (x4_5 x4_6 x4_7 : Int) (hy4_1 : x4_7 < (((Args.A).length : Nat) : Int)) (y4_2_0a : Int × Int × Int) (y4_2_0t : List (Int × Int × Int)) (y4_2_1 : Nat) (y4_2_2 y4_2_3 : Int) (y4_2_4 : Bool) (hy4_2 : m_heapHeapviewportlaw23itemTakeq2 n (x4_1a :: x4_1t) x4_2 x4_3 = some ((y4_2_0a :: y4_2_0t), y4_2_1, y4_2_2, y4_2_3, y4_2_4)) (hy4_3 : y4_2_4 = true) (hy4_4 : ¬ (y4_2_3 < (0 : Int))) (hy4_5 : ¬ (y4_2_3 ≥ (((Args.A).length : Nat) : Int))) (hy4_6 : 0 ≤ y4_2_3 ∧ y4_2_3 < (((Args.A).length : Nat) : Int)) (hy4_7 : ((Args.A).getD (y4_2_3).toNat 0) = y4_2_2) (hy4_8 : (mGetI x4_4 y4_2_3) = (0 : Int)) (hy4_9 : x4_7 > (0 : Int)) (hy4_10 : ¬ (x4_5 > y4_2_2)) (hy4_11 : x4_0 = (0 : Int)) (hy4_12 : x4_5 = y4_2_2) (hy4_13 : ¬ (x4_6 > y4_2_3)) : Q_viewportlaw23HeapSorts_4 rnd x4_0 x4_3 ((x4_1a :: x4_1t), x4_2, x4_4, x4_5, x4_6, x4_7) (.normal, S_viewportlaw23HeapSorts_4 x4_0 x4_3 ((y4_2_0a :: y4_2_0t), y4_2_1, (mPut x4_4 y4_2_3 (1 : Int)), y4_2_2, y4_2_3, (w64 (x4_7 + (1 : Int))))) :=
  runC2 hm (L := lT []) ⟨[0, 1, 5, 12, 13, 14], [(0, 0, false), (1, 1, true), (2, 2, true), (3, 3, false)], 4, 0⟩ (zz 5 (xdT hy4_1) <|
yy 11 (.call (C_heapHeapviewportlaw23itemTakeq2 (x4_1a :: x4_1t) x4_2 x4_3 ((y4_2_0a :: y4_2_0t), y4_2_1, y4_2_2, y4_2_3, y4_2_4) [(0, 0, false), (1, 1, true)] [(0, 0, false), (1, 1, true), (4, 2, false)])) <|
ww (m_heapHeapviewportlaw23itemTakeq2_ok n (x4_1a :: x4_1t) x4_2 x4_3 ((y4_2_0a :: y4_2_0t), y4_2_1, y4_2_2, y4_2_3, y4_2_4) hy4_2) <|
ww (rows_flat rwf_iii (x4_1a :: x4_1t) 44) <|
ww (rows_flat rwf_iii (y4_2_0a :: y4_2_0t) 44) <|
yy 21 (vf) <|
ww (p := (Value.bool (!y4_2_4)) = (Value.bool false)) (vBn hy4_3) <|
zz 25 (xdF hy4_4) <|
zz 32 (xdF hy4_5) <|
zz 38 (xk1 0 Args.cA hy4_6) <|
yy 39 (.ld (i6 ((Args.A).getD (y4_2_3).toNat 0))) <|
ww (p := Lg P 3 (pW 0 (y4_2_3).toNat) (i6 ((Args.A).getD (y4_2_3).toNat 0))) (ldW rfl (by kernel_rfl) (toNatLt hy4_6)) <|
zz 42 (xnF hy4_7) <|
yy 48 (.mlk (i6 (mGetI x4_4 y4_2_3))) <|
ww (p := ∀ H : AH, oc (findU (.int .i64) (i6 y4_2_3) (mEs mvI x4_4) 0) none (fun r => lookRes P 3 false H r) = some ((i6 (mGetI x4_4 y4_2_3)), H)) (mlookI (by kernel_rfl) _ _) <|
zz 49 (xnF hy4_8) <|
zz 53 (xdT hy4_9) <|
zz 59 (xdF hy4_10) <|
zz 62 (xeT hy4_11) <|
zz 68 (xeT hy4_12) <|
zz 75 (xdF hy4_13) <|
yy 85 (.mup (mEs mvI (mPut x4_4 y4_2_3 (1 : Int))) (mLen (mPut x4_4 y4_2_3 (1 : Int)))) <|
ww (p := oc (findU (.int .i64) (i6 y4_2_3) (mEs mvI x4_4) 0) none (fun r => some (updEs (mEs mvI x4_4, mLen x4_4) (i6 y4_2_3) (i6 (1 : Int)) r)) = some (.map (mEs mvI (mPut x4_4 y4_2_3 (1 : Int))) (mLen (mPut x4_4 y4_2_3 (1 : Int))))) (mput_ok mvI _ _ _) <|
ww (rows_flat rwf_iii (y4_2_0a :: y4_2_0t) 44) <|
ww (mflat mvI (fun _ => rfl) (mPut x4_4 y4_2_3 (1 : Int)) (mLen (mPut x4_4 y4_2_3 (1 : Int)))) <|
ee) (by kernel_rfl)
set_option maxRecDepth 100000 in
theorem q_viewportlaw23HeapSorts_4_2 (n : Nat) {rnd : Option Nat} (x4_0 : Int) (x4_1a : Int × Int × Int) (x4_1t : List (Int × Int × Int)) (x4_2 : Nat) (x4_3 : Int) (x4_4 : MapI Int) (x4_5 x4_6 x4_7 : Int) (hy4_1 : x4_7 < (((Args.A).length : Nat) : Int)) (y4_2_0a : Int × Int × Int) (y4_2_0t : List (Int × Int × Int)) (y4_2_1 : Nat) (y4_2_2 y4_2_3 : Int) (y4_2_4 : Bool) (hy4_2 : m_heapHeapviewportlaw23itemTakeq2 n (x4_1a :: x4_1t) x4_2 x4_3 = some ((y4_2_0a :: y4_2_0t), y4_2_1, y4_2_2, y4_2_3, y4_2_4)) (hy4_3 : y4_2_4 = true) (hy4_4 : ¬ (y4_2_3 < (0 : Int))) (hy4_5 : ¬ (y4_2_3 ≥ (((Args.A).length : Nat) : Int))) (hy4_6 : 0 ≤ y4_2_3 ∧ y4_2_3 < (((Args.A).length : Nat) : Int)) (hy4_7 : ((Args.A).getD (y4_2_3).toNat 0) = y4_2_2) (hy4_8 : (mGetI x4_4 y4_2_3) = (0 : Int)) (hy4_9 : x4_7 > (0 : Int)) (hy4_10 : ¬ (x4_5 > y4_2_2)) (hy4_11 : x4_0 = (0 : Int)) (hy4_12 : ¬ (x4_5 = y4_2_2)) : Q_viewportlaw23HeapSorts_4 rnd x4_0 x4_3 ((x4_1a :: x4_1t), x4_2, x4_4, x4_5, x4_6, x4_7) (.normal, S_viewportlaw23HeapSorts_4 x4_0 x4_3 ((y4_2_0a :: y4_2_0t), y4_2_1, (mPut x4_4 y4_2_3 (1 : Int)), y4_2_2, y4_2_3, (w64 (x4_7 + (1 : Int))))) :=
  runC2 hm (L := lT []) ⟨[0, 1, 5, 12, 13, 14], [(0, 0, false), (1, 1, true), (2, 2, true), (3, 3, false)], 4, 0⟩ (zz 5 (xdT hy4_1) <|
yy 11 (.call (C_heapHeapviewportlaw23itemTakeq2 (x4_1a :: x4_1t) x4_2 x4_3 ((y4_2_0a :: y4_2_0t), y4_2_1, y4_2_2, y4_2_3, y4_2_4) [(0, 0, false), (1, 1, true)] [(0, 0, false), (1, 1, true), (4, 2, false)])) <|
ww (m_heapHeapviewportlaw23itemTakeq2_ok n (x4_1a :: x4_1t) x4_2 x4_3 ((y4_2_0a :: y4_2_0t), y4_2_1, y4_2_2, y4_2_3, y4_2_4) hy4_2) <|
ww (rows_flat rwf_iii (x4_1a :: x4_1t) 44) <|
ww (rows_flat rwf_iii (y4_2_0a :: y4_2_0t) 44) <|
yy 21 (vf) <|
ww (p := (Value.bool (!y4_2_4)) = (Value.bool false)) (vBn hy4_3) <|
zz 25 (xdF hy4_4) <|
zz 32 (xdF hy4_5) <|
zz 38 (xk1 0 Args.cA hy4_6) <|
yy 39 (.ld (i6 ((Args.A).getD (y4_2_3).toNat 0))) <|
ww (p := Lg P 3 (pW 0 (y4_2_3).toNat) (i6 ((Args.A).getD (y4_2_3).toNat 0))) (ldW rfl (by kernel_rfl) (toNatLt hy4_6)) <|
zz 42 (xnF hy4_7) <|
yy 48 (.mlk (i6 (mGetI x4_4 y4_2_3))) <|
ww (p := ∀ H : AH, oc (findU (.int .i64) (i6 y4_2_3) (mEs mvI x4_4) 0) none (fun r => lookRes P 3 false H r) = some ((i6 (mGetI x4_4 y4_2_3)), H)) (mlookI (by kernel_rfl) _ _) <|
zz 49 (xnF hy4_8) <|
zz 53 (xdT hy4_9) <|
zz 59 (xdF hy4_10) <|
zz 62 (xeT hy4_11) <|
zz 68 (xeF hy4_12) <|
yy 85 (.mup (mEs mvI (mPut x4_4 y4_2_3 (1 : Int))) (mLen (mPut x4_4 y4_2_3 (1 : Int)))) <|
ww (p := oc (findU (.int .i64) (i6 y4_2_3) (mEs mvI x4_4) 0) none (fun r => some (updEs (mEs mvI x4_4, mLen x4_4) (i6 y4_2_3) (i6 (1 : Int)) r)) = some (.map (mEs mvI (mPut x4_4 y4_2_3 (1 : Int))) (mLen (mPut x4_4 y4_2_3 (1 : Int))))) (mput_ok mvI _ _ _) <|
ww (rows_flat rwf_iii (y4_2_0a :: y4_2_0t) 44) <|
ww (mflat mvI (fun _ => rfl) (mPut x4_4 y4_2_3 (1 : Int)) (mLen (mPut x4_4 y4_2_3 (1 : Int)))) <|
ee) (by kernel_rfl)
set_option maxRecDepth 100000 in
theorem q_viewportlaw23HeapSorts_4_3 (n : Nat) {rnd : Option Nat} (x4_0 : Int) (x4_1a : Int × Int × Int) (x4_1t : List (Int × Int × Int)) (x4_2 : Nat) (x4_3 : Int) (x4_4 : MapI Int) (x4_5 x4_6 x4_7 : Int) (hy4_1 : x4_7 < (((Args.A).length : Nat) : Int)) (y4_2_0a : Int × Int × Int) (y4_2_0t : List (Int × Int × Int)) (y4_2_1 : Nat) (y4_2_2 y4_2_3 : Int) (y4_2_4 : Bool) (hy4_2 : m_heapHeapviewportlaw23itemTakeq2 n (x4_1a :: x4_1t) x4_2 x4_3 = some ((y4_2_0a :: y4_2_0t), y4_2_1, y4_2_2, y4_2_3, y4_2_4)) (hy4_3 : y4_2_4 = true) (hy4_4 : ¬ (y4_2_3 < (0 : Int))) (hy4_5 : ¬ (y4_2_3 ≥ (((Args.A).length : Nat) : Int))) (hy4_6 : 0 ≤ y4_2_3 ∧ y4_2_3 < (((Args.A).length : Nat) : Int)) (hy4_7 : ((Args.A).getD (y4_2_3).toNat 0) = y4_2_2) (hy4_8 : (mGetI x4_4 y4_2_3) = (0 : Int)) (hy4_9 : x4_7 > (0 : Int)) (hy4_10 : ¬ (x4_5 > y4_2_2)) (hy4_11 : ¬ (x4_0 = (0 : Int))) : Q_viewportlaw23HeapSorts_4 rnd x4_0 x4_3 ((x4_1a :: x4_1t), x4_2, x4_4, x4_5, x4_6, x4_7) (.normal, S_viewportlaw23HeapSorts_4 x4_0 x4_3 ((y4_2_0a :: y4_2_0t), y4_2_1, (mPut x4_4 y4_2_3 (1 : Int)), y4_2_2, y4_2_3, (w64 (x4_7 + (1 : Int))))) :=
  runC2 hm (L := lT []) ⟨[0, 1, 5, 12, 13, 14], [(0, 0, false), (1, 1, true), (2, 2, true), (3, 3, false)], 4, 0⟩ (zz 5 (xdT hy4_1) <|
yy 11 (.call (C_heapHeapviewportlaw23itemTakeq2 (x4_1a :: x4_1t) x4_2 x4_3 ((y4_2_0a :: y4_2_0t), y4_2_1, y4_2_2, y4_2_3, y4_2_4) [(0, 0, false), (1, 1, true)] [(0, 0, false), (1, 1, true), (4, 2, false)])) <|
ww (m_heapHeapviewportlaw23itemTakeq2_ok n (x4_1a :: x4_1t) x4_2 x4_3 ((y4_2_0a :: y4_2_0t), y4_2_1, y4_2_2, y4_2_3, y4_2_4) hy4_2) <|
ww (rows_flat rwf_iii (x4_1a :: x4_1t) 44) <|
ww (rows_flat rwf_iii (y4_2_0a :: y4_2_0t) 44) <|
yy 21 (vf) <|
ww (p := (Value.bool (!y4_2_4)) = (Value.bool false)) (vBn hy4_3) <|
zz 25 (xdF hy4_4) <|
zz 32 (xdF hy4_5) <|
zz 38 (xk1 0 Args.cA hy4_6) <|
yy 39 (.ld (i6 ((Args.A).getD (y4_2_3).toNat 0))) <|
ww (p := Lg P 3 (pW 0 (y4_2_3).toNat) (i6 ((Args.A).getD (y4_2_3).toNat 0))) (ldW rfl (by kernel_rfl) (toNatLt hy4_6)) <|
zz 42 (xnF hy4_7) <|
yy 48 (.mlk (i6 (mGetI x4_4 y4_2_3))) <|
ww (p := ∀ H : AH, oc (findU (.int .i64) (i6 y4_2_3) (mEs mvI x4_4) 0) none (fun r => lookRes P 3 false H r) = some ((i6 (mGetI x4_4 y4_2_3)), H)) (mlookI (by kernel_rfl) _ _) <|
zz 49 (xnF hy4_8) <|
zz 53 (xdT hy4_9) <|
zz 59 (xdF hy4_10) <|
zz 62 (xeF hy4_11) <|
yy 85 (.mup (mEs mvI (mPut x4_4 y4_2_3 (1 : Int))) (mLen (mPut x4_4 y4_2_3 (1 : Int)))) <|
ww (p := oc (findU (.int .i64) (i6 y4_2_3) (mEs mvI x4_4) 0) none (fun r => some (updEs (mEs mvI x4_4, mLen x4_4) (i6 y4_2_3) (i6 (1 : Int)) r)) = some (.map (mEs mvI (mPut x4_4 y4_2_3 (1 : Int))) (mLen (mPut x4_4 y4_2_3 (1 : Int))))) (mput_ok mvI _ _ _) <|
ww (rows_flat rwf_iii (y4_2_0a :: y4_2_0t) 44) <|
ww (mflat mvI (fun _ => rfl) (mPut x4_4 y4_2_3 (1 : Int)) (mLen (mPut x4_4 y4_2_3 (1 : Int)))) <|
ee) (by kernel_rfl)
set_option maxRecDepth 100000 in
theorem q_viewportlaw23HeapSorts_4_4 (n : Nat) {rnd : Option Nat} (x4_0 : Int) (x4_1a : Int × Int × Int) (x4_1t : List (Int × Int × Int)) (x4_2 : Nat) (x4_3 : Int) (x4_4 : MapI Int) (x4_5 x4_6 x4_7 : Int) (hy4_1 : x4_7 < (((Args.A).length : Nat) : Int)) (y4_2_0a : Int × Int × Int) (y4_2_0t : List (Int × Int × Int)) (y4_2_1 : Nat) (y4_2_2 y4_2_3 : Int) (y4_2_4 : Bool) (hy4_2 : m_heapHeapviewportlaw23itemTakeq2 n (x4_1a :: x4_1t) x4_2 x4_3 = some ((y4_2_0a :: y4_2_0t), y4_2_1, y4_2_2, y4_2_3, y4_2_4)) (hy4_3 : y4_2_4 = true) (hy4_4 : ¬ (y4_2_3 < (0 : Int))) (hy4_5 : ¬ (y4_2_3 ≥ (((Args.A).length : Nat) : Int))) (hy4_6 : 0 ≤ y4_2_3 ∧ y4_2_3 < (((Args.A).length : Nat) : Int)) (hy4_7 : ((Args.A).getD (y4_2_3).toNat 0) = y4_2_2) (hy4_8 : (mGetI x4_4 y4_2_3) = (0 : Int)) (hy4_9 : ¬ (x4_7 > (0 : Int))) : Q_viewportlaw23HeapSorts_4 rnd x4_0 x4_3 ((x4_1a :: x4_1t), x4_2, x4_4, x4_5, x4_6, x4_7) (.normal, S_viewportlaw23HeapSorts_4 x4_0 x4_3 ((y4_2_0a :: y4_2_0t), y4_2_1, (mPut x4_4 y4_2_3 (1 : Int)), y4_2_2, y4_2_3, (w64 (x4_7 + (1 : Int))))) :=
  runC2 hm (L := lT []) ⟨[0, 1, 5, 12, 13, 14], [(0, 0, false), (1, 1, true), (2, 2, true), (3, 3, false)], 4, 0⟩ (zz 5 (xdT hy4_1) <|
yy 11 (.call (C_heapHeapviewportlaw23itemTakeq2 (x4_1a :: x4_1t) x4_2 x4_3 ((y4_2_0a :: y4_2_0t), y4_2_1, y4_2_2, y4_2_3, y4_2_4) [(0, 0, false), (1, 1, true)] [(0, 0, false), (1, 1, true), (4, 2, false)])) <|
ww (m_heapHeapviewportlaw23itemTakeq2_ok n (x4_1a :: x4_1t) x4_2 x4_3 ((y4_2_0a :: y4_2_0t), y4_2_1, y4_2_2, y4_2_3, y4_2_4) hy4_2) <|
ww (rows_flat rwf_iii (x4_1a :: x4_1t) 44) <|
ww (rows_flat rwf_iii (y4_2_0a :: y4_2_0t) 44) <|
yy 21 (vf) <|
ww (p := (Value.bool (!y4_2_4)) = (Value.bool false)) (vBn hy4_3) <|
zz 25 (xdF hy4_4) <|
zz 32 (xdF hy4_5) <|
zz 38 (xk1 0 Args.cA hy4_6) <|
yy 39 (.ld (i6 ((Args.A).getD (y4_2_3).toNat 0))) <|
ww (p := Lg P 3 (pW 0 (y4_2_3).toNat) (i6 ((Args.A).getD (y4_2_3).toNat 0))) (ldW rfl (by kernel_rfl) (toNatLt hy4_6)) <|
zz 42 (xnF hy4_7) <|
yy 48 (.mlk (i6 (mGetI x4_4 y4_2_3))) <|
ww (p := ∀ H : AH, oc (findU (.int .i64) (i6 y4_2_3) (mEs mvI x4_4) 0) none (fun r => lookRes P 3 false H r) = some ((i6 (mGetI x4_4 y4_2_3)), H)) (mlookI (by kernel_rfl) _ _) <|
zz 49 (xnF hy4_8) <|
zz 53 (xdF hy4_9) <|
yy 85 (.mup (mEs mvI (mPut x4_4 y4_2_3 (1 : Int))) (mLen (mPut x4_4 y4_2_3 (1 : Int)))) <|
ww (p := oc (findU (.int .i64) (i6 y4_2_3) (mEs mvI x4_4) 0) none (fun r => some (updEs (mEs mvI x4_4, mLen x4_4) (i6 y4_2_3) (i6 (1 : Int)) r)) = some (.map (mEs mvI (mPut x4_4 y4_2_3 (1 : Int))) (mLen (mPut x4_4 y4_2_3 (1 : Int))))) (mput_ok mvI _ _ _) <|
ww (rows_flat rwf_iii (y4_2_0a :: y4_2_0t) 44) <|
ww (mflat mvI (fun _ => rfl) (mPut x4_4 y4_2_3 (1 : Int)) (mLen (mPut x4_4 y4_2_3 (1 : Int)))) <|
ee) (by kernel_rfl)
set_option maxRecDepth 100000 in
theorem q_viewportlaw23HeapSorts_4_5 (n : Nat) {rnd : Option Nat} (x4_0 : Int) (x4_1a : Int × Int × Int) (x4_1t : List (Int × Int × Int)) (x4_2 : Nat) (x4_3 : Int) (x4_4 : MapI Int) (x4_5 x4_6 x4_7 : Int) (hy4_1 : ¬ (x4_7 < (((Args.A).length : Nat) : Int))) : Q_viewportlaw23HeapSorts_4 rnd x4_0 x4_3 ((x4_1a :: x4_1t), x4_2, x4_4, x4_5, x4_6, x4_7) (X_viewportlaw23HeapSorts_4 x4_0 x4_3 ((x4_1a :: x4_1t), x4_2)) :=
  runC2 hm (L := lT []) ⟨[5], [(0, 0, false), (1, 1, true)], 2, 0⟩ (zz 5 (xdF hy4_1) <|
ww (rows_flat rwf_iii (x4_1a :: x4_1t) 44) <|
ee) (by kernel_rfl)
theorem m_viewportlaw23HeapSorts_4_ok (n : Nat) {rnd : Option Nat} (x4_0 : Int) (x4_3 : Int) (st : List (Int × Int × Int) × Nat × MapI Int × Int × Int × Int) (r : List (Int × Int × Int) × Nat) (h : m_viewportlaw23HeapSorts_4 n x4_0 x4_3 st = some r) : CG P rnd (fnN P 3) 0 (codeOf P 3 [false, true, false, true, true, true, true, true, true, true, true, true, true, true]) (S_viewportlaw23HeapSorts_4 x4_0 x4_3 st) (X_viewportlaw23HeapSorts_4 x4_0 x4_3 r) :=
  CG.iter (b := codeOf P 3 [false, false, true, false, true, true, true, true, true, true, true, true, true, true, true]) (by kernel_rfl) (body := B_viewportlaw23HeapSorts_4 n x4_0 x4_3) (S := S_viewportlaw23HeapSorts_4 x4_0 x4_3) (X := X_viewportlaw23HeapSorts_4 x4_0 x4_3)
    (fun s s' h => by
    obtain ⟨x4_1, x4_2, x4_4, x4_5, x4_6, x4_7⟩ := s
    unfold B_viewportlaw23HeapSorts_4 at h
    dsimp only at h
    cases x4_1 with
    | nil =>
      dsimp only at h
      by_cases hy4_1 : x4_7 < (((Args.A).length : Nat) : Int)
      · rw [if_pos hy4_1] at h
        cases h
      · rw [if_neg hy4_1] at h
        cases h
    | cons x4_1a x4_1t =>
      dsimp only at h
      by_cases hy4_1 : x4_7 < (((Args.A).length : Nat) : Int)
      · rw [if_pos hy4_1] at h
        obtain ⟨⟨y4_2_0, y4_2_1, y4_2_2, y4_2_3, y4_2_4⟩, hy4_2, h⟩ := Option.bind_eq_some_iff.1 h
        dsimp only at h
        cases y4_2_0 with
        | nil =>
          dsimp only at h
          cases h
        | cons y4_2_0a y4_2_0t =>
          dsimp only at h
          by_cases hy4_3 : y4_2_4 = true
          · rw [if_pos hy4_3] at h
            by_cases hy4_4 : y4_2_3 < (0 : Int)
            · rw [if_pos hy4_4] at h
              cases h
            · rw [if_neg hy4_4] at h
              by_cases hy4_5 : y4_2_3 ≥ (((Args.A).length : Nat) : Int)
              · rw [if_pos hy4_5] at h
                cases h
              · rw [if_neg hy4_5] at h
                by_cases hy4_6 : 0 ≤ y4_2_3 ∧ y4_2_3 < (((Args.A).length : Nat) : Int)
                · rw [if_pos hy4_6] at h
                  by_cases hy4_7 : ((Args.A).getD (y4_2_3).toNat 0) = y4_2_2
                  · rw [if_pos hy4_7] at h
                    by_cases hy4_8 : (mGetI x4_4 y4_2_3) = (0 : Int)
                    · rw [if_pos hy4_8] at h
                      by_cases hy4_9 : x4_7 > (0 : Int)
                      · rw [if_pos hy4_9] at h
                        by_cases hy4_10 : x4_5 > y4_2_2
                        · rw [if_pos hy4_10] at h
                          cases h
                        · rw [if_neg hy4_10] at h
                          by_cases hy4_11 : x4_0 = (0 : Int)
                          · rw [if_pos hy4_11] at h
                            by_cases hy4_12 : x4_5 = y4_2_2
                            · rw [if_pos hy4_12] at h
                              by_cases hy4_13 : x4_6 > y4_2_3
                              · rw [if_pos hy4_13] at h
                                cases h
                              · rw [if_neg hy4_13] at h
                                obtain rfl := Sum.inl.inj (Option.some.inj h); exact q_viewportlaw23HeapSorts_4_1 n x4_0 x4_1a x4_1t x4_2 x4_3 x4_4 x4_5 x4_6 x4_7 hy4_1 y4_2_0a y4_2_0t y4_2_1 y4_2_2 y4_2_3 y4_2_4 hy4_2 hy4_3 hy4_4 hy4_5 hy4_6 hy4_7 hy4_8 hy4_9 hy4_10 hy4_11 hy4_12 hy4_13
                            · rw [if_neg hy4_12] at h
                              obtain rfl := Sum.inl.inj (Option.some.inj h); exact q_viewportlaw23HeapSorts_4_2 n x4_0 x4_1a x4_1t x4_2 x4_3 x4_4 x4_5 x4_6 x4_7 hy4_1 y4_2_0a y4_2_0t y4_2_1 y4_2_2 y4_2_3 y4_2_4 hy4_2 hy4_3 hy4_4 hy4_5 hy4_6 hy4_7 hy4_8 hy4_9 hy4_10 hy4_11 hy4_12
                          · rw [if_neg hy4_11] at h
                            obtain rfl := Sum.inl.inj (Option.some.inj h); exact q_viewportlaw23HeapSorts_4_3 n x4_0 x4_1a x4_1t x4_2 x4_3 x4_4 x4_5 x4_6 x4_7 hy4_1 y4_2_0a y4_2_0t y4_2_1 y4_2_2 y4_2_3 y4_2_4 hy4_2 hy4_3 hy4_4 hy4_5 hy4_6 hy4_7 hy4_8 hy4_9 hy4_10 hy4_11
                      · rw [if_neg hy4_9] at h
                        obtain rfl := Sum.inl.inj (Option.some.inj h); exact q_viewportlaw23HeapSorts_4_4 n x4_0 x4_1a x4_1t x4_2 x4_3 x4_4 x4_5 x4_6 x4_7 hy4_1 y4_2_0a y4_2_0t y4_2_1 y4_2_2 y4_2_3 y4_2_4 hy4_2 hy4_3 hy4_4 hy4_5 hy4_6 hy4_7 hy4_8 hy4_9
                    · rw [if_neg hy4_8] at h
                      cases h
                  · rw [if_neg hy4_7] at h
                    cases h
                · rw [if_neg hy4_6] at h; cases h
          · rw [if_neg hy4_3] at h
            cases h
      · rw [if_neg hy4_1] at h
        cases h)
    (fun s r h => by
    obtain ⟨x4_1, x4_2, x4_4, x4_5, x4_6, x4_7⟩ := s
    unfold B_viewportlaw23HeapSorts_4 at h
    dsimp only at h
    cases x4_1 with
    | nil =>
      dsimp only at h
      by_cases hy4_1 : x4_7 < (((Args.A).length : Nat) : Int)
      · rw [if_pos hy4_1] at h
        cases h
      · rw [if_neg hy4_1] at h
        obtain rfl := Sum.inr.inj (Option.some.inj h); exact q_viewportlaw23HeapSorts_4_0 n x4_0 x4_2 x4_3 x4_4 x4_5 x4_6 x4_7 hy4_1
    | cons x4_1a x4_1t =>
      dsimp only at h
      by_cases hy4_1 : x4_7 < (((Args.A).length : Nat) : Int)
      · rw [if_pos hy4_1] at h
        obtain ⟨⟨y4_2_0, y4_2_1, y4_2_2, y4_2_3, y4_2_4⟩, hy4_2, h⟩ := Option.bind_eq_some_iff.1 h
        dsimp only at h
        cases y4_2_0 with
        | nil =>
          dsimp only at h
          cases h
        | cons y4_2_0a y4_2_0t =>
          dsimp only at h
          by_cases hy4_3 : y4_2_4 = true
          · rw [if_pos hy4_3] at h
            by_cases hy4_4 : y4_2_3 < (0 : Int)
            · rw [if_pos hy4_4] at h
              cases h
            · rw [if_neg hy4_4] at h
              by_cases hy4_5 : y4_2_3 ≥ (((Args.A).length : Nat) : Int)
              · rw [if_pos hy4_5] at h
                cases h
              · rw [if_neg hy4_5] at h
                by_cases hy4_6 : 0 ≤ y4_2_3 ∧ y4_2_3 < (((Args.A).length : Nat) : Int)
                · rw [if_pos hy4_6] at h
                  by_cases hy4_7 : ((Args.A).getD (y4_2_3).toNat 0) = y4_2_2
                  · rw [if_pos hy4_7] at h
                    by_cases hy4_8 : (mGetI x4_4 y4_2_3) = (0 : Int)
                    · rw [if_pos hy4_8] at h
                      by_cases hy4_9 : x4_7 > (0 : Int)
                      · rw [if_pos hy4_9] at h
                        by_cases hy4_10 : x4_5 > y4_2_2
                        · rw [if_pos hy4_10] at h
                          cases h
                        · rw [if_neg hy4_10] at h
                          by_cases hy4_11 : x4_0 = (0 : Int)
                          · rw [if_pos hy4_11] at h
                            by_cases hy4_12 : x4_5 = y4_2_2
                            · rw [if_pos hy4_12] at h
                              by_cases hy4_13 : x4_6 > y4_2_3
                              · rw [if_pos hy4_13] at h
                                cases h
                              · rw [if_neg hy4_13] at h
                                cases h
                            · rw [if_neg hy4_12] at h
                              cases h
                          · rw [if_neg hy4_11] at h
                            cases h
                      · rw [if_neg hy4_9] at h
                        cases h
                    · rw [if_neg hy4_8] at h
                      cases h
                  · rw [if_neg hy4_7] at h
                    cases h
                · rw [if_neg hy4_6] at h; cases h
          · rw [if_neg hy4_3] at h
            cases h
      · rw [if_neg hy4_1] at h
        obtain rfl := Sum.inr.inj (Option.some.inj h); exact q_viewportlaw23HeapSorts_4_5 n x4_0 x4_1a x4_1t x4_2 x4_3 x4_4 x4_5 x4_6 x4_7 hy4_1)
    (fun r => by intro hx; cases hx) h
noncomputable def S_viewportlaw23HeapSorts_3 (x3_0 : Int) (st : List (Int × Int × Int) × Nat × Int × List (Int × Int) × Int) : XSt := match st with
  | (x3_1, x3_2, x3_3, x3_4, x3_5) => (sT 149 [(0, (sW 0 0 (Args.A).length Args.cA)), (1, (i6 x3_0)), (5, (pN 0 0)), (7, (slR x3_4 2 2)), (11, (i6 x3_5))], [], ⟨sB [(0, (some (.cells (layT [(pN 0 0), (Value.func (.func 6) #[] #[]), (slQ x3_1 1 x3_2 3), (i6 x3_3)]) 40))), (1, (nblkR rw_iii x3_1 44)), (2, (nblkR rw_ii x3_4 27))], 3, 0⟩)
noncomputable def X_viewportlaw23HeapSorts_3 (x3_0 : Int) (r : List (Int × Int × Int) × Nat × Int) : Ex × XSt := match r with
  | (z3_0, z3_1, z3_2) => (.exit 4, (sT 149 [(0, (sW 0 0 (Args.A).length Args.cA)), (1, (i6 x3_0)), (5, (pN 0 0))], [], ⟨sB [(0, (some (.cells (layT [(pN 0 0), (Value.func (.func 6) #[] #[]), (slQ z3_0 1 z3_1 3), (i6 z3_2)]) 40))), (1, (nblkR rw_iii z3_0 44))], 2, 0⟩))
noncomputable abbrev Q_viewportlaw23HeapSorts_3 (rnd : Option Nat) (x3_0 : Int) (st : List (Int × Int × Int) × Nat × Int × List (Int × Int) × Int) (c : Ex × XSt) : Prop := CG P rnd (fnN P 3) 0 (codeOf P 3 [false, false, true, false, true, true, true, true, true, true, true, true]) (S_viewportlaw23HeapSorts_3 x3_0 st) c
noncomputable abbrev U_viewportlaw23HeapSorts_3 (rd : Option Nat) (x3_0 : Int) (st : List (Int × Int × Int) × Nat × Int × List (Int × Int) × Int) (r : List (Int × Int × Int) × Nat × Int) : Prop := CG P rd (fnN P 3) 0 (codeOf P 3 [false, true, false, true, true, true, true, true, true, true, true]) (S_viewportlaw23HeapSorts_3 x3_0 st) (X_viewportlaw23HeapSorts_3 x3_0 r)
def B_viewportlaw23HeapSorts_3 (n : Nat) (x3_0 : Int) (st : List (Int × Int × Int) × Nat × Int × List (Int × Int) × Int) : Option ((List (Int × Int × Int) × Nat × Int × List (Int × Int) × Int) ⊕ (List (Int × Int × Int) × Nat × Int)) := match st with
  | (x3_1, x3_2, x3_3, x3_4, x3_5) =>
    match x3_1 with
    | [] =>
      match x3_4 with
      | [] =>
        if x3_5 < x3_0 then
          none
        else
          some (.inr (([] : List (Int × Int × Int)), 0, x3_3))
      | x3_4a :: x3_4t =>
        if x3_5 < x3_0 then
          if 0 ≤ x3_5 ∧ x3_5 < ((((x3_4a :: x3_4t)).length : Nat) : Int) then
            (m_heapHeapviewportlaw23itemPutq1 n x3_3 ((((x3_4a :: x3_4t)).getD (x3_5).toNat (0, 0)).1) ((((x3_4a :: x3_4t)).getD (x3_5).toNat (0, 0)).2)).bind fun y3_3_ =>
            match y3_3_ with
            | [] =>
              none
            | y3_3_a :: y3_3_t =>
              some (.inl ((y3_3_a :: y3_3_t), 1, (w64 (x3_3 + (1 : Int))), (x3_4a :: x3_4t), (w64 (x3_5 + (1 : Int)))))
          else none
        else
          some (.inr (([] : List (Int × Int × Int)), 0, x3_3))
    | x3_1a :: x3_1t =>
      match x3_4 with
      | [] =>
        if x3_5 < x3_0 then
          none
        else
          some (.inr ((x3_1a :: x3_1t), x3_2, x3_3))
      | x3_4a :: x3_4t =>
        if x3_5 < x3_0 then
          if 0 ≤ x3_5 ∧ x3_5 < ((((x3_4a :: x3_4t)).length : Nat) : Int) then
            (m_heapHeapviewportlaw23itemPutq3 n (x3_1a :: x3_1t) x3_2 x3_3 ((((x3_4a :: x3_4t)).getD (x3_5).toNat (0, 0)).1) ((((x3_4a :: x3_4t)).getD (x3_5).toNat (0, 0)).2)).bind fun t => match t with
            | (y3_3_0, y3_3_1) =>
              match y3_3_0 with
              | [] =>
                none
              | y3_3_0a :: y3_3_0t =>
                some (.inl ((y3_3_0a :: y3_3_0t), y3_3_1, (w64 (x3_3 + (1 : Int))), (x3_4a :: x3_4t), (w64 (x3_5 + (1 : Int)))))
          else none
        else
          some (.inr ((x3_1a :: x3_1t), x3_2, x3_3))
def m_viewportlaw23HeapSorts_3 (n : Nat) (x3_0 : Int) (st : List (Int × Int × Int) × Nat × Int × List (Int × Int) × Int) : Option (List (Int × Int × Int) × Nat × Int) := iterM (B_viewportlaw23HeapSorts_3 n x3_0) n st
set_option maxRecDepth 100000 in
theorem q_viewportlaw23HeapSorts_3_0 (n : Nat) {rnd : Option Nat} (x3_0 : Int) (x3_2 : Nat) (x3_3 x3_5 : Int) (hy3_1 : ¬ (x3_5 < x3_0)) : Q_viewportlaw23HeapSorts_3 rnd x3_0 (([] : List (Int × Int × Int)), x3_2, x3_3, ([] : List (Int × Int)), x3_5) (X_viewportlaw23HeapSorts_3 x3_0 (([] : List (Int × Int × Int)), 0, x3_3)) :=
  runC2 hm (L := lT []) ⟨[0, 1, 5], [(0, 0, false)], 2, 0⟩ (zz 4 (xdF hy3_1) <|
ee) (by kernel_rfl)
set_option maxRecDepth 100000 in
theorem q_viewportlaw23HeapSorts_3_1 (n : Nat) {rnd : Option Nat} (x3_0 : Int) (x3_2 : Nat) (x3_3 : Int) (x3_4a : Int × Int) (x3_4t : List (Int × Int)) (x3_5 : Int) (hy3_1 : x3_5 < x3_0) (hy3_2 : 0 ≤ x3_5 ∧ x3_5 < ((((x3_4a :: x3_4t)).length : Nat) : Int)) (y3_3_a : Int × Int × Int) (y3_3_t : List (Int × Int × Int)) (hy3_3 : m_heapHeapviewportlaw23itemPutq1 n x3_3 ((((x3_4a :: x3_4t)).getD (x3_5).toNat (0, 0)).1) ((((x3_4a :: x3_4t)).getD (x3_5).toNat (0, 0)).2) = some (y3_3_a :: y3_3_t)) : Q_viewportlaw23HeapSorts_3 rnd x3_0 (([] : List (Int × Int × Int)), x3_2, x3_3, (x3_4a :: x3_4t), x3_5) (.normal, S_viewportlaw23HeapSorts_3 x3_0 ((y3_3_a :: y3_3_t), 1, (w64 (x3_3 + (1 : Int))), (x3_4a :: x3_4t), (w64 (x3_5 + (1 : Int))))) :=
  runC2 hm (L := lT []) ⟨[0, 1, 5, 7, 11], [(0, 0, false), (1, 3, true), (2, 2, true)], 3, 0⟩ (zz 4 (xdT hy3_1) <|
zz 11 (xk3 2 U2 hy3_2) <|
yy 12 (.ld (Value.agg #[(i6 ((((x3_4a :: x3_4t)).getD (x3_5).toNat (0, 0)).1)), (i6 ((((x3_4a :: x3_4t)).getD (x3_5).toNat (0, 0)).2))])) <|
ww (p := rdT (layT (rows rw_ii (x3_4a :: x3_4t))) 2 ((x3_5).toNat * 2) = some [(i6 ((((x3_4a :: x3_4t)).getD (x3_5).toNat (0, 0)).1)), (i6 ((((x3_4a :: x3_4t)).getD (x3_5).toNat (0, 0)).2))]) (rows_rdp rwf_ii (0, 0) (i := (x3_5).toNat) (j := 0) ((x3_5).toNat * 2) rfl (toNatLt hy3_2) (by decide) rfl) <|
yy 13 (.call (C_heapHeapviewportlaw23itemPutq1 x3_3 ((((x3_4a :: x3_4t)).getD (x3_5).toNat (0, 0)).1) ((((x3_4a :: x3_4t)).getD (x3_5).toNat (0, 0)).2) (y3_3_a :: y3_3_t) [(0, 0, false)] [(0, 0, false), (3, 1, true)])) <|
ww (m_heapHeapviewportlaw23itemPutq1_ok n x3_3 ((((x3_4a :: x3_4t)).getD (x3_5).toNat (0, 0)).1) ((((x3_4a :: x3_4t)).getD (x3_5).toNat (0, 0)).2) (y3_3_a :: y3_3_t) hy3_3) <|
ww (rows_flat rwf_iii (y3_3_a :: y3_3_t) 44) <|
ww (rows_flat rwf_iii (y3_3_a :: y3_3_t) 44) <|
ww (rows_flat rwf_ii (x3_4a :: x3_4t) 27) <|
ee) (by kernel_rfl)
set_option maxRecDepth 100000 in
theorem q_viewportlaw23HeapSorts_3_2 (n : Nat) {rnd : Option Nat} (x3_0 : Int) (x3_2 : Nat) (x3_3 : Int) (x3_4a : Int × Int) (x3_4t : List (Int × Int)) (x3_5 : Int) (hy3_1 : ¬ (x3_5 < x3_0)) : Q_viewportlaw23HeapSorts_3 rnd x3_0 (([] : List (Int × Int × Int)), x3_2, x3_3, (x3_4a :: x3_4t), x3_5) (X_viewportlaw23HeapSorts_3 x3_0 (([] : List (Int × Int × Int)), 0, x3_3)) :=
  runC2 hm (L := lT []) ⟨[0, 1, 5], [(0, 0, false)], 2, 0⟩ (zz 4 (xdF hy3_1) <|
ee) (by kernel_rfl)
set_option maxRecDepth 100000 in
theorem q_viewportlaw23HeapSorts_3_3 (n : Nat) {rnd : Option Nat} (x3_0 : Int) (x3_1a : Int × Int × Int) (x3_1t : List (Int × Int × Int)) (x3_2 : Nat) (x3_3 x3_5 : Int) (hy3_1 : ¬ (x3_5 < x3_0)) : Q_viewportlaw23HeapSorts_3 rnd x3_0 ((x3_1a :: x3_1t), x3_2, x3_3, ([] : List (Int × Int)), x3_5) (X_viewportlaw23HeapSorts_3 x3_0 ((x3_1a :: x3_1t), x3_2, x3_3)) :=
  runC2 hm (L := lT []) ⟨[0, 1, 5], [(0, 0, false), (1, 1, true)], 2, 0⟩ (zz 4 (xdF hy3_1) <|
ww (rows_flat rwf_iii (x3_1a :: x3_1t) 44) <|
ee) (by kernel_rfl)
set_option maxRecDepth 100000 in
theorem q_viewportlaw23HeapSorts_3_4 (n : Nat) {rnd : Option Nat} (x3_0 : Int) (x3_1a : Int × Int × Int) (x3_1t : List (Int × Int × Int)) (x3_2 : Nat) (x3_3 : Int) (x3_4a : Int × Int) (x3_4t : List (Int × Int)) (x3_5 : Int) (hy3_1 : x3_5 < x3_0) (hy3_2 : 0 ≤ x3_5 ∧ x3_5 < ((((x3_4a :: x3_4t)).length : Nat) : Int)) (y3_3_0a : Int × Int × Int) (y3_3_0t : List (Int × Int × Int)) (y3_3_1 : Nat) (hy3_3 : m_heapHeapviewportlaw23itemPutq3 n (x3_1a :: x3_1t) x3_2 x3_3 ((((x3_4a :: x3_4t)).getD (x3_5).toNat (0, 0)).1) ((((x3_4a :: x3_4t)).getD (x3_5).toNat (0, 0)).2) = some ((y3_3_0a :: y3_3_0t), y3_3_1)) : Q_viewportlaw23HeapSorts_3 rnd x3_0 ((x3_1a :: x3_1t), x3_2, x3_3, (x3_4a :: x3_4t), x3_5) (.normal, S_viewportlaw23HeapSorts_3 x3_0 ((y3_3_0a :: y3_3_0t), y3_3_1, (w64 (x3_3 + (1 : Int))), (x3_4a :: x3_4t), (w64 (x3_5 + (1 : Int))))) :=
  runC2 hm (L := lT []) ⟨[0, 1, 5, 7, 11], [(0, 0, false), (1, 3, true), (2, 2, true)], 3, 0⟩ (zz 4 (xdT hy3_1) <|
zz 11 (xk3 2 U2 hy3_2) <|
yy 12 (.ld (Value.agg #[(i6 ((((x3_4a :: x3_4t)).getD (x3_5).toNat (0, 0)).1)), (i6 ((((x3_4a :: x3_4t)).getD (x3_5).toNat (0, 0)).2))])) <|
ww (p := rdT (layT (rows rw_ii (x3_4a :: x3_4t))) 2 ((x3_5).toNat * 2) = some [(i6 ((((x3_4a :: x3_4t)).getD (x3_5).toNat (0, 0)).1)), (i6 ((((x3_4a :: x3_4t)).getD (x3_5).toNat (0, 0)).2))]) (rows_rdp rwf_ii (0, 0) (i := (x3_5).toNat) (j := 0) ((x3_5).toNat * 2) rfl (toNatLt hy3_2) (by decide) rfl) <|
yy 13 (.call (C_heapHeapviewportlaw23itemPutq3 (x3_1a :: x3_1t) x3_2 x3_3 ((((x3_4a :: x3_4t)).getD (x3_5).toNat (0, 0)).1) ((((x3_4a :: x3_4t)).getD (x3_5).toNat (0, 0)).2) ((y3_3_0a :: y3_3_0t), y3_3_1) [(0, 0, false), (1, 1, true)] [(0, 0, false), (3, 2, true)])) <|
ww (m_heapHeapviewportlaw23itemPutq3_ok n (x3_1a :: x3_1t) x3_2 x3_3 ((((x3_4a :: x3_4t)).getD (x3_5).toNat (0, 0)).1) ((((x3_4a :: x3_4t)).getD (x3_5).toNat (0, 0)).2) ((y3_3_0a :: y3_3_0t), y3_3_1) hy3_3) <|
ww (rows_flat rwf_iii (x3_1a :: x3_1t) 44) <|
ww (rows_flat rwf_iii (y3_3_0a :: y3_3_0t) 44) <|
ww (rows_flat rwf_iii (y3_3_0a :: y3_3_0t) 44) <|
ww (rows_flat rwf_ii (x3_4a :: x3_4t) 27) <|
ee) (by kernel_rfl)
set_option maxRecDepth 100000 in
theorem q_viewportlaw23HeapSorts_3_5 (n : Nat) {rnd : Option Nat} (x3_0 : Int) (x3_1a : Int × Int × Int) (x3_1t : List (Int × Int × Int)) (x3_2 : Nat) (x3_3 : Int) (x3_4a : Int × Int) (x3_4t : List (Int × Int)) (x3_5 : Int) (hy3_1 : ¬ (x3_5 < x3_0)) : Q_viewportlaw23HeapSorts_3 rnd x3_0 ((x3_1a :: x3_1t), x3_2, x3_3, (x3_4a :: x3_4t), x3_5) (X_viewportlaw23HeapSorts_3 x3_0 ((x3_1a :: x3_1t), x3_2, x3_3)) :=
  runC2 hm (L := lT []) ⟨[0, 1, 5], [(0, 0, false), (1, 1, true)], 2, 0⟩ (zz 4 (xdF hy3_1) <|
ww (rows_flat rwf_iii (x3_1a :: x3_1t) 44) <|
ee) (by kernel_rfl)
theorem m_viewportlaw23HeapSorts_3_ok (n : Nat) {rnd : Option Nat} (x3_0 : Int) (st : List (Int × Int × Int) × Nat × Int × List (Int × Int) × Int) (r : List (Int × Int × Int) × Nat × Int) (h : m_viewportlaw23HeapSorts_3 n x3_0 st = some r) : CG P rnd (fnN P 3) 0 (codeOf P 3 [false, true, false, true, true, true, true, true, true, true, true]) (S_viewportlaw23HeapSorts_3 x3_0 st) (X_viewportlaw23HeapSorts_3 x3_0 r) :=
  CG.iter (b := codeOf P 3 [false, false, true, false, true, true, true, true, true, true, true, true]) (by kernel_rfl) (body := B_viewportlaw23HeapSorts_3 n x3_0) (S := S_viewportlaw23HeapSorts_3 x3_0) (X := X_viewportlaw23HeapSorts_3 x3_0)
    (fun s s' h => by
    obtain ⟨x3_1, x3_2, x3_3, x3_4, x3_5⟩ := s
    unfold B_viewportlaw23HeapSorts_3 at h
    dsimp only at h
    cases x3_1 with
    | nil =>
      dsimp only at h
      cases x3_4 with
      | nil =>
        dsimp only at h
        by_cases hy3_1 : x3_5 < x3_0
        · rw [if_pos hy3_1] at h
          cases h
        · rw [if_neg hy3_1] at h
          cases h
      | cons x3_4a x3_4t =>
        dsimp only at h
        by_cases hy3_1 : x3_5 < x3_0
        · rw [if_pos hy3_1] at h
          by_cases hy3_2 : 0 ≤ x3_5 ∧ x3_5 < ((((x3_4a :: x3_4t)).length : Nat) : Int)
          · rw [if_pos hy3_2] at h
            obtain ⟨y3_3_, hy3_3, h⟩ := Option.bind_eq_some_iff.1 h
            cases y3_3_ with
            | nil =>
              dsimp only at h
              cases h
            | cons y3_3_a y3_3_t =>
              dsimp only at h
              obtain rfl := Sum.inl.inj (Option.some.inj h); exact q_viewportlaw23HeapSorts_3_1 n x3_0 x3_2 x3_3 x3_4a x3_4t x3_5 hy3_1 hy3_2 y3_3_a y3_3_t hy3_3
          · rw [if_neg hy3_2] at h; cases h
        · rw [if_neg hy3_1] at h
          cases h
    | cons x3_1a x3_1t =>
      dsimp only at h
      cases x3_4 with
      | nil =>
        dsimp only at h
        by_cases hy3_1 : x3_5 < x3_0
        · rw [if_pos hy3_1] at h
          cases h
        · rw [if_neg hy3_1] at h
          cases h
      | cons x3_4a x3_4t =>
        dsimp only at h
        by_cases hy3_1 : x3_5 < x3_0
        · rw [if_pos hy3_1] at h
          by_cases hy3_2 : 0 ≤ x3_5 ∧ x3_5 < ((((x3_4a :: x3_4t)).length : Nat) : Int)
          · rw [if_pos hy3_2] at h
            obtain ⟨⟨y3_3_0, y3_3_1⟩, hy3_3, h⟩ := Option.bind_eq_some_iff.1 h
            dsimp only at h
            cases y3_3_0 with
            | nil =>
              dsimp only at h
              cases h
            | cons y3_3_0a y3_3_0t =>
              dsimp only at h
              obtain rfl := Sum.inl.inj (Option.some.inj h); exact q_viewportlaw23HeapSorts_3_4 n x3_0 x3_1a x3_1t x3_2 x3_3 x3_4a x3_4t x3_5 hy3_1 hy3_2 y3_3_0a y3_3_0t y3_3_1 hy3_3
          · rw [if_neg hy3_2] at h; cases h
        · rw [if_neg hy3_1] at h
          cases h)
    (fun s r h => by
    obtain ⟨x3_1, x3_2, x3_3, x3_4, x3_5⟩ := s
    unfold B_viewportlaw23HeapSorts_3 at h
    dsimp only at h
    cases x3_1 with
    | nil =>
      dsimp only at h
      cases x3_4 with
      | nil =>
        dsimp only at h
        by_cases hy3_1 : x3_5 < x3_0
        · rw [if_pos hy3_1] at h
          cases h
        · rw [if_neg hy3_1] at h
          obtain rfl := Sum.inr.inj (Option.some.inj h); exact q_viewportlaw23HeapSorts_3_0 n x3_0 x3_2 x3_3 x3_5 hy3_1
      | cons x3_4a x3_4t =>
        dsimp only at h
        by_cases hy3_1 : x3_5 < x3_0
        · rw [if_pos hy3_1] at h
          by_cases hy3_2 : 0 ≤ x3_5 ∧ x3_5 < ((((x3_4a :: x3_4t)).length : Nat) : Int)
          · rw [if_pos hy3_2] at h
            obtain ⟨y3_3_, hy3_3, h⟩ := Option.bind_eq_some_iff.1 h
            cases y3_3_ with
            | nil =>
              dsimp only at h
              cases h
            | cons y3_3_a y3_3_t =>
              dsimp only at h
              cases h
          · rw [if_neg hy3_2] at h; cases h
        · rw [if_neg hy3_1] at h
          obtain rfl := Sum.inr.inj (Option.some.inj h); exact q_viewportlaw23HeapSorts_3_2 n x3_0 x3_2 x3_3 x3_4a x3_4t x3_5 hy3_1
    | cons x3_1a x3_1t =>
      dsimp only at h
      cases x3_4 with
      | nil =>
        dsimp only at h
        by_cases hy3_1 : x3_5 < x3_0
        · rw [if_pos hy3_1] at h
          cases h
        · rw [if_neg hy3_1] at h
          obtain rfl := Sum.inr.inj (Option.some.inj h); exact q_viewportlaw23HeapSorts_3_3 n x3_0 x3_1a x3_1t x3_2 x3_3 x3_5 hy3_1
      | cons x3_4a x3_4t =>
        dsimp only at h
        by_cases hy3_1 : x3_5 < x3_0
        · rw [if_pos hy3_1] at h
          by_cases hy3_2 : 0 ≤ x3_5 ∧ x3_5 < ((((x3_4a :: x3_4t)).length : Nat) : Int)
          · rw [if_pos hy3_2] at h
            obtain ⟨⟨y3_3_0, y3_3_1⟩, hy3_3, h⟩ := Option.bind_eq_some_iff.1 h
            dsimp only at h
            cases y3_3_0 with
            | nil =>
              dsimp only at h
              cases h
            | cons y3_3_0a y3_3_0t =>
              dsimp only at h
              cases h
          · rw [if_neg hy3_2] at h; cases h
        · rw [if_neg hy3_1] at h
          obtain rfl := Sum.inr.inj (Option.some.inj h); exact q_viewportlaw23HeapSorts_3_5 n x3_0 x3_1a x3_1t x3_2 x3_3 x3_4a x3_4t x3_5 hy3_1)
    (fun r => by intro hx; cases hx) h
noncomputable def S_viewportlaw23HeapSorts_2 (x2_0 : Int) (x2_3 : Int) (st : List (Int × Int × Int) × Nat × List (Int × Int) × Int) : XSt := match st with
  | (x2_1, x2_2, x2_4, x2_5) => (sT 149 [(0, (sW 0 0 (Args.A).length Args.cA)), (1, (i6 x2_0)), (5, (pN 0 0)), (7, (slR x2_4 2 2)), (8, (i6 x2_5))], [], ⟨sB [(0, (some (.cells (layT [(pN 0 0), (Value.func (.func 6) #[] #[]), (slQ x2_1 1 x2_2 3), (i6 x2_3)]) 40))), (1, (nblkR rw_iii x2_1 44)), (2, (nblkR rw_ii x2_4 27))], 3, 0⟩)
noncomputable def X_viewportlaw23HeapSorts_2 (x2_0 : Int) (x2_3 : Int) (r : List (Int × Int × Int) × Nat × List (Int × Int)) : Ex × XSt := match r with
  | (z2_0, z2_1, z2_2) => (.exit 2, (sT 149 [(0, (sW 0 0 (Args.A).length Args.cA)), (1, (i6 x2_0)), (5, (pN 0 0)), (7, (slR z2_2 2 2))], [], ⟨sB [(0, (some (.cells (layT [(pN 0 0), (Value.func (.func 6) #[] #[]), (slQ z2_0 1 z2_1 3), (i6 x2_3)]) 40))), (1, (nblkR rw_iii z2_0 44)), (2, (nblkR rw_ii z2_2 27))], 3, 0⟩))
noncomputable abbrev Q_viewportlaw23HeapSorts_2 (rnd : Option Nat) (x2_0 : Int) (x2_3 : Int) (st : List (Int × Int × Int) × Nat × List (Int × Int) × Int) (c : Ex × XSt) : Prop := CG P rnd (fnN P 3) 0 (codeOf P 3 [false, false, true, false, true, true, true, true, true, true, true]) (S_viewportlaw23HeapSorts_2 x2_0 x2_3 st) c
noncomputable abbrev U_viewportlaw23HeapSorts_2 (rd : Option Nat) (x2_0 : Int) (x2_3 : Int) (st : List (Int × Int × Int) × Nat × List (Int × Int) × Int) (r : List (Int × Int × Int) × Nat × List (Int × Int)) : Prop := CG P rd (fnN P 3) 0 (codeOf P 3 [false, true, false, true, true, true, true, true, true, true]) (S_viewportlaw23HeapSorts_2 x2_0 x2_3 st) (X_viewportlaw23HeapSorts_2 x2_0 x2_3 r)
def B_viewportlaw23HeapSorts_2 (n : Nat) (x2_0 : Int) (x2_3 : Int) (st : List (Int × Int × Int) × Nat × List (Int × Int) × Int) : Option ((List (Int × Int × Int) × Nat × List (Int × Int) × Int) ⊕ (List (Int × Int × Int) × Nat × List (Int × Int))) := match st with
  | (x2_1, x2_2, x2_4, x2_5) =>
    match x2_1 with
    | [] =>
      match x2_4 with
      | [] =>
        if x2_5 < x2_0 then
          none
        else
          some (.inr (([] : List (Int × Int × Int)), 0, ([] : List (Int × Int))))
      | x2_4a :: x2_4t =>
        if x2_5 < x2_0 then
          none
        else
          some (.inr (([] : List (Int × Int × Int)), 0, (x2_4a :: x2_4t)))
    | x2_1a :: x2_1t =>
      match x2_4 with
      | [] =>
        if x2_5 < x2_0 then
          (m_heapHeapviewportlaw23itemTakeq2 n (x2_1a :: x2_1t) x2_2 x2_3).bind fun t => match t with
          | (y2_2_0, y2_2_1, y2_2_2, y2_2_3, y2_2_4) =>
            match y2_2_0 with
            | [] =>
              none
            | y2_2_0a :: y2_2_0t =>
              if y2_2_4 = true then
                some (.inl ((y2_2_0a :: y2_2_0t), y2_2_1, [(y2_2_2, y2_2_3)], (w64 (x2_5 + (1 : Int)))))
              else
                none
        else
          some (.inr ((x2_1a :: x2_1t), x2_2, ([] : List (Int × Int))))
      | x2_4a :: x2_4t =>
        if x2_5 < x2_0 then
          (m_heapHeapviewportlaw23itemTakeq2 n (x2_1a :: x2_1t) x2_2 x2_3).bind fun t => match t with
          | (y2_2_0, y2_2_1, y2_2_2, y2_2_3, y2_2_4) =>
            match y2_2_0 with
            | [] =>
              none
            | y2_2_0a :: y2_2_0t =>
              if y2_2_4 = true then
                if (((x2_4a :: x2_4t)).length + 1) * 16 ≤ 140737488355328 then
                  some (.inl ((y2_2_0a :: y2_2_0t), y2_2_1, ((x2_4a :: x2_4t) ++ [(y2_2_2, y2_2_3)]), (w64 (x2_5 + (1 : Int)))))
                else none
              else
                none
        else
          some (.inr ((x2_1a :: x2_1t), x2_2, (x2_4a :: x2_4t)))
def m_viewportlaw23HeapSorts_2 (n : Nat) (x2_0 : Int) (x2_3 : Int) (st : List (Int × Int × Int) × Nat × List (Int × Int) × Int) : Option (List (Int × Int × Int) × Nat × List (Int × Int)) := iterM (B_viewportlaw23HeapSorts_2 n x2_0 x2_3) n st
set_option maxRecDepth 100000 in
theorem q_viewportlaw23HeapSorts_2_0 (n : Nat) {rnd : Option Nat} (x2_0 : Int) (x2_2 : Nat) (x2_3 x2_5 : Int) (hy2_1 : ¬ (x2_5 < x2_0)) : Q_viewportlaw23HeapSorts_2 rnd x2_0 x2_3 (([] : List (Int × Int × Int)), x2_2, ([] : List (Int × Int)), x2_5) (X_viewportlaw23HeapSorts_2 x2_0 x2_3 (([] : List (Int × Int × Int)), 0, ([] : List (Int × Int)))) :=
  runC2 hm (L := lT []) ⟨[0, 1, 5, 7], [(0, 0, false)], 3, 0⟩ (zz 4 (xdF hy2_1) <|
ee) (by kernel_rfl)
set_option maxRecDepth 100000 in
theorem q_viewportlaw23HeapSorts_2_1 (n : Nat) {rnd : Option Nat} (x2_0 : Int) (x2_2 : Nat) (x2_3 : Int) (x2_4a : Int × Int) (x2_4t : List (Int × Int)) (x2_5 : Int) (hy2_1 : ¬ (x2_5 < x2_0)) : Q_viewportlaw23HeapSorts_2 rnd x2_0 x2_3 (([] : List (Int × Int × Int)), x2_2, (x2_4a :: x2_4t), x2_5) (X_viewportlaw23HeapSorts_2 x2_0 x2_3 (([] : List (Int × Int × Int)), 0, (x2_4a :: x2_4t))) :=
  runC2 hm (L := lT []) ⟨[0, 1, 5, 7], [(0, 0, false), (2, 2, true)], 3, 0⟩ (zz 4 (xdF hy2_1) <|
ww (rows_flat rwf_ii (x2_4a :: x2_4t) 27) <|
ee) (by kernel_rfl)
set_option maxRecDepth 100000 in
theorem q_viewportlaw23HeapSorts_2_2 (n : Nat) {rnd : Option Nat} (x2_0 : Int) (x2_1a : Int × Int × Int) (x2_1t : List (Int × Int × Int)) (x2_2 : Nat) (x2_3 x2_5 : Int) (hy2_1 : x2_5 < x2_0) (y2_2_0a : Int × Int × Int) (y2_2_0t : List (Int × Int × Int)) (y2_2_1 : Nat) (y2_2_2 y2_2_3 : Int) (y2_2_4 : Bool) (hy2_2 : m_heapHeapviewportlaw23itemTakeq2 n (x2_1a :: x2_1t) x2_2 x2_3 = some ((y2_2_0a :: y2_2_0t), y2_2_1, y2_2_2, y2_2_3, y2_2_4)) (hy2_3 : y2_2_4 = true) : Q_viewportlaw23HeapSorts_2 rnd x2_0 x2_3 ((x2_1a :: x2_1t), x2_2, ([] : List (Int × Int)), x2_5) (.normal, S_viewportlaw23HeapSorts_2 x2_0 x2_3 ((y2_2_0a :: y2_2_0t), y2_2_1, [(y2_2_2, y2_2_3)], (w64 (x2_5 + (1 : Int))))) :=
  runC2 hm (L := lT []) ⟨[0, 1, 5, 7, 8], [(0, 0, false), (1, 1, true), (2, 6, false)], 3, 0⟩ (zz 4 (xdT hy2_1) <|
yy 10 (.call (C_heapHeapviewportlaw23itemTakeq2 (x2_1a :: x2_1t) x2_2 x2_3 ((y2_2_0a :: y2_2_0t), y2_2_1, y2_2_2, y2_2_3, y2_2_4) [(0, 0, false), (1, 1, true)] [(0, 0, false), (1, 1, true), (3, 2, false)])) <|
ww (m_heapHeapviewportlaw23itemTakeq2_ok n (x2_1a :: x2_1t) x2_2 x2_3 ((y2_2_0a :: y2_2_0t), y2_2_1, y2_2_2, y2_2_3, y2_2_4) hy2_2) <|
ww (rows_flat rwf_iii (x2_1a :: x2_1t) 44) <|
ww (rows_flat rwf_iii (y2_2_0a :: y2_2_0t) 44) <|
yy 20 (vf) <|
ww (p := (Value.bool (!y2_2_4)) = (Value.bool false)) (vBn hy2_3) <|
ww (rows_flat rwf_iii (y2_2_0a :: y2_2_0t) 44) <|
ee) (by kernel_rfl)
set_option maxRecDepth 100000 in
theorem q_viewportlaw23HeapSorts_2_3 (n : Nat) {rnd : Option Nat} (x2_0 : Int) (x2_1a : Int × Int × Int) (x2_1t : List (Int × Int × Int)) (x2_2 : Nat) (x2_3 x2_5 : Int) (hy2_1 : ¬ (x2_5 < x2_0)) : Q_viewportlaw23HeapSorts_2 rnd x2_0 x2_3 ((x2_1a :: x2_1t), x2_2, ([] : List (Int × Int)), x2_5) (X_viewportlaw23HeapSorts_2 x2_0 x2_3 ((x2_1a :: x2_1t), x2_2, ([] : List (Int × Int)))) :=
  runC2 hm (L := lT []) ⟨[0, 1, 5, 7], [(0, 0, false), (1, 1, true)], 3, 0⟩ (zz 4 (xdF hy2_1) <|
ww (rows_flat rwf_iii (x2_1a :: x2_1t) 44) <|
ee) (by kernel_rfl)
set_option maxRecDepth 100000 in
theorem q_viewportlaw23HeapSorts_2_4 (n : Nat) {rnd : Option Nat} (x2_0 : Int) (x2_1a : Int × Int × Int) (x2_1t : List (Int × Int × Int)) (x2_2 : Nat) (x2_3 : Int) (x2_4a : Int × Int) (x2_4t : List (Int × Int)) (x2_5 : Int) (hy2_1 : x2_5 < x2_0) (y2_2_0a : Int × Int × Int) (y2_2_0t : List (Int × Int × Int)) (y2_2_1 : Nat) (y2_2_2 y2_2_3 : Int) (y2_2_4 : Bool) (hy2_2 : m_heapHeapviewportlaw23itemTakeq2 n (x2_1a :: x2_1t) x2_2 x2_3 = some ((y2_2_0a :: y2_2_0t), y2_2_1, y2_2_2, y2_2_3, y2_2_4)) (hy2_3 : y2_2_4 = true) (hy2_4 : (((x2_4a :: x2_4t)).length + 1) * 16 ≤ 140737488355328) : Q_viewportlaw23HeapSorts_2 rnd x2_0 x2_3 ((x2_1a :: x2_1t), x2_2, (x2_4a :: x2_4t), x2_5) (.normal, S_viewportlaw23HeapSorts_2 x2_0 x2_3 ((y2_2_0a :: y2_2_0t), y2_2_1, ((x2_4a :: x2_4t) ++ [(y2_2_2, y2_2_3)]), (w64 (x2_5 + (1 : Int))))) :=
  runC2 hm (L := lT []) ⟨[0, 1, 5, 7, 8], [(0, 0, false), (1, 1, true), (2, 6, true)], 3, 0⟩ (zz 4 (xdT hy2_1) <|
yy 10 (.call (C_heapHeapviewportlaw23itemTakeq2 (x2_1a :: x2_1t) x2_2 x2_3 ((y2_2_0a :: y2_2_0t), y2_2_1, y2_2_2, y2_2_3, y2_2_4) [(0, 0, false), (1, 1, true)] [(0, 0, false), (1, 1, true), (3, 2, false)])) <|
ww (m_heapHeapviewportlaw23itemTakeq2_ok n (x2_1a :: x2_1t) x2_2 x2_3 ((y2_2_0a :: y2_2_0t), y2_2_1, y2_2_2, y2_2_3, y2_2_4) hy2_2) <|
ww (rows_flat rwf_iii (x2_1a :: x2_1t) 44) <|
ww (rows_flat rwf_iii (y2_2_0a :: y2_2_0t) 44) <|
yy 20 (vf) <|
ww (p := (Value.bool (!y2_2_4)) = (Value.bool false)) (vBn hy2_3) <|
yy 25 (.app ⟨none, rows rw_ii (x2_4a :: x2_4t), (rows rw_ii ((x2_4a :: x2_4t) ++ [(y2_2_2, y2_2_3)])), (((x2_4a :: x2_4t) ++ [(y2_2_2, y2_2_3)])).length, false⟩) <|
ww (p := 0 < 1) ((by decide)) <|
ww (p := rdT (layT (rows rw_ii (x2_4a :: x2_4t))) (Nat.mul ((x2_4a :: x2_4t)).length 2) 0 = some (rows rw_ii (x2_4a :: x2_4t))) (rows_rd rwf_ii _ _ rfl) <|
ww (p := fits (Nat.add ((x2_4a :: x2_4t)).length 1) 16 = true) (fits_ok hy2_4 (by have := hy2_4; show (_ : Nat) + _ ≤ _; omega)) <|
ww (p := allCells [(i6 y2_2_2), (i6 y2_2_3)] = true) (rfl) <|
ww (p := allCells (rows rw_ii (x2_4a :: x2_4t)) = true) (rows_cells rwf_ii _) <|
ww (p := rows rw_ii (x2_4a :: x2_4t) ++ [(i6 y2_2_2), (i6 y2_2_3)] = (rows rw_ii ((x2_4a :: x2_4t) ++ [(y2_2_2, y2_2_3)]))) (rows_app rw_ii (x2_4a :: x2_4t) [(y2_2_2, y2_2_3)]) <|
ww (p := Nat.add ((x2_4a :: x2_4t)).length 1 = (((x2_4a :: x2_4t) ++ [(y2_2_2, y2_2_3)])).length) (by simp) <|
ww (rows_flat rwf_iii (y2_2_0a :: y2_2_0t) 44) <|
ww (rows_flat rwf_ii ((x2_4a :: x2_4t) ++ [(y2_2_2, y2_2_3)]) 27) <|
ee) (by kernel_rfl)
set_option maxRecDepth 100000 in
theorem q_viewportlaw23HeapSorts_2_5 (n : Nat) {rnd : Option Nat} (x2_0 : Int) (x2_1a : Int × Int × Int) (x2_1t : List (Int × Int × Int)) (x2_2 : Nat) (x2_3 : Int) (x2_4a : Int × Int) (x2_4t : List (Int × Int)) (x2_5 : Int) (hy2_1 : ¬ (x2_5 < x2_0)) : Q_viewportlaw23HeapSorts_2 rnd x2_0 x2_3 ((x2_1a :: x2_1t), x2_2, (x2_4a :: x2_4t), x2_5) (X_viewportlaw23HeapSorts_2 x2_0 x2_3 ((x2_1a :: x2_1t), x2_2, (x2_4a :: x2_4t))) :=
  runC2 hm (L := lT []) ⟨[0, 1, 5, 7], [(0, 0, false), (1, 1, true), (2, 2, true)], 3, 0⟩ (zz 4 (xdF hy2_1) <|
ww (rows_flat rwf_iii (x2_1a :: x2_1t) 44) <|
ww (rows_flat rwf_ii (x2_4a :: x2_4t) 27) <|
ee) (by kernel_rfl)
theorem m_viewportlaw23HeapSorts_2_ok (n : Nat) {rnd : Option Nat} (x2_0 : Int) (x2_3 : Int) (st : List (Int × Int × Int) × Nat × List (Int × Int) × Int) (r : List (Int × Int × Int) × Nat × List (Int × Int)) (h : m_viewportlaw23HeapSorts_2 n x2_0 x2_3 st = some r) : CG P rnd (fnN P 3) 0 (codeOf P 3 [false, true, false, true, true, true, true, true, true, true]) (S_viewportlaw23HeapSorts_2 x2_0 x2_3 st) (X_viewportlaw23HeapSorts_2 x2_0 x2_3 r) :=
  CG.iter (b := codeOf P 3 [false, false, true, false, true, true, true, true, true, true, true]) (by kernel_rfl) (body := B_viewportlaw23HeapSorts_2 n x2_0 x2_3) (S := S_viewportlaw23HeapSorts_2 x2_0 x2_3) (X := X_viewportlaw23HeapSorts_2 x2_0 x2_3)
    (fun s s' h => by
    obtain ⟨x2_1, x2_2, x2_4, x2_5⟩ := s
    unfold B_viewportlaw23HeapSorts_2 at h
    dsimp only at h
    cases x2_1 with
    | nil =>
      dsimp only at h
      cases x2_4 with
      | nil =>
        dsimp only at h
        by_cases hy2_1 : x2_5 < x2_0
        · rw [if_pos hy2_1] at h
          cases h
        · rw [if_neg hy2_1] at h
          cases h
      | cons x2_4a x2_4t =>
        dsimp only at h
        by_cases hy2_1 : x2_5 < x2_0
        · rw [if_pos hy2_1] at h
          cases h
        · rw [if_neg hy2_1] at h
          cases h
    | cons x2_1a x2_1t =>
      dsimp only at h
      cases x2_4 with
      | nil =>
        dsimp only at h
        by_cases hy2_1 : x2_5 < x2_0
        · rw [if_pos hy2_1] at h
          obtain ⟨⟨y2_2_0, y2_2_1, y2_2_2, y2_2_3, y2_2_4⟩, hy2_2, h⟩ := Option.bind_eq_some_iff.1 h
          dsimp only at h
          cases y2_2_0 with
          | nil =>
            dsimp only at h
            cases h
          | cons y2_2_0a y2_2_0t =>
            dsimp only at h
            by_cases hy2_3 : y2_2_4 = true
            · rw [if_pos hy2_3] at h
              obtain rfl := Sum.inl.inj (Option.some.inj h); exact q_viewportlaw23HeapSorts_2_2 n x2_0 x2_1a x2_1t x2_2 x2_3 x2_5 hy2_1 y2_2_0a y2_2_0t y2_2_1 y2_2_2 y2_2_3 y2_2_4 hy2_2 hy2_3
            · rw [if_neg hy2_3] at h
              cases h
        · rw [if_neg hy2_1] at h
          cases h
      | cons x2_4a x2_4t =>
        dsimp only at h
        by_cases hy2_1 : x2_5 < x2_0
        · rw [if_pos hy2_1] at h
          obtain ⟨⟨y2_2_0, y2_2_1, y2_2_2, y2_2_3, y2_2_4⟩, hy2_2, h⟩ := Option.bind_eq_some_iff.1 h
          dsimp only at h
          cases y2_2_0 with
          | nil =>
            dsimp only at h
            cases h
          | cons y2_2_0a y2_2_0t =>
            dsimp only at h
            by_cases hy2_3 : y2_2_4 = true
            · rw [if_pos hy2_3] at h
              by_cases hy2_4 : (((x2_4a :: x2_4t)).length + 1) * 16 ≤ 140737488355328
              · rw [if_pos hy2_4] at h
                obtain rfl := Sum.inl.inj (Option.some.inj h); exact q_viewportlaw23HeapSorts_2_4 n x2_0 x2_1a x2_1t x2_2 x2_3 x2_4a x2_4t x2_5 hy2_1 y2_2_0a y2_2_0t y2_2_1 y2_2_2 y2_2_3 y2_2_4 hy2_2 hy2_3 hy2_4
              · rw [if_neg hy2_4] at h; cases h
            · rw [if_neg hy2_3] at h
              cases h
        · rw [if_neg hy2_1] at h
          cases h)
    (fun s r h => by
    obtain ⟨x2_1, x2_2, x2_4, x2_5⟩ := s
    unfold B_viewportlaw23HeapSorts_2 at h
    dsimp only at h
    cases x2_1 with
    | nil =>
      dsimp only at h
      cases x2_4 with
      | nil =>
        dsimp only at h
        by_cases hy2_1 : x2_5 < x2_0
        · rw [if_pos hy2_1] at h
          cases h
        · rw [if_neg hy2_1] at h
          obtain rfl := Sum.inr.inj (Option.some.inj h); exact q_viewportlaw23HeapSorts_2_0 n x2_0 x2_2 x2_3 x2_5 hy2_1
      | cons x2_4a x2_4t =>
        dsimp only at h
        by_cases hy2_1 : x2_5 < x2_0
        · rw [if_pos hy2_1] at h
          cases h
        · rw [if_neg hy2_1] at h
          obtain rfl := Sum.inr.inj (Option.some.inj h); exact q_viewportlaw23HeapSorts_2_1 n x2_0 x2_2 x2_3 x2_4a x2_4t x2_5 hy2_1
    | cons x2_1a x2_1t =>
      dsimp only at h
      cases x2_4 with
      | nil =>
        dsimp only at h
        by_cases hy2_1 : x2_5 < x2_0
        · rw [if_pos hy2_1] at h
          obtain ⟨⟨y2_2_0, y2_2_1, y2_2_2, y2_2_3, y2_2_4⟩, hy2_2, h⟩ := Option.bind_eq_some_iff.1 h
          dsimp only at h
          cases y2_2_0 with
          | nil =>
            dsimp only at h
            cases h
          | cons y2_2_0a y2_2_0t =>
            dsimp only at h
            by_cases hy2_3 : y2_2_4 = true
            · rw [if_pos hy2_3] at h
              cases h
            · rw [if_neg hy2_3] at h
              cases h
        · rw [if_neg hy2_1] at h
          obtain rfl := Sum.inr.inj (Option.some.inj h); exact q_viewportlaw23HeapSorts_2_3 n x2_0 x2_1a x2_1t x2_2 x2_3 x2_5 hy2_1
      | cons x2_4a x2_4t =>
        dsimp only at h
        by_cases hy2_1 : x2_5 < x2_0
        · rw [if_pos hy2_1] at h
          obtain ⟨⟨y2_2_0, y2_2_1, y2_2_2, y2_2_3, y2_2_4⟩, hy2_2, h⟩ := Option.bind_eq_some_iff.1 h
          dsimp only at h
          cases y2_2_0 with
          | nil =>
            dsimp only at h
            cases h
          | cons y2_2_0a y2_2_0t =>
            dsimp only at h
            by_cases hy2_3 : y2_2_4 = true
            · rw [if_pos hy2_3] at h
              by_cases hy2_4 : (((x2_4a :: x2_4t)).length + 1) * 16 ≤ 140737488355328
              · rw [if_pos hy2_4] at h
                cases h
              · rw [if_neg hy2_4] at h; cases h
            · rw [if_neg hy2_3] at h
              cases h
        · rw [if_neg hy2_1] at h
          obtain rfl := Sum.inr.inj (Option.some.inj h); exact q_viewportlaw23HeapSorts_2_5 n x2_0 x2_1a x2_1t x2_2 x2_3 x2_4a x2_4t x2_5 hy2_1)
    (fun r => by intro hx; cases hx) h
noncomputable def S_viewportlaw23HeapSorts_1 (x1_0 : Int) (st : List (Int × Int × Int) × Nat × Int × Int) : XSt := match st with
  | (x1_1, x1_2, x1_3, x1_4) => (sT 149 [(0, (sW 0 0 (Args.A).length Args.cA)), (1, (i6 x1_0)), (5, (pN 0 0)), (6, (i6 x1_4))], [], ⟨sB [(0, (some (.cells (layT [(pN 0 0), (Value.func (.func 6) #[] #[]), (slQ x1_1 1 x1_2 3), (i6 x1_3)]) 40))), (1, (nblkR rw_iii x1_1 44))], 2, 0⟩)
noncomputable def X_viewportlaw23HeapSorts_1 (x1_0 : Int) (r : List (Int × Int × Int) × Nat × Int) : Ex × XSt := match r with
  | (z1_0, z1_1, z1_2) => (.exit 0, (sT 149 [(0, (sW 0 0 (Args.A).length Args.cA)), (1, (i6 x1_0)), (5, (pN 0 0))], [], ⟨sB [(0, (some (.cells (layT [(pN 0 0), (Value.func (.func 6) #[] #[]), (slQ z1_0 1 z1_1 3), (i6 z1_2)]) 40))), (1, (nblkR rw_iii z1_0 44))], 2, 0⟩))
noncomputable abbrev Q_viewportlaw23HeapSorts_1 (rnd : Option Nat) (x1_0 : Int) (st : List (Int × Int × Int) × Nat × Int × Int) (c : Ex × XSt) : Prop := CG P rnd (fnN P 3) 0 (codeOf P 3 [false, false, true, false, true, true, true, true]) (S_viewportlaw23HeapSorts_1 x1_0 st) c
noncomputable abbrev U_viewportlaw23HeapSorts_1 (rd : Option Nat) (x1_0 : Int) (st : List (Int × Int × Int) × Nat × Int × Int) (r : List (Int × Int × Int) × Nat × Int) : Prop := CG P rd (fnN P 3) 0 (codeOf P 3 [false, true, false, true, true, true, true]) (S_viewportlaw23HeapSorts_1 x1_0 st) (X_viewportlaw23HeapSorts_1 x1_0 r)
def B_viewportlaw23HeapSorts_1 (n : Nat) (x1_0 : Int) (st : List (Int × Int × Int) × Nat × Int × Int) : Option ((List (Int × Int × Int) × Nat × Int × Int) ⊕ (List (Int × Int × Int) × Nat × Int)) := match st with
  | (x1_1, x1_2, x1_3, x1_4) =>
    match x1_1 with
    | [] =>
      if x1_4 < (((Args.A).length : Nat) : Int) then
        if 0 ≤ x1_4 ∧ x1_4 < (((Args.A).length : Nat) : Int) then
          (m_viewportlaw23oneq1 n ((Args.A).getD (x1_4).toNat 0) x1_4).bind fun _ =>
          (m_heapHeapviewportlaw23itemPutq1 n x1_3 ((Args.A).getD (x1_4).toNat 0) x1_4).bind fun y1_4_ =>
          match y1_4_ with
          | [] =>
            none
          | y1_4_a :: y1_4_t =>
            some (.inl ((y1_4_a :: y1_4_t), 1, (w64 (x1_3 + (1 : Int))), (w64 (x1_4 + (1 : Int)))))
        else none
      else
        some (.inr (([] : List (Int × Int × Int)), 0, x1_3))
    | x1_1a :: x1_1t =>
      if x1_4 < (((Args.A).length : Nat) : Int) then
        if 0 ≤ x1_4 ∧ x1_4 < (((Args.A).length : Nat) : Int) then
          (m_viewportlaw23oneq1 n ((Args.A).getD (x1_4).toNat 0) x1_4).bind fun _ =>
          (m_heapHeapviewportlaw23itemPutq3 n (x1_1a :: x1_1t) x1_2 x1_3 ((Args.A).getD (x1_4).toNat 0) x1_4).bind fun t => match t with
          | (y1_4_0, y1_4_1) =>
            match y1_4_0 with
            | [] =>
              none
            | y1_4_0a :: y1_4_0t =>
              some (.inl ((y1_4_0a :: y1_4_0t), y1_4_1, (w64 (x1_3 + (1 : Int))), (w64 (x1_4 + (1 : Int)))))
        else none
      else
        some (.inr ((x1_1a :: x1_1t), x1_2, x1_3))
def m_viewportlaw23HeapSorts_1 (n : Nat) (x1_0 : Int) (st : List (Int × Int × Int) × Nat × Int × Int) : Option (List (Int × Int × Int) × Nat × Int) := iterM (B_viewportlaw23HeapSorts_1 n x1_0) n st
set_option maxRecDepth 100000 in
theorem q_viewportlaw23HeapSorts_1_0 (n : Nat) {rnd : Option Nat} (x1_0 : Int) (x1_2 : Nat) (x1_3 x1_4 : Int) (hy1_1 : x1_4 < (((Args.A).length : Nat) : Int)) (hy1_2 : 0 ≤ x1_4 ∧ x1_4 < (((Args.A).length : Nat) : Int)) (hy1_3 : m_viewportlaw23oneq1 n ((Args.A).getD (x1_4).toNat 0) x1_4 = some ()) (y1_4_a : Int × Int × Int) (y1_4_t : List (Int × Int × Int)) (hy1_4 : m_heapHeapviewportlaw23itemPutq1 n x1_3 ((Args.A).getD (x1_4).toNat 0) x1_4 = some (y1_4_a :: y1_4_t)) : Q_viewportlaw23HeapSorts_1 rnd x1_0 (([] : List (Int × Int × Int)), x1_2, x1_3, x1_4) (.normal, S_viewportlaw23HeapSorts_1 x1_0 ((y1_4_a :: y1_4_t), 1, (w64 (x1_3 + (1 : Int))), (w64 (x1_4 + (1 : Int))))) :=
  runC2 hm (L := lT []) ⟨[0, 1, 5, 6], [(0, 0, false), (1, 3, true)], 2, 0⟩ (zz 5 (xdT hy1_1) <|
zz 12 (xk1 0 Args.cA hy1_2) <|
yy 13 (.ld (i6 ((Args.A).getD (x1_4).toNat 0))) <|
ww (p := Lg P 3 (pW 0 (x1_4).toNat) (i6 ((Args.A).getD (x1_4).toNat 0))) (ldW rfl (by kernel_rfl) (toNatLt hy1_2)) <|
yy 15 (.call (C_viewportlaw23oneq1 ((Args.A).getD (x1_4).toNat 0) x1_4 () [] [(2, 0, false)])) <|
ww (m_viewportlaw23oneq1_ok n ((Args.A).getD (x1_4).toNat 0) x1_4 () hy1_3) <|
yy 16 (.call (C_heapHeapviewportlaw23itemPutq1 x1_3 ((Args.A).getD (x1_4).toNat 0) x1_4 (y1_4_a :: y1_4_t) [(0, 0, false)] [(0, 0, false), (3, 1, true)])) <|
ww (m_heapHeapviewportlaw23itemPutq1_ok n x1_3 ((Args.A).getD (x1_4).toNat 0) x1_4 (y1_4_a :: y1_4_t) hy1_4) <|
ww (rows_flat rwf_iii (y1_4_a :: y1_4_t) 44) <|
ww (rows_flat rwf_iii (y1_4_a :: y1_4_t) 44) <|
ee) (by kernel_rfl)
set_option maxRecDepth 100000 in
theorem q_viewportlaw23HeapSorts_1_1 (n : Nat) {rnd : Option Nat} (x1_0 : Int) (x1_2 : Nat) (x1_3 x1_4 : Int) (hy1_1 : ¬ (x1_4 < (((Args.A).length : Nat) : Int))) : Q_viewportlaw23HeapSorts_1 rnd x1_0 (([] : List (Int × Int × Int)), x1_2, x1_3, x1_4) (X_viewportlaw23HeapSorts_1 x1_0 (([] : List (Int × Int × Int)), 0, x1_3)) :=
  runC2 hm (L := lT []) ⟨[0, 1, 5], [(0, 0, false)], 2, 0⟩ (zz 5 (xdF hy1_1) <|
ee) (by kernel_rfl)
set_option maxRecDepth 100000 in
theorem q_viewportlaw23HeapSorts_1_2 (n : Nat) {rnd : Option Nat} (x1_0 : Int) (x1_1a : Int × Int × Int) (x1_1t : List (Int × Int × Int)) (x1_2 : Nat) (x1_3 x1_4 : Int) (hy1_1 : x1_4 < (((Args.A).length : Nat) : Int)) (hy1_2 : 0 ≤ x1_4 ∧ x1_4 < (((Args.A).length : Nat) : Int)) (hy1_3 : m_viewportlaw23oneq1 n ((Args.A).getD (x1_4).toNat 0) x1_4 = some ()) (y1_4_0a : Int × Int × Int) (y1_4_0t : List (Int × Int × Int)) (y1_4_1 : Nat) (hy1_4 : m_heapHeapviewportlaw23itemPutq3 n (x1_1a :: x1_1t) x1_2 x1_3 ((Args.A).getD (x1_4).toNat 0) x1_4 = some ((y1_4_0a :: y1_4_0t), y1_4_1)) : Q_viewportlaw23HeapSorts_1 rnd x1_0 ((x1_1a :: x1_1t), x1_2, x1_3, x1_4) (.normal, S_viewportlaw23HeapSorts_1 x1_0 ((y1_4_0a :: y1_4_0t), y1_4_1, (w64 (x1_3 + (1 : Int))), (w64 (x1_4 + (1 : Int))))) :=
  runC2 hm (L := lT []) ⟨[0, 1, 5, 6], [(0, 0, false), (1, 3, true)], 2, 0⟩ (zz 5 (xdT hy1_1) <|
zz 12 (xk1 0 Args.cA hy1_2) <|
yy 13 (.ld (i6 ((Args.A).getD (x1_4).toNat 0))) <|
ww (p := Lg P 3 (pW 0 (x1_4).toNat) (i6 ((Args.A).getD (x1_4).toNat 0))) (ldW rfl (by kernel_rfl) (toNatLt hy1_2)) <|
yy 15 (.call (C_viewportlaw23oneq1 ((Args.A).getD (x1_4).toNat 0) x1_4 () [] [(2, 0, false)])) <|
ww (m_viewportlaw23oneq1_ok n ((Args.A).getD (x1_4).toNat 0) x1_4 () hy1_3) <|
yy 16 (.call (C_heapHeapviewportlaw23itemPutq3 (x1_1a :: x1_1t) x1_2 x1_3 ((Args.A).getD (x1_4).toNat 0) x1_4 ((y1_4_0a :: y1_4_0t), y1_4_1) [(0, 0, false), (1, 1, true)] [(0, 0, false), (3, 2, true)])) <|
ww (m_heapHeapviewportlaw23itemPutq3_ok n (x1_1a :: x1_1t) x1_2 x1_3 ((Args.A).getD (x1_4).toNat 0) x1_4 ((y1_4_0a :: y1_4_0t), y1_4_1) hy1_4) <|
ww (rows_flat rwf_iii (x1_1a :: x1_1t) 44) <|
ww (rows_flat rwf_iii (y1_4_0a :: y1_4_0t) 44) <|
ww (rows_flat rwf_iii (y1_4_0a :: y1_4_0t) 44) <|
ee) (by kernel_rfl)
set_option maxRecDepth 100000 in
theorem q_viewportlaw23HeapSorts_1_3 (n : Nat) {rnd : Option Nat} (x1_0 : Int) (x1_1a : Int × Int × Int) (x1_1t : List (Int × Int × Int)) (x1_2 : Nat) (x1_3 x1_4 : Int) (hy1_1 : ¬ (x1_4 < (((Args.A).length : Nat) : Int))) : Q_viewportlaw23HeapSorts_1 rnd x1_0 ((x1_1a :: x1_1t), x1_2, x1_3, x1_4) (X_viewportlaw23HeapSorts_1 x1_0 ((x1_1a :: x1_1t), x1_2, x1_3)) :=
  runC2 hm (L := lT []) ⟨[0, 1, 5], [(0, 0, false), (1, 1, true)], 2, 0⟩ (zz 5 (xdF hy1_1) <|
ww (rows_flat rwf_iii (x1_1a :: x1_1t) 44) <|
ee) (by kernel_rfl)
theorem m_viewportlaw23HeapSorts_1_ok (n : Nat) {rnd : Option Nat} (x1_0 : Int) (st : List (Int × Int × Int) × Nat × Int × Int) (r : List (Int × Int × Int) × Nat × Int) (h : m_viewportlaw23HeapSorts_1 n x1_0 st = some r) : CG P rnd (fnN P 3) 0 (codeOf P 3 [false, true, false, true, true, true, true]) (S_viewportlaw23HeapSorts_1 x1_0 st) (X_viewportlaw23HeapSorts_1 x1_0 r) :=
  CG.iter (b := codeOf P 3 [false, false, true, false, true, true, true, true]) (by kernel_rfl) (body := B_viewportlaw23HeapSorts_1 n x1_0) (S := S_viewportlaw23HeapSorts_1 x1_0) (X := X_viewportlaw23HeapSorts_1 x1_0)
    (fun s s' h => by
    obtain ⟨x1_1, x1_2, x1_3, x1_4⟩ := s
    unfold B_viewportlaw23HeapSorts_1 at h
    dsimp only at h
    cases x1_1 with
    | nil =>
      dsimp only at h
      by_cases hy1_1 : x1_4 < (((Args.A).length : Nat) : Int)
      · rw [if_pos hy1_1] at h
        by_cases hy1_2 : 0 ≤ x1_4 ∧ x1_4 < (((Args.A).length : Nat) : Int)
        · rw [if_pos hy1_2] at h
          obtain ⟨_, hy1_3, h⟩ := Option.bind_eq_some_iff.1 h
          obtain ⟨y1_4_, hy1_4, h⟩ := Option.bind_eq_some_iff.1 h
          cases y1_4_ with
          | nil =>
            dsimp only at h
            cases h
          | cons y1_4_a y1_4_t =>
            dsimp only at h
            obtain rfl := Sum.inl.inj (Option.some.inj h); exact q_viewportlaw23HeapSorts_1_0 n x1_0 x1_2 x1_3 x1_4 hy1_1 hy1_2 hy1_3 y1_4_a y1_4_t hy1_4
        · rw [if_neg hy1_2] at h; cases h
      · rw [if_neg hy1_1] at h
        cases h
    | cons x1_1a x1_1t =>
      dsimp only at h
      by_cases hy1_1 : x1_4 < (((Args.A).length : Nat) : Int)
      · rw [if_pos hy1_1] at h
        by_cases hy1_2 : 0 ≤ x1_4 ∧ x1_4 < (((Args.A).length : Nat) : Int)
        · rw [if_pos hy1_2] at h
          obtain ⟨_, hy1_3, h⟩ := Option.bind_eq_some_iff.1 h
          obtain ⟨⟨y1_4_0, y1_4_1⟩, hy1_4, h⟩ := Option.bind_eq_some_iff.1 h
          dsimp only at h
          cases y1_4_0 with
          | nil =>
            dsimp only at h
            cases h
          | cons y1_4_0a y1_4_0t =>
            dsimp only at h
            obtain rfl := Sum.inl.inj (Option.some.inj h); exact q_viewportlaw23HeapSorts_1_2 n x1_0 x1_1a x1_1t x1_2 x1_3 x1_4 hy1_1 hy1_2 hy1_3 y1_4_0a y1_4_0t y1_4_1 hy1_4
        · rw [if_neg hy1_2] at h; cases h
      · rw [if_neg hy1_1] at h
        cases h)
    (fun s r h => by
    obtain ⟨x1_1, x1_2, x1_3, x1_4⟩ := s
    unfold B_viewportlaw23HeapSorts_1 at h
    dsimp only at h
    cases x1_1 with
    | nil =>
      dsimp only at h
      by_cases hy1_1 : x1_4 < (((Args.A).length : Nat) : Int)
      · rw [if_pos hy1_1] at h
        by_cases hy1_2 : 0 ≤ x1_4 ∧ x1_4 < (((Args.A).length : Nat) : Int)
        · rw [if_pos hy1_2] at h
          obtain ⟨_, hy1_3, h⟩ := Option.bind_eq_some_iff.1 h
          obtain ⟨y1_4_, hy1_4, h⟩ := Option.bind_eq_some_iff.1 h
          cases y1_4_ with
          | nil =>
            dsimp only at h
            cases h
          | cons y1_4_a y1_4_t =>
            dsimp only at h
            cases h
        · rw [if_neg hy1_2] at h; cases h
      · rw [if_neg hy1_1] at h
        obtain rfl := Sum.inr.inj (Option.some.inj h); exact q_viewportlaw23HeapSorts_1_1 n x1_0 x1_2 x1_3 x1_4 hy1_1
    | cons x1_1a x1_1t =>
      dsimp only at h
      by_cases hy1_1 : x1_4 < (((Args.A).length : Nat) : Int)
      · rw [if_pos hy1_1] at h
        by_cases hy1_2 : 0 ≤ x1_4 ∧ x1_4 < (((Args.A).length : Nat) : Int)
        · rw [if_pos hy1_2] at h
          obtain ⟨_, hy1_3, h⟩ := Option.bind_eq_some_iff.1 h
          obtain ⟨⟨y1_4_0, y1_4_1⟩, hy1_4, h⟩ := Option.bind_eq_some_iff.1 h
          dsimp only at h
          cases y1_4_0 with
          | nil =>
            dsimp only at h
            cases h
          | cons y1_4_0a y1_4_0t =>
            dsimp only at h
            cases h
        · rw [if_neg hy1_2] at h; cases h
      · rw [if_neg hy1_1] at h
        obtain rfl := Sum.inr.inj (Option.some.inj h); exact q_viewportlaw23HeapSorts_1_3 n x1_0 x1_1a x1_1t x1_2 x1_3 x1_4 hy1_1)
    (fun r => by intro hx; cases hx) h
def m_viewportlaw23HeapSorts (n : Nat) (g1 : Int) : Option (Unit) :=
  (m_viewportlaw23lives n).bind fun _ =>
  if (((Args.A).length : Nat) : Int) > (200 : Int) then
    some ()
  else
    (m_heapNewviewportref23Itemq1 n).bind fun _ =>
    (m_viewportlaw23HeapSorts_1 n g1 (([] : List (Int × Int × Int)), 0, 0, 0)).bind fun t => match t with
    | (c4_0, c4_1, c4_2) =>
      match c4_0 with
      | [] =>
        (m_viewportkitPickq1 n g1 (w64 ((((Args.A).length : Nat) : Int) + (1 : Int)))).bind fun c5_ =>
        (m_viewportlaw23HeapSorts_2 n c5_ c4_2 (([] : List (Int × Int × Int)), 0, ([] : List (Int × Int)), 0)).bind fun t => match t with
        | (c6_0, c6_1, c6_2) =>
          match c6_0 with
          | [] =>
            match c6_2 with
            | [] =>
              (m_viewportlaw23HeapSorts_3 n c5_ (([] : List (Int × Int × Int)), 0, c4_2, ([] : List (Int × Int)), 0)).bind fun t => match t with
              | (c7_0, c7_1, c7_2) =>
                match c7_0 with
                | [] =>
                  (m_viewportlaw23HeapSorts_4 n c5_ c7_2 (([] : List (Int × Int × Int)), 0, mNil, 0, 0, 0)).bind fun t => match t with
                  | (c8_0, c8_1) =>
                    match c8_0 with
                    | [] =>
                      (m_heapHeapviewportlaw23itemLenq1 n c7_2).bind fun _ =>
                      some ()
                    | c8_0a :: c8_0t =>
                      (m_heapHeapviewportlaw23itemLenq2 n (c8_0a :: c8_0t) c8_1 c7_2).bind fun _ =>
                      if ((c8_1 : Nat) : Int) = (0 : Int) then
                        some ()
                      else
                        none
                | c7_0a :: c7_0t =>
                  (m_viewportlaw23HeapSorts_4 n c5_ c7_2 ((c7_0a :: c7_0t), c7_1, mNil, 0, 0, 0)).bind fun t => match t with
                  | (c8_0, c8_1) =>
                    match c8_0 with
                    | [] =>
                      (m_heapHeapviewportlaw23itemLenq1 n c7_2).bind fun _ =>
                      some ()
                    | c8_0a :: c8_0t =>
                      (m_heapHeapviewportlaw23itemLenq2 n (c8_0a :: c8_0t) c8_1 c7_2).bind fun _ =>
                      if ((c8_1 : Nat) : Int) = (0 : Int) then
                        some ()
                      else
                        none
            | c6_2a :: c6_2t =>
              (m_viewportlaw23HeapSorts_3 n c5_ (([] : List (Int × Int × Int)), 0, c4_2, (c6_2a :: c6_2t), 0)).bind fun t => match t with
              | (c7_0, c7_1, c7_2) =>
                match c7_0 with
                | [] =>
                  (m_viewportlaw23HeapSorts_4 n c5_ c7_2 (([] : List (Int × Int × Int)), 0, mNil, 0, 0, 0)).bind fun t => match t with
                  | (c8_0, c8_1) =>
                    match c8_0 with
                    | [] =>
                      (m_heapHeapviewportlaw23itemLenq1 n c7_2).bind fun _ =>
                      some ()
                    | c8_0a :: c8_0t =>
                      (m_heapHeapviewportlaw23itemLenq2 n (c8_0a :: c8_0t) c8_1 c7_2).bind fun _ =>
                      if ((c8_1 : Nat) : Int) = (0 : Int) then
                        some ()
                      else
                        none
                | c7_0a :: c7_0t =>
                  (m_viewportlaw23HeapSorts_4 n c5_ c7_2 ((c7_0a :: c7_0t), c7_1, mNil, 0, 0, 0)).bind fun t => match t with
                  | (c8_0, c8_1) =>
                    match c8_0 with
                    | [] =>
                      (m_heapHeapviewportlaw23itemLenq1 n c7_2).bind fun _ =>
                      some ()
                    | c8_0a :: c8_0t =>
                      (m_heapHeapviewportlaw23itemLenq2 n (c8_0a :: c8_0t) c8_1 c7_2).bind fun _ =>
                      if ((c8_1 : Nat) : Int) = (0 : Int) then
                        some ()
                      else
                        none
          | c6_0a :: c6_0t =>
            match c6_2 with
            | [] =>
              (m_viewportlaw23HeapSorts_3 n c5_ ((c6_0a :: c6_0t), c6_1, c4_2, ([] : List (Int × Int)), 0)).bind fun t => match t with
              | (c7_0, c7_1, c7_2) =>
                match c7_0 with
                | [] =>
                  (m_viewportlaw23HeapSorts_4 n c5_ c7_2 (([] : List (Int × Int × Int)), 0, mNil, 0, 0, 0)).bind fun t => match t with
                  | (c8_0, c8_1) =>
                    match c8_0 with
                    | [] =>
                      (m_heapHeapviewportlaw23itemLenq1 n c7_2).bind fun _ =>
                      some ()
                    | c8_0a :: c8_0t =>
                      (m_heapHeapviewportlaw23itemLenq2 n (c8_0a :: c8_0t) c8_1 c7_2).bind fun _ =>
                      if ((c8_1 : Nat) : Int) = (0 : Int) then
                        some ()
                      else
                        none
                | c7_0a :: c7_0t =>
                  (m_viewportlaw23HeapSorts_4 n c5_ c7_2 ((c7_0a :: c7_0t), c7_1, mNil, 0, 0, 0)).bind fun t => match t with
                  | (c8_0, c8_1) =>
                    match c8_0 with
                    | [] =>
                      (m_heapHeapviewportlaw23itemLenq1 n c7_2).bind fun _ =>
                      some ()
                    | c8_0a :: c8_0t =>
                      (m_heapHeapviewportlaw23itemLenq2 n (c8_0a :: c8_0t) c8_1 c7_2).bind fun _ =>
                      if ((c8_1 : Nat) : Int) = (0 : Int) then
                        some ()
                      else
                        none
            | c6_2a :: c6_2t =>
              (m_viewportlaw23HeapSorts_3 n c5_ ((c6_0a :: c6_0t), c6_1, c4_2, (c6_2a :: c6_2t), 0)).bind fun t => match t with
              | (c7_0, c7_1, c7_2) =>
                match c7_0 with
                | [] =>
                  (m_viewportlaw23HeapSorts_4 n c5_ c7_2 (([] : List (Int × Int × Int)), 0, mNil, 0, 0, 0)).bind fun t => match t with
                  | (c8_0, c8_1) =>
                    match c8_0 with
                    | [] =>
                      (m_heapHeapviewportlaw23itemLenq1 n c7_2).bind fun _ =>
                      some ()
                    | c8_0a :: c8_0t =>
                      (m_heapHeapviewportlaw23itemLenq2 n (c8_0a :: c8_0t) c8_1 c7_2).bind fun _ =>
                      if ((c8_1 : Nat) : Int) = (0 : Int) then
                        some ()
                      else
                        none
                | c7_0a :: c7_0t =>
                  (m_viewportlaw23HeapSorts_4 n c5_ c7_2 ((c7_0a :: c7_0t), c7_1, mNil, 0, 0, 0)).bind fun t => match t with
                  | (c8_0, c8_1) =>
                    match c8_0 with
                    | [] =>
                      (m_heapHeapviewportlaw23itemLenq1 n c7_2).bind fun _ =>
                      some ()
                    | c8_0a :: c8_0t =>
                      (m_heapHeapviewportlaw23itemLenq2 n (c8_0a :: c8_0t) c8_1 c7_2).bind fun _ =>
                      if ((c8_1 : Nat) : Int) = (0 : Int) then
                        some ()
                      else
                        none
      | c4_0a :: c4_0t =>
        (m_viewportkitPickq1 n g1 (w64 ((((Args.A).length : Nat) : Int) + (1 : Int)))).bind fun c5_ =>
        (m_viewportlaw23HeapSorts_2 n c5_ c4_2 ((c4_0a :: c4_0t), c4_1, ([] : List (Int × Int)), 0)).bind fun t => match t with
        | (c6_0, c6_1, c6_2) =>
          match c6_0 with
          | [] =>
            match c6_2 with
            | [] =>
              (m_viewportlaw23HeapSorts_3 n c5_ (([] : List (Int × Int × Int)), 0, c4_2, ([] : List (Int × Int)), 0)).bind fun t => match t with
              | (c7_0, c7_1, c7_2) =>
                match c7_0 with
                | [] =>
                  (m_viewportlaw23HeapSorts_4 n c5_ c7_2 (([] : List (Int × Int × Int)), 0, mNil, 0, 0, 0)).bind fun t => match t with
                  | (c8_0, c8_1) =>
                    match c8_0 with
                    | [] =>
                      (m_heapHeapviewportlaw23itemLenq1 n c7_2).bind fun _ =>
                      some ()
                    | c8_0a :: c8_0t =>
                      (m_heapHeapviewportlaw23itemLenq2 n (c8_0a :: c8_0t) c8_1 c7_2).bind fun _ =>
                      if ((c8_1 : Nat) : Int) = (0 : Int) then
                        some ()
                      else
                        none
                | c7_0a :: c7_0t =>
                  (m_viewportlaw23HeapSorts_4 n c5_ c7_2 ((c7_0a :: c7_0t), c7_1, mNil, 0, 0, 0)).bind fun t => match t with
                  | (c8_0, c8_1) =>
                    match c8_0 with
                    | [] =>
                      (m_heapHeapviewportlaw23itemLenq1 n c7_2).bind fun _ =>
                      some ()
                    | c8_0a :: c8_0t =>
                      (m_heapHeapviewportlaw23itemLenq2 n (c8_0a :: c8_0t) c8_1 c7_2).bind fun _ =>
                      if ((c8_1 : Nat) : Int) = (0 : Int) then
                        some ()
                      else
                        none
            | c6_2a :: c6_2t =>
              (m_viewportlaw23HeapSorts_3 n c5_ (([] : List (Int × Int × Int)), 0, c4_2, (c6_2a :: c6_2t), 0)).bind fun t => match t with
              | (c7_0, c7_1, c7_2) =>
                match c7_0 with
                | [] =>
                  (m_viewportlaw23HeapSorts_4 n c5_ c7_2 (([] : List (Int × Int × Int)), 0, mNil, 0, 0, 0)).bind fun t => match t with
                  | (c8_0, c8_1) =>
                    match c8_0 with
                    | [] =>
                      (m_heapHeapviewportlaw23itemLenq1 n c7_2).bind fun _ =>
                      some ()
                    | c8_0a :: c8_0t =>
                      (m_heapHeapviewportlaw23itemLenq2 n (c8_0a :: c8_0t) c8_1 c7_2).bind fun _ =>
                      if ((c8_1 : Nat) : Int) = (0 : Int) then
                        some ()
                      else
                        none
                | c7_0a :: c7_0t =>
                  (m_viewportlaw23HeapSorts_4 n c5_ c7_2 ((c7_0a :: c7_0t), c7_1, mNil, 0, 0, 0)).bind fun t => match t with
                  | (c8_0, c8_1) =>
                    match c8_0 with
                    | [] =>
                      (m_heapHeapviewportlaw23itemLenq1 n c7_2).bind fun _ =>
                      some ()
                    | c8_0a :: c8_0t =>
                      (m_heapHeapviewportlaw23itemLenq2 n (c8_0a :: c8_0t) c8_1 c7_2).bind fun _ =>
                      if ((c8_1 : Nat) : Int) = (0 : Int) then
                        some ()
                      else
                        none
          | c6_0a :: c6_0t =>
            match c6_2 with
            | [] =>
              (m_viewportlaw23HeapSorts_3 n c5_ ((c6_0a :: c6_0t), c6_1, c4_2, ([] : List (Int × Int)), 0)).bind fun t => match t with
              | (c7_0, c7_1, c7_2) =>
                match c7_0 with
                | [] =>
                  (m_viewportlaw23HeapSorts_4 n c5_ c7_2 (([] : List (Int × Int × Int)), 0, mNil, 0, 0, 0)).bind fun t => match t with
                  | (c8_0, c8_1) =>
                    match c8_0 with
                    | [] =>
                      (m_heapHeapviewportlaw23itemLenq1 n c7_2).bind fun _ =>
                      some ()
                    | c8_0a :: c8_0t =>
                      (m_heapHeapviewportlaw23itemLenq2 n (c8_0a :: c8_0t) c8_1 c7_2).bind fun _ =>
                      if ((c8_1 : Nat) : Int) = (0 : Int) then
                        some ()
                      else
                        none
                | c7_0a :: c7_0t =>
                  (m_viewportlaw23HeapSorts_4 n c5_ c7_2 ((c7_0a :: c7_0t), c7_1, mNil, 0, 0, 0)).bind fun t => match t with
                  | (c8_0, c8_1) =>
                    match c8_0 with
                    | [] =>
                      (m_heapHeapviewportlaw23itemLenq1 n c7_2).bind fun _ =>
                      some ()
                    | c8_0a :: c8_0t =>
                      (m_heapHeapviewportlaw23itemLenq2 n (c8_0a :: c8_0t) c8_1 c7_2).bind fun _ =>
                      if ((c8_1 : Nat) : Int) = (0 : Int) then
                        some ()
                      else
                        none
            | c6_2a :: c6_2t =>
              (m_viewportlaw23HeapSorts_3 n c5_ ((c6_0a :: c6_0t), c6_1, c4_2, (c6_2a :: c6_2t), 0)).bind fun t => match t with
              | (c7_0, c7_1, c7_2) =>
                match c7_0 with
                | [] =>
                  (m_viewportlaw23HeapSorts_4 n c5_ c7_2 (([] : List (Int × Int × Int)), 0, mNil, 0, 0, 0)).bind fun t => match t with
                  | (c8_0, c8_1) =>
                    match c8_0 with
                    | [] =>
                      (m_heapHeapviewportlaw23itemLenq1 n c7_2).bind fun _ =>
                      some ()
                    | c8_0a :: c8_0t =>
                      (m_heapHeapviewportlaw23itemLenq2 n (c8_0a :: c8_0t) c8_1 c7_2).bind fun _ =>
                      if ((c8_1 : Nat) : Int) = (0 : Int) then
                        some ()
                      else
                        none
                | c7_0a :: c7_0t =>
                  (m_viewportlaw23HeapSorts_4 n c5_ c7_2 ((c7_0a :: c7_0t), c7_1, mNil, 0, 0, 0)).bind fun t => match t with
                  | (c8_0, c8_1) =>
                    match c8_0 with
                    | [] =>
                      (m_heapHeapviewportlaw23itemLenq1 n c7_2).bind fun _ =>
                      some ()
                    | c8_0a :: c8_0t =>
                      (m_heapHeapviewportlaw23itemLenq2 n (c8_0a :: c8_0t) c8_1 c7_2).bind fun _ =>
                      if ((c8_1 : Nat) : Int) = (0 : Int) then
                        some ()
                      else
                        none
set_option maxRecDepth 100000 in
theorem p_viewportlaw23HeapSorts_0 (n : Nat) (g1 : Int) (hc1 : m_viewportlaw23lives n = some ()) (hc2 : (((Args.A).length : Nat) : Int) > (200 : Int)) : G_viewportlaw23HeapSorts g1 () :=
  runF2 hm (L := lT []) ⟨[4], [], 0, 0⟩ (yy 4 (.call ⟨0, [], (Value.bool true), Ax.h0, []⟩) <|
ww (m_viewportlaw23lives_ok n  () hc1) <|
zz 11 (xdT hc2) <|
ee) (by kernel_rfl)
set_option maxRecDepth 100000 in
theorem p_viewportlaw23HeapSorts_1 (n : Nat) (g1 : Int) (hc1 : m_viewportlaw23lives n = some ()) (hc2 : ¬ ((((Args.A).length : Nat) : Int) > (200 : Int))) (hc3 : m_heapNewviewportref23Itemq1 n = some ()) (c4_1 : Nat) (c4_2 : Int) (hc4 : m_viewportlaw23HeapSorts_1 n g1 (([] : List (Int × Int × Int)), 0, 0, 0) = some ([], c4_1, c4_2)) (c5_ : Int) (hc5 : m_viewportkitPickq1 n g1 (w64 ((((Args.A).length : Nat) : Int) + (1 : Int))) = some c5_) (c6_1 : Nat) (hc6 : m_viewportlaw23HeapSorts_2 n c5_ c4_2 (([] : List (Int × Int × Int)), 0, ([] : List (Int × Int)), 0) = some ([], c6_1, [])) (c7_1 : Nat) (c7_2 : Int) (hc7 : m_viewportlaw23HeapSorts_3 n c5_ (([] : List (Int × Int × Int)), 0, c4_2, ([] : List (Int × Int)), 0) = some ([], c7_1, c7_2)) (c8_1 : Nat) (hc8 : m_viewportlaw23HeapSorts_4 n c5_ c7_2 (([] : List (Int × Int × Int)), 0, mNil, 0, 0, 0) = some ([], c8_1)) (hc9 : m_heapHeapviewportlaw23itemLenq1 n c7_2 = some ()) : G_viewportlaw23HeapSorts g1 () :=
  runF2 hm (L := lT [(20, ⟨⟨[0, 1, 5, 6], [(0, 0, false)], 2, 0⟩, (X_viewportlaw23HeapSorts_1 g1 (([] : List (Int × Int × Int)), c4_1, c4_2)).1, (X_viewportlaw23HeapSorts_1 g1 (([] : List (Int × Int × Int)), c4_1, c4_2)).2⟩), (34, ⟨⟨[0, 1, 5, 7, 8], [(0, 0, false)], 3, 0⟩, (X_viewportlaw23HeapSorts_2 c5_ c4_2 (([] : List (Int × Int × Int)), c6_1, ([] : List (Int × Int)))).1, (X_viewportlaw23HeapSorts_2 c5_ c4_2 (([] : List (Int × Int × Int)), c6_1, ([] : List (Int × Int)))).2⟩), (39, ⟨⟨[0, 1, 5, 7, 11], [(0, 0, false)], 3, 0⟩, (X_viewportlaw23HeapSorts_3 c5_ (([] : List (Int × Int × Int)), c7_1, c7_2)).1, (X_viewportlaw23HeapSorts_3 c5_ (([] : List (Int × Int × Int)), c7_1, c7_2)).2⟩), (51, ⟨⟨[0, 1, 5, 12, 13, 14], [(0, 0, false), (2, 2, true), (3, 3, false)], 4, 0⟩, (X_viewportlaw23HeapSorts_4 c5_ c7_2 (([] : List (Int × Int × Int)), c8_1)).1, (X_viewportlaw23HeapSorts_4 c5_ c7_2 (([] : List (Int × Int × Int)), c8_1)).2⟩)]) ⟨[4], [], 0, 0⟩ (yy 4 (.call ⟨0, [], (Value.bool true), Ax.h0, []⟩) <|
ww (m_viewportlaw23lives_ok n  () hc1) <|
zz 11 (xdF hc2) <|
yy 14 (.call (C_heapNewviewportref23Itemq1  () [] [(0, 0, false)])) <|
ww (m_heapNewviewportref23Itemq1_ok n  () hc3) <|
ww (p := U_viewportlaw23HeapSorts_1 none g1 (([] : List (Int × Int × Int)), 0, 0, 0) (([] : List (Int × Int × Int)), c4_1, c4_2)) (m_viewportlaw23HeapSorts_1_ok n g1 (([] : List (Int × Int × Int)), 0, 0, 0) (([] : List (Int × Int × Int)), c4_1, c4_2) hc4) <|
yy 26 (.call (C_viewportkitPickq1 g1 (w64 ((((Args.A).length : Nat) : Int) + (1 : Int))) c5_ [] [])) <|
ww (m_viewportkitPickq1_ok n g1 (w64 ((((Args.A).length : Nat) : Int) + (1 : Int))) c5_ hc5) <|
ww (p := U_viewportlaw23HeapSorts_2 none c5_ c4_2 (([] : List (Int × Int × Int)), 0, ([] : List (Int × Int)), 0) (([] : List (Int × Int × Int)), c6_1, ([] : List (Int × Int)))) (m_viewportlaw23HeapSorts_2_ok n c5_ c4_2 (([] : List (Int × Int × Int)), 0, ([] : List (Int × Int)), 0) (([] : List (Int × Int × Int)), c6_1, ([] : List (Int × Int))) hc6) <|
ww (p := U_viewportlaw23HeapSorts_3 none c5_ (([] : List (Int × Int × Int)), 0, c4_2, ([] : List (Int × Int)), 0) (([] : List (Int × Int × Int)), c7_1, c7_2)) (m_viewportlaw23HeapSorts_3_ok n c5_ (([] : List (Int × Int × Int)), 0, c4_2, ([] : List (Int × Int)), 0) (([] : List (Int × Int × Int)), c7_1, c7_2) hc7) <|
ww (p := U_viewportlaw23HeapSorts_4 none c5_ c7_2 (([] : List (Int × Int × Int)), 0, mNil, 0, 0, 0) (([] : List (Int × Int × Int)), c8_1)) (m_viewportlaw23HeapSorts_4_ok n c5_ c7_2 (([] : List (Int × Int × Int)), 0, mNil, 0, 0, 0) (([] : List (Int × Int × Int)), c8_1) hc8) <|
ww (mflat mvI (fun _ => rfl) (mNil : MapI Int) (mLen (mNil : MapI Int))) <|
yy 54 (.call (C_heapHeapviewportlaw23itemLenq1 c7_2 () [(0, 0, false)] [])) <|
ww (m_heapHeapviewportlaw23itemLenq1_ok n c7_2 () hc9) <|
ee) (by kernel_rfl)
set_option maxRecDepth 100000 in
theorem p_viewportlaw23HeapSorts_2 (n : Nat) (g1 : Int) (hc1 : m_viewportlaw23lives n = some ()) (hc2 : ¬ ((((Args.A).length : Nat) : Int) > (200 : Int))) (hc3 : m_heapNewviewportref23Itemq1 n = some ()) (c4_1 : Nat) (c4_2 : Int) (hc4 : m_viewportlaw23HeapSorts_1 n g1 (([] : List (Int × Int × Int)), 0, 0, 0) = some ([], c4_1, c4_2)) (c5_ : Int) (hc5 : m_viewportkitPickq1 n g1 (w64 ((((Args.A).length : Nat) : Int) + (1 : Int))) = some c5_) (c6_1 : Nat) (hc6 : m_viewportlaw23HeapSorts_2 n c5_ c4_2 (([] : List (Int × Int × Int)), 0, ([] : List (Int × Int)), 0) = some ([], c6_1, [])) (c7_1 : Nat) (c7_2 : Int) (hc7 : m_viewportlaw23HeapSorts_3 n c5_ (([] : List (Int × Int × Int)), 0, c4_2, ([] : List (Int × Int)), 0) = some ([], c7_1, c7_2)) (c8_0a : Int × Int × Int) (c8_0t : List (Int × Int × Int)) (c8_1 : Nat) (hc8 : m_viewportlaw23HeapSorts_4 n c5_ c7_2 (([] : List (Int × Int × Int)), 0, mNil, 0, 0, 0) = some ((c8_0a :: c8_0t), c8_1)) (hc9 : m_heapHeapviewportlaw23itemLenq2 n (c8_0a :: c8_0t) c8_1 c7_2 = some ()) (hc10 : ((c8_1 : Nat) : Int) = (0 : Int)) : G_viewportlaw23HeapSorts g1 () :=
  runF2 hm (L := lT [(20, ⟨⟨[0, 1, 5, 6], [(0, 0, false)], 2, 0⟩, (X_viewportlaw23HeapSorts_1 g1 (([] : List (Int × Int × Int)), c4_1, c4_2)).1, (X_viewportlaw23HeapSorts_1 g1 (([] : List (Int × Int × Int)), c4_1, c4_2)).2⟩), (34, ⟨⟨[0, 1, 5, 7, 8], [(0, 0, false)], 3, 0⟩, (X_viewportlaw23HeapSorts_2 c5_ c4_2 (([] : List (Int × Int × Int)), c6_1, ([] : List (Int × Int)))).1, (X_viewportlaw23HeapSorts_2 c5_ c4_2 (([] : List (Int × Int × Int)), c6_1, ([] : List (Int × Int)))).2⟩), (39, ⟨⟨[0, 1, 5, 7, 11], [(0, 0, false)], 3, 0⟩, (X_viewportlaw23HeapSorts_3 c5_ (([] : List (Int × Int × Int)), c7_1, c7_2)).1, (X_viewportlaw23HeapSorts_3 c5_ (([] : List (Int × Int × Int)), c7_1, c7_2)).2⟩), (51, ⟨⟨[0, 1, 5, 12, 13, 14], [(0, 0, false), (2, 2, true), (3, 3, false)], 4, 0⟩, (X_viewportlaw23HeapSorts_4 c5_ c7_2 ((c8_0a :: c8_0t), c8_1)).1, (X_viewportlaw23HeapSorts_4 c5_ c7_2 ((c8_0a :: c8_0t), c8_1)).2⟩)]) ⟨[4], [], 0, 0⟩ (yy 4 (.call ⟨0, [], (Value.bool true), Ax.h0, []⟩) <|
ww (m_viewportlaw23lives_ok n  () hc1) <|
zz 11 (xdF hc2) <|
yy 14 (.call (C_heapNewviewportref23Itemq1  () [] [(0, 0, false)])) <|
ww (m_heapNewviewportref23Itemq1_ok n  () hc3) <|
ww (p := U_viewportlaw23HeapSorts_1 none g1 (([] : List (Int × Int × Int)), 0, 0, 0) (([] : List (Int × Int × Int)), c4_1, c4_2)) (m_viewportlaw23HeapSorts_1_ok n g1 (([] : List (Int × Int × Int)), 0, 0, 0) (([] : List (Int × Int × Int)), c4_1, c4_2) hc4) <|
yy 26 (.call (C_viewportkitPickq1 g1 (w64 ((((Args.A).length : Nat) : Int) + (1 : Int))) c5_ [] [])) <|
ww (m_viewportkitPickq1_ok n g1 (w64 ((((Args.A).length : Nat) : Int) + (1 : Int))) c5_ hc5) <|
ww (p := U_viewportlaw23HeapSorts_2 none c5_ c4_2 (([] : List (Int × Int × Int)), 0, ([] : List (Int × Int)), 0) (([] : List (Int × Int × Int)), c6_1, ([] : List (Int × Int)))) (m_viewportlaw23HeapSorts_2_ok n c5_ c4_2 (([] : List (Int × Int × Int)), 0, ([] : List (Int × Int)), 0) (([] : List (Int × Int × Int)), c6_1, ([] : List (Int × Int))) hc6) <|
ww (p := U_viewportlaw23HeapSorts_3 none c5_ (([] : List (Int × Int × Int)), 0, c4_2, ([] : List (Int × Int)), 0) (([] : List (Int × Int × Int)), c7_1, c7_2)) (m_viewportlaw23HeapSorts_3_ok n c5_ (([] : List (Int × Int × Int)), 0, c4_2, ([] : List (Int × Int)), 0) (([] : List (Int × Int × Int)), c7_1, c7_2) hc7) <|
ww (p := U_viewportlaw23HeapSorts_4 none c5_ c7_2 (([] : List (Int × Int × Int)), 0, mNil, 0, 0, 0) ((c8_0a :: c8_0t), c8_1)) (m_viewportlaw23HeapSorts_4_ok n c5_ c7_2 (([] : List (Int × Int × Int)), 0, mNil, 0, 0, 0) ((c8_0a :: c8_0t), c8_1) hc8) <|
ww (mflat mvI (fun _ => rfl) (mNil : MapI Int) (mLen (mNil : MapI Int))) <|
yy 54 (.call (C_heapHeapviewportlaw23itemLenq2 (c8_0a :: c8_0t) c8_1 c7_2 () [(0, 0, false), (1, 1, true)] [])) <|
ww (m_heapHeapviewportlaw23itemLenq2_ok n (c8_0a :: c8_0t) c8_1 c7_2 () hc9) <|
ww (rows_flat rwf_iii (c8_0a :: c8_0t) 44) <|
zz 55 (xeT hc10) <|
ee) (by kernel_rfl)
set_option maxRecDepth 100000 in
theorem p_viewportlaw23HeapSorts_3 (n : Nat) (g1 : Int) (hc1 : m_viewportlaw23lives n = some ()) (hc2 : ¬ ((((Args.A).length : Nat) : Int) > (200 : Int))) (hc3 : m_heapNewviewportref23Itemq1 n = some ()) (c4_1 : Nat) (c4_2 : Int) (hc4 : m_viewportlaw23HeapSorts_1 n g1 (([] : List (Int × Int × Int)), 0, 0, 0) = some ([], c4_1, c4_2)) (c5_ : Int) (hc5 : m_viewportkitPickq1 n g1 (w64 ((((Args.A).length : Nat) : Int) + (1 : Int))) = some c5_) (c6_1 : Nat) (hc6 : m_viewportlaw23HeapSorts_2 n c5_ c4_2 (([] : List (Int × Int × Int)), 0, ([] : List (Int × Int)), 0) = some ([], c6_1, [])) (c7_0a : Int × Int × Int) (c7_0t : List (Int × Int × Int)) (c7_1 : Nat) (c7_2 : Int) (hc7 : m_viewportlaw23HeapSorts_3 n c5_ (([] : List (Int × Int × Int)), 0, c4_2, ([] : List (Int × Int)), 0) = some ((c7_0a :: c7_0t), c7_1, c7_2)) (c8_1 : Nat) (hc8 : m_viewportlaw23HeapSorts_4 n c5_ c7_2 ((c7_0a :: c7_0t), c7_1, mNil, 0, 0, 0) = some ([], c8_1)) (hc9 : m_heapHeapviewportlaw23itemLenq1 n c7_2 = some ()) : G_viewportlaw23HeapSorts g1 () :=
  runF2 hm (L := lT [(20, ⟨⟨[0, 1, 5, 6], [(0, 0, false)], 2, 0⟩, (X_viewportlaw23HeapSorts_1 g1 (([] : List (Int × Int × Int)), c4_1, c4_2)).1, (X_viewportlaw23HeapSorts_1 g1 (([] : List (Int × Int × Int)), c4_1, c4_2)).2⟩), (34, ⟨⟨[0, 1, 5, 7, 8], [(0, 0, false)], 3, 0⟩, (X_viewportlaw23HeapSorts_2 c5_ c4_2 (([] : List (Int × Int × Int)), c6_1, ([] : List (Int × Int)))).1, (X_viewportlaw23HeapSorts_2 c5_ c4_2 (([] : List (Int × Int × Int)), c6_1, ([] : List (Int × Int)))).2⟩), (39, ⟨⟨[0, 1, 5, 7, 11], [(0, 0, false)], 3, 0⟩, (X_viewportlaw23HeapSorts_3 c5_ ((c7_0a :: c7_0t), c7_1, c7_2)).1, (X_viewportlaw23HeapSorts_3 c5_ ((c7_0a :: c7_0t), c7_1, c7_2)).2⟩), (51, ⟨⟨[0, 1, 5, 12, 13, 14], [(0, 0, false), (1, 1, true), (2, 2, true), (3, 3, false)], 4, 0⟩, (X_viewportlaw23HeapSorts_4 c5_ c7_2 (([] : List (Int × Int × Int)), c8_1)).1, (X_viewportlaw23HeapSorts_4 c5_ c7_2 (([] : List (Int × Int × Int)), c8_1)).2⟩)]) ⟨[4], [], 0, 0⟩ (yy 4 (.call ⟨0, [], (Value.bool true), Ax.h0, []⟩) <|
ww (m_viewportlaw23lives_ok n  () hc1) <|
zz 11 (xdF hc2) <|
yy 14 (.call (C_heapNewviewportref23Itemq1  () [] [(0, 0, false)])) <|
ww (m_heapNewviewportref23Itemq1_ok n  () hc3) <|
ww (p := U_viewportlaw23HeapSorts_1 none g1 (([] : List (Int × Int × Int)), 0, 0, 0) (([] : List (Int × Int × Int)), c4_1, c4_2)) (m_viewportlaw23HeapSorts_1_ok n g1 (([] : List (Int × Int × Int)), 0, 0, 0) (([] : List (Int × Int × Int)), c4_1, c4_2) hc4) <|
yy 26 (.call (C_viewportkitPickq1 g1 (w64 ((((Args.A).length : Nat) : Int) + (1 : Int))) c5_ [] [])) <|
ww (m_viewportkitPickq1_ok n g1 (w64 ((((Args.A).length : Nat) : Int) + (1 : Int))) c5_ hc5) <|
ww (p := U_viewportlaw23HeapSorts_2 none c5_ c4_2 (([] : List (Int × Int × Int)), 0, ([] : List (Int × Int)), 0) (([] : List (Int × Int × Int)), c6_1, ([] : List (Int × Int)))) (m_viewportlaw23HeapSorts_2_ok n c5_ c4_2 (([] : List (Int × Int × Int)), 0, ([] : List (Int × Int)), 0) (([] : List (Int × Int × Int)), c6_1, ([] : List (Int × Int))) hc6) <|
ww (p := U_viewportlaw23HeapSorts_3 none c5_ (([] : List (Int × Int × Int)), 0, c4_2, ([] : List (Int × Int)), 0) ((c7_0a :: c7_0t), c7_1, c7_2)) (m_viewportlaw23HeapSorts_3_ok n c5_ (([] : List (Int × Int × Int)), 0, c4_2, ([] : List (Int × Int)), 0) ((c7_0a :: c7_0t), c7_1, c7_2) hc7) <|
ww (p := U_viewportlaw23HeapSorts_4 none c5_ c7_2 ((c7_0a :: c7_0t), c7_1, mNil, 0, 0, 0) (([] : List (Int × Int × Int)), c8_1)) (m_viewportlaw23HeapSorts_4_ok n c5_ c7_2 ((c7_0a :: c7_0t), c7_1, mNil, 0, 0, 0) (([] : List (Int × Int × Int)), c8_1) hc8) <|
ww (rows_flat rwf_iii (c7_0a :: c7_0t) 44) <|
ww (mflat mvI (fun _ => rfl) (mNil : MapI Int) (mLen (mNil : MapI Int))) <|
yy 54 (.call (C_heapHeapviewportlaw23itemLenq1 c7_2 () [(0, 0, false)] [])) <|
ww (m_heapHeapviewportlaw23itemLenq1_ok n c7_2 () hc9) <|
ee) (by kernel_rfl)
set_option maxRecDepth 100000 in
theorem p_viewportlaw23HeapSorts_4 (n : Nat) (g1 : Int) (hc1 : m_viewportlaw23lives n = some ()) (hc2 : ¬ ((((Args.A).length : Nat) : Int) > (200 : Int))) (hc3 : m_heapNewviewportref23Itemq1 n = some ()) (c4_1 : Nat) (c4_2 : Int) (hc4 : m_viewportlaw23HeapSorts_1 n g1 (([] : List (Int × Int × Int)), 0, 0, 0) = some ([], c4_1, c4_2)) (c5_ : Int) (hc5 : m_viewportkitPickq1 n g1 (w64 ((((Args.A).length : Nat) : Int) + (1 : Int))) = some c5_) (c6_1 : Nat) (hc6 : m_viewportlaw23HeapSorts_2 n c5_ c4_2 (([] : List (Int × Int × Int)), 0, ([] : List (Int × Int)), 0) = some ([], c6_1, [])) (c7_0a : Int × Int × Int) (c7_0t : List (Int × Int × Int)) (c7_1 : Nat) (c7_2 : Int) (hc7 : m_viewportlaw23HeapSorts_3 n c5_ (([] : List (Int × Int × Int)), 0, c4_2, ([] : List (Int × Int)), 0) = some ((c7_0a :: c7_0t), c7_1, c7_2)) (c8_0a : Int × Int × Int) (c8_0t : List (Int × Int × Int)) (c8_1 : Nat) (hc8 : m_viewportlaw23HeapSorts_4 n c5_ c7_2 ((c7_0a :: c7_0t), c7_1, mNil, 0, 0, 0) = some ((c8_0a :: c8_0t), c8_1)) (hc9 : m_heapHeapviewportlaw23itemLenq2 n (c8_0a :: c8_0t) c8_1 c7_2 = some ()) (hc10 : ((c8_1 : Nat) : Int) = (0 : Int)) : G_viewportlaw23HeapSorts g1 () :=
  runF2 hm (L := lT [(20, ⟨⟨[0, 1, 5, 6], [(0, 0, false)], 2, 0⟩, (X_viewportlaw23HeapSorts_1 g1 (([] : List (Int × Int × Int)), c4_1, c4_2)).1, (X_viewportlaw23HeapSorts_1 g1 (([] : List (Int × Int × Int)), c4_1, c4_2)).2⟩), (34, ⟨⟨[0, 1, 5, 7, 8], [(0, 0, false)], 3, 0⟩, (X_viewportlaw23HeapSorts_2 c5_ c4_2 (([] : List (Int × Int × Int)), c6_1, ([] : List (Int × Int)))).1, (X_viewportlaw23HeapSorts_2 c5_ c4_2 (([] : List (Int × Int × Int)), c6_1, ([] : List (Int × Int)))).2⟩), (39, ⟨⟨[0, 1, 5, 7, 11], [(0, 0, false)], 3, 0⟩, (X_viewportlaw23HeapSorts_3 c5_ ((c7_0a :: c7_0t), c7_1, c7_2)).1, (X_viewportlaw23HeapSorts_3 c5_ ((c7_0a :: c7_0t), c7_1, c7_2)).2⟩), (51, ⟨⟨[0, 1, 5, 12, 13, 14], [(0, 0, false), (1, 1, true), (2, 2, true), (3, 3, false)], 4, 0⟩, (X_viewportlaw23HeapSorts_4 c5_ c7_2 ((c8_0a :: c8_0t), c8_1)).1, (X_viewportlaw23HeapSorts_4 c5_ c7_2 ((c8_0a :: c8_0t), c8_1)).2⟩)]) ⟨[4], [], 0, 0⟩ (yy 4 (.call ⟨0, [], (Value.bool true), Ax.h0, []⟩) <|
ww (m_viewportlaw23lives_ok n  () hc1) <|
zz 11 (xdF hc2) <|
yy 14 (.call (C_heapNewviewportref23Itemq1  () [] [(0, 0, false)])) <|
ww (m_heapNewviewportref23Itemq1_ok n  () hc3) <|
ww (p := U_viewportlaw23HeapSorts_1 none g1 (([] : List (Int × Int × Int)), 0, 0, 0) (([] : List (Int × Int × Int)), c4_1, c4_2)) (m_viewportlaw23HeapSorts_1_ok n g1 (([] : List (Int × Int × Int)), 0, 0, 0) (([] : List (Int × Int × Int)), c4_1, c4_2) hc4) <|
yy 26 (.call (C_viewportkitPickq1 g1 (w64 ((((Args.A).length : Nat) : Int) + (1 : Int))) c5_ [] [])) <|
ww (m_viewportkitPickq1_ok n g1 (w64 ((((Args.A).length : Nat) : Int) + (1 : Int))) c5_ hc5) <|
ww (p := U_viewportlaw23HeapSorts_2 none c5_ c4_2 (([] : List (Int × Int × Int)), 0, ([] : List (Int × Int)), 0) (([] : List (Int × Int × Int)), c6_1, ([] : List (Int × Int)))) (m_viewportlaw23HeapSorts_2_ok n c5_ c4_2 (([] : List (Int × Int × Int)), 0, ([] : List (Int × Int)), 0) (([] : List (Int × Int × Int)), c6_1, ([] : List (Int × Int))) hc6) <|
ww (p := U_viewportlaw23HeapSorts_3 none c5_ (([] : List (Int × Int × Int)), 0, c4_2, ([] : List (Int × Int)), 0) ((c7_0a :: c7_0t), c7_1, c7_2)) (m_viewportlaw23HeapSorts_3_ok n c5_ (([] : List (Int × Int × Int)), 0, c4_2, ([] : List (Int × Int)), 0) ((c7_0a :: c7_0t), c7_1, c7_2) hc7) <|
ww (p := U_viewportlaw23HeapSorts_4 none c5_ c7_2 ((c7_0a :: c7_0t), c7_1, mNil, 0, 0, 0) ((c8_0a :: c8_0t), c8_1)) (m_viewportlaw23HeapSorts_4_ok n c5_ c7_2 ((c7_0a :: c7_0t), c7_1, mNil, 0, 0, 0) ((c8_0a :: c8_0t), c8_1) hc8) <|
ww (rows_flat rwf_iii (c7_0a :: c7_0t) 44) <|
ww (mflat mvI (fun _ => rfl) (mNil : MapI Int) (mLen (mNil : MapI Int))) <|
yy 54 (.call (C_heapHeapviewportlaw23itemLenq2 (c8_0a :: c8_0t) c8_1 c7_2 () [(0, 0, false), (1, 1, true)] [])) <|
ww (m_heapHeapviewportlaw23itemLenq2_ok n (c8_0a :: c8_0t) c8_1 c7_2 () hc9) <|
ww (rows_flat rwf_iii (c8_0a :: c8_0t) 44) <|
zz 55 (xeT hc10) <|
ee) (by kernel_rfl)
set_option maxRecDepth 100000 in
theorem p_viewportlaw23HeapSorts_5 (n : Nat) (g1 : Int) (hc1 : m_viewportlaw23lives n = some ()) (hc2 : ¬ ((((Args.A).length : Nat) : Int) > (200 : Int))) (hc3 : m_heapNewviewportref23Itemq1 n = some ()) (c4_1 : Nat) (c4_2 : Int) (hc4 : m_viewportlaw23HeapSorts_1 n g1 (([] : List (Int × Int × Int)), 0, 0, 0) = some ([], c4_1, c4_2)) (c5_ : Int) (hc5 : m_viewportkitPickq1 n g1 (w64 ((((Args.A).length : Nat) : Int) + (1 : Int))) = some c5_) (c6_1 : Nat) (c6_2a : Int × Int) (c6_2t : List (Int × Int)) (hc6 : m_viewportlaw23HeapSorts_2 n c5_ c4_2 (([] : List (Int × Int × Int)), 0, ([] : List (Int × Int)), 0) = some ([], c6_1, (c6_2a :: c6_2t))) (c7_1 : Nat) (c7_2 : Int) (hc7 : m_viewportlaw23HeapSorts_3 n c5_ (([] : List (Int × Int × Int)), 0, c4_2, (c6_2a :: c6_2t), 0) = some ([], c7_1, c7_2)) (c8_1 : Nat) (hc8 : m_viewportlaw23HeapSorts_4 n c5_ c7_2 (([] : List (Int × Int × Int)), 0, mNil, 0, 0, 0) = some ([], c8_1)) (hc9 : m_heapHeapviewportlaw23itemLenq1 n c7_2 = some ()) : G_viewportlaw23HeapSorts g1 () :=
  runF2 hm (L := lT [(20, ⟨⟨[0, 1, 5, 6], [(0, 0, false)], 2, 0⟩, (X_viewportlaw23HeapSorts_1 g1 (([] : List (Int × Int × Int)), c4_1, c4_2)).1, (X_viewportlaw23HeapSorts_1 g1 (([] : List (Int × Int × Int)), c4_1, c4_2)).2⟩), (34, ⟨⟨[0, 1, 5, 7, 8], [(0, 0, false)], 3, 0⟩, (X_viewportlaw23HeapSorts_2 c5_ c4_2 (([] : List (Int × Int × Int)), c6_1, (c6_2a :: c6_2t))).1, (X_viewportlaw23HeapSorts_2 c5_ c4_2 (([] : List (Int × Int × Int)), c6_1, (c6_2a :: c6_2t))).2⟩), (39, ⟨⟨[0, 1, 5, 7, 11], [(0, 0, false), (2, 2, true)], 3, 0⟩, (X_viewportlaw23HeapSorts_3 c5_ (([] : List (Int × Int × Int)), c7_1, c7_2)).1, (X_viewportlaw23HeapSorts_3 c5_ (([] : List (Int × Int × Int)), c7_1, c7_2)).2⟩), (51, ⟨⟨[0, 1, 5, 12, 13, 14], [(0, 0, false), (2, 2, true), (3, 3, false)], 4, 0⟩, (X_viewportlaw23HeapSorts_4 c5_ c7_2 (([] : List (Int × Int × Int)), c8_1)).1, (X_viewportlaw23HeapSorts_4 c5_ c7_2 (([] : List (Int × Int × Int)), c8_1)).2⟩)]) ⟨[4], [], 0, 0⟩ (yy 4 (.call ⟨0, [], (Value.bool true), Ax.h0, []⟩) <|
ww (m_viewportlaw23lives_ok n  () hc1) <|
zz 11 (xdF hc2) <|
yy 14 (.call (C_heapNewviewportref23Itemq1  () [] [(0, 0, false)])) <|
ww (m_heapNewviewportref23Itemq1_ok n  () hc3) <|
ww (p := U_viewportlaw23HeapSorts_1 none g1 (([] : List (Int × Int × Int)), 0, 0, 0) (([] : List (Int × Int × Int)), c4_1, c4_2)) (m_viewportlaw23HeapSorts_1_ok n g1 (([] : List (Int × Int × Int)), 0, 0, 0) (([] : List (Int × Int × Int)), c4_1, c4_2) hc4) <|
yy 26 (.call (C_viewportkitPickq1 g1 (w64 ((((Args.A).length : Nat) : Int) + (1 : Int))) c5_ [] [])) <|
ww (m_viewportkitPickq1_ok n g1 (w64 ((((Args.A).length : Nat) : Int) + (1 : Int))) c5_ hc5) <|
ww (p := U_viewportlaw23HeapSorts_2 none c5_ c4_2 (([] : List (Int × Int × Int)), 0, ([] : List (Int × Int)), 0) (([] : List (Int × Int × Int)), c6_1, (c6_2a :: c6_2t))) (m_viewportlaw23HeapSorts_2_ok n c5_ c4_2 (([] : List (Int × Int × Int)), 0, ([] : List (Int × Int)), 0) (([] : List (Int × Int × Int)), c6_1, (c6_2a :: c6_2t)) hc6) <|
ww (p := U_viewportlaw23HeapSorts_3 none c5_ (([] : List (Int × Int × Int)), 0, c4_2, (c6_2a :: c6_2t), 0) (([] : List (Int × Int × Int)), c7_1, c7_2)) (m_viewportlaw23HeapSorts_3_ok n c5_ (([] : List (Int × Int × Int)), 0, c4_2, (c6_2a :: c6_2t), 0) (([] : List (Int × Int × Int)), c7_1, c7_2) hc7) <|
ww (rows_flat rwf_ii (c6_2a :: c6_2t) 27) <|
ww (p := U_viewportlaw23HeapSorts_4 none c5_ c7_2 (([] : List (Int × Int × Int)), 0, mNil, 0, 0, 0) (([] : List (Int × Int × Int)), c8_1)) (m_viewportlaw23HeapSorts_4_ok n c5_ c7_2 (([] : List (Int × Int × Int)), 0, mNil, 0, 0, 0) (([] : List (Int × Int × Int)), c8_1) hc8) <|
ww (mflat mvI (fun _ => rfl) (mNil : MapI Int) (mLen (mNil : MapI Int))) <|
yy 54 (.call (C_heapHeapviewportlaw23itemLenq1 c7_2 () [(0, 0, false)] [])) <|
ww (m_heapHeapviewportlaw23itemLenq1_ok n c7_2 () hc9) <|
ee) (by kernel_rfl)
set_option maxRecDepth 100000 in
theorem p_viewportlaw23HeapSorts_6 (n : Nat) (g1 : Int) (hc1 : m_viewportlaw23lives n = some ()) (hc2 : ¬ ((((Args.A).length : Nat) : Int) > (200 : Int))) (hc3 : m_heapNewviewportref23Itemq1 n = some ()) (c4_1 : Nat) (c4_2 : Int) (hc4 : m_viewportlaw23HeapSorts_1 n g1 (([] : List (Int × Int × Int)), 0, 0, 0) = some ([], c4_1, c4_2)) (c5_ : Int) (hc5 : m_viewportkitPickq1 n g1 (w64 ((((Args.A).length : Nat) : Int) + (1 : Int))) = some c5_) (c6_1 : Nat) (c6_2a : Int × Int) (c6_2t : List (Int × Int)) (hc6 : m_viewportlaw23HeapSorts_2 n c5_ c4_2 (([] : List (Int × Int × Int)), 0, ([] : List (Int × Int)), 0) = some ([], c6_1, (c6_2a :: c6_2t))) (c7_1 : Nat) (c7_2 : Int) (hc7 : m_viewportlaw23HeapSorts_3 n c5_ (([] : List (Int × Int × Int)), 0, c4_2, (c6_2a :: c6_2t), 0) = some ([], c7_1, c7_2)) (c8_0a : Int × Int × Int) (c8_0t : List (Int × Int × Int)) (c8_1 : Nat) (hc8 : m_viewportlaw23HeapSorts_4 n c5_ c7_2 (([] : List (Int × Int × Int)), 0, mNil, 0, 0, 0) = some ((c8_0a :: c8_0t), c8_1)) (hc9 : m_heapHeapviewportlaw23itemLenq2 n (c8_0a :: c8_0t) c8_1 c7_2 = some ()) (hc10 : ((c8_1 : Nat) : Int) = (0 : Int)) : G_viewportlaw23HeapSorts g1 () :=
  runF2 hm (L := lT [(20, ⟨⟨[0, 1, 5, 6], [(0, 0, false)], 2, 0⟩, (X_viewportlaw23HeapSorts_1 g1 (([] : List (Int × Int × Int)), c4_1, c4_2)).1, (X_viewportlaw23HeapSorts_1 g1 (([] : List (Int × Int × Int)), c4_1, c4_2)).2⟩), (34, ⟨⟨[0, 1, 5, 7, 8], [(0, 0, false)], 3, 0⟩, (X_viewportlaw23HeapSorts_2 c5_ c4_2 (([] : List (Int × Int × Int)), c6_1, (c6_2a :: c6_2t))).1, (X_viewportlaw23HeapSorts_2 c5_ c4_2 (([] : List (Int × Int × Int)), c6_1, (c6_2a :: c6_2t))).2⟩), (39, ⟨⟨[0, 1, 5, 7, 11], [(0, 0, false), (2, 2, true)], 3, 0⟩, (X_viewportlaw23HeapSorts_3 c5_ (([] : List (Int × Int × Int)), c7_1, c7_2)).1, (X_viewportlaw23HeapSorts_3 c5_ (([] : List (Int × Int × Int)), c7_1, c7_2)).2⟩), (51, ⟨⟨[0, 1, 5, 12, 13, 14], [(0, 0, false), (2, 2, true), (3, 3, false)], 4, 0⟩, (X_viewportlaw23HeapSorts_4 c5_ c7_2 ((c8_0a :: c8_0t), c8_1)).1, (X_viewportlaw23HeapSorts_4 c5_ c7_2 ((c8_0a :: c8_0t), c8_1)).2⟩)]) ⟨[4], [], 0, 0⟩ (yy 4 (.call ⟨0, [], (Value.bool true), Ax.h0, []⟩) <|
ww (m_viewportlaw23lives_ok n  () hc1) <|
zz 11 (xdF hc2) <|
yy 14 (.call (C_heapNewviewportref23Itemq1  () [] [(0, 0, false)])) <|
ww (m_heapNewviewportref23Itemq1_ok n  () hc3) <|
ww (p := U_viewportlaw23HeapSorts_1 none g1 (([] : List (Int × Int × Int)), 0, 0, 0) (([] : List (Int × Int × Int)), c4_1, c4_2)) (m_viewportlaw23HeapSorts_1_ok n g1 (([] : List (Int × Int × Int)), 0, 0, 0) (([] : List (Int × Int × Int)), c4_1, c4_2) hc4) <|
yy 26 (.call (C_viewportkitPickq1 g1 (w64 ((((Args.A).length : Nat) : Int) + (1 : Int))) c5_ [] [])) <|
ww (m_viewportkitPickq1_ok n g1 (w64 ((((Args.A).length : Nat) : Int) + (1 : Int))) c5_ hc5) <|
ww (p := U_viewportlaw23HeapSorts_2 none c5_ c4_2 (([] : List (Int × Int × Int)), 0, ([] : List (Int × Int)), 0) (([] : List (Int × Int × Int)), c6_1, (c6_2a :: c6_2t))) (m_viewportlaw23HeapSorts_2_ok n c5_ c4_2 (([] : List (Int × Int × Int)), 0, ([] : List (Int × Int)), 0) (([] : List (Int × Int × Int)), c6_1, (c6_2a :: c6_2t)) hc6) <|
ww (p := U_viewportlaw23HeapSorts_3 none c5_ (([] : List (Int × Int × Int)), 0, c4_2, (c6_2a :: c6_2t), 0) (([] : List (Int × Int × Int)), c7_1, c7_2)) (m_viewportlaw23HeapSorts_3_ok n c5_ (([] : List (Int × Int × Int)), 0, c4_2, (c6_2a :: c6_2t), 0) (([] : List (Int × Int × Int)), c7_1, c7_2) hc7) <|
ww (rows_flat rwf_ii (c6_2a :: c6_2t) 27) <|
ww (p := U_viewportlaw23HeapSorts_4 none c5_ c7_2 (([] : List (Int × Int × Int)), 0, mNil, 0, 0, 0) ((c8_0a :: c8_0t), c8_1)) (m_viewportlaw23HeapSorts_4_ok n c5_ c7_2 (([] : List (Int × Int × Int)), 0, mNil, 0, 0, 0) ((c8_0a :: c8_0t), c8_1) hc8) <|
ww (mflat mvI (fun _ => rfl) (mNil : MapI Int) (mLen (mNil : MapI Int))) <|
yy 54 (.call (C_heapHeapviewportlaw23itemLenq2 (c8_0a :: c8_0t) c8_1 c7_2 () [(0, 0, false), (1, 1, true)] [])) <|
ww (m_heapHeapviewportlaw23itemLenq2_ok n (c8_0a :: c8_0t) c8_1 c7_2 () hc9) <|
ww (rows_flat rwf_iii (c8_0a :: c8_0t) 44) <|
zz 55 (xeT hc10) <|
ee) (by kernel_rfl)
set_option maxRecDepth 100000 in
theorem p_viewportlaw23HeapSorts_7 (n : Nat) (g1 : Int) (hc1 : m_viewportlaw23lives n = some ()) (hc2 : ¬ ((((Args.A).length : Nat) : Int) > (200 : Int))) (hc3 : m_heapNewviewportref23Itemq1 n = some ()) (c4_1 : Nat) (c4_2 : Int) (hc4 : m_viewportlaw23HeapSorts_1 n g1 (([] : List (Int × Int × Int)), 0, 0, 0) = some ([], c4_1, c4_2)) (c5_ : Int) (hc5 : m_viewportkitPickq1 n g1 (w64 ((((Args.A).length : Nat) : Int) + (1 : Int))) = some c5_) (c6_1 : Nat) (c6_2a : Int × Int) (c6_2t : List (Int × Int)) (hc6 : m_viewportlaw23HeapSorts_2 n c5_ c4_2 (([] : List (Int × Int × Int)), 0, ([] : List (Int × Int)), 0) = some ([], c6_1, (c6_2a :: c6_2t))) (c7_0a : Int × Int × Int) (c7_0t : List (Int × Int × Int)) (c7_1 : Nat) (c7_2 : Int) (hc7 : m_viewportlaw23HeapSorts_3 n c5_ (([] : List (Int × Int × Int)), 0, c4_2, (c6_2a :: c6_2t), 0) = some ((c7_0a :: c7_0t), c7_1, c7_2)) (c8_1 : Nat) (hc8 : m_viewportlaw23HeapSorts_4 n c5_ c7_2 ((c7_0a :: c7_0t), c7_1, mNil, 0, 0, 0) = some ([], c8_1)) (hc9 : m_heapHeapviewportlaw23itemLenq1 n c7_2 = some ()) : G_viewportlaw23HeapSorts g1 () :=
  runF2 hm (L := lT [(20, ⟨⟨[0, 1, 5, 6], [(0, 0, false)], 2, 0⟩, (X_viewportlaw23HeapSorts_1 g1 (([] : List (Int × Int × Int)), c4_1, c4_2)).1, (X_viewportlaw23HeapSorts_1 g1 (([] : List (Int × Int × Int)), c4_1, c4_2)).2⟩), (34, ⟨⟨[0, 1, 5, 7, 8], [(0, 0, false)], 3, 0⟩, (X_viewportlaw23HeapSorts_2 c5_ c4_2 (([] : List (Int × Int × Int)), c6_1, (c6_2a :: c6_2t))).1, (X_viewportlaw23HeapSorts_2 c5_ c4_2 (([] : List (Int × Int × Int)), c6_1, (c6_2a :: c6_2t))).2⟩), (39, ⟨⟨[0, 1, 5, 7, 11], [(0, 0, false), (2, 2, true)], 3, 0⟩, (X_viewportlaw23HeapSorts_3 c5_ ((c7_0a :: c7_0t), c7_1, c7_2)).1, (X_viewportlaw23HeapSorts_3 c5_ ((c7_0a :: c7_0t), c7_1, c7_2)).2⟩), (51, ⟨⟨[0, 1, 5, 12, 13, 14], [(0, 0, false), (1, 1, true), (2, 2, true), (3, 3, false)], 4, 0⟩, (X_viewportlaw23HeapSorts_4 c5_ c7_2 (([] : List (Int × Int × Int)), c8_1)).1, (X_viewportlaw23HeapSorts_4 c5_ c7_2 (([] : List (Int × Int × Int)), c8_1)).2⟩)]) ⟨[4], [], 0, 0⟩ (yy 4 (.call ⟨0, [], (Value.bool true), Ax.h0, []⟩) <|
ww (m_viewportlaw23lives_ok n  () hc1) <|
zz 11 (xdF hc2) <|
yy 14 (.call (C_heapNewviewportref23Itemq1  () [] [(0, 0, false)])) <|
ww (m_heapNewviewportref23Itemq1_ok n  () hc3) <|
ww (p := U_viewportlaw23HeapSorts_1 none g1 (([] : List (Int × Int × Int)), 0, 0, 0) (([] : List (Int × Int × Int)), c4_1, c4_2)) (m_viewportlaw23HeapSorts_1_ok n g1 (([] : List (Int × Int × Int)), 0, 0, 0) (([] : List (Int × Int × Int)), c4_1, c4_2) hc4) <|
yy 26 (.call (C_viewportkitPickq1 g1 (w64 ((((Args.A).length : Nat) : Int) + (1 : Int))) c5_ [] [])) <|
ww (m_viewportkitPickq1_ok n g1 (w64 ((((Args.A).length : Nat) : Int) + (1 : Int))) c5_ hc5) <|
ww (p := U_viewportlaw23HeapSorts_2 none c5_ c4_2 (([] : List (Int × Int × Int)), 0, ([] : List (Int × Int)), 0) (([] : List (Int × Int × Int)), c6_1, (c6_2a :: c6_2t))) (m_viewportlaw23HeapSorts_2_ok n c5_ c4_2 (([] : List (Int × Int × Int)), 0, ([] : List (Int × Int)), 0) (([] : List (Int × Int × Int)), c6_1, (c6_2a :: c6_2t)) hc6) <|
ww (p := U_viewportlaw23HeapSorts_3 none c5_ (([] : List (Int × Int × Int)), 0, c4_2, (c6_2a :: c6_2t), 0) ((c7_0a :: c7_0t), c7_1, c7_2)) (m_viewportlaw23HeapSorts_3_ok n c5_ (([] : List (Int × Int × Int)), 0, c4_2, (c6_2a :: c6_2t), 0) ((c7_0a :: c7_0t), c7_1, c7_2) hc7) <|
ww (rows_flat rwf_ii (c6_2a :: c6_2t) 27) <|
ww (p := U_viewportlaw23HeapSorts_4 none c5_ c7_2 ((c7_0a :: c7_0t), c7_1, mNil, 0, 0, 0) (([] : List (Int × Int × Int)), c8_1)) (m_viewportlaw23HeapSorts_4_ok n c5_ c7_2 ((c7_0a :: c7_0t), c7_1, mNil, 0, 0, 0) (([] : List (Int × Int × Int)), c8_1) hc8) <|
ww (rows_flat rwf_iii (c7_0a :: c7_0t) 44) <|
ww (mflat mvI (fun _ => rfl) (mNil : MapI Int) (mLen (mNil : MapI Int))) <|
yy 54 (.call (C_heapHeapviewportlaw23itemLenq1 c7_2 () [(0, 0, false)] [])) <|
ww (m_heapHeapviewportlaw23itemLenq1_ok n c7_2 () hc9) <|
ee) (by kernel_rfl)
set_option maxRecDepth 100000 in
theorem p_viewportlaw23HeapSorts_8 (n : Nat) (g1 : Int) (hc1 : m_viewportlaw23lives n = some ()) (hc2 : ¬ ((((Args.A).length : Nat) : Int) > (200 : Int))) (hc3 : m_heapNewviewportref23Itemq1 n = some ()) (c4_1 : Nat) (c4_2 : Int) (hc4 : m_viewportlaw23HeapSorts_1 n g1 (([] : List (Int × Int × Int)), 0, 0, 0) = some ([], c4_1, c4_2)) (c5_ : Int) (hc5 : m_viewportkitPickq1 n g1 (w64 ((((Args.A).length : Nat) : Int) + (1 : Int))) = some c5_) (c6_1 : Nat) (c6_2a : Int × Int) (c6_2t : List (Int × Int)) (hc6 : m_viewportlaw23HeapSorts_2 n c5_ c4_2 (([] : List (Int × Int × Int)), 0, ([] : List (Int × Int)), 0) = some ([], c6_1, (c6_2a :: c6_2t))) (c7_0a : Int × Int × Int) (c7_0t : List (Int × Int × Int)) (c7_1 : Nat) (c7_2 : Int) (hc7 : m_viewportlaw23HeapSorts_3 n c5_ (([] : List (Int × Int × Int)), 0, c4_2, (c6_2a :: c6_2t), 0) = some ((c7_0a :: c7_0t), c7_1, c7_2)) (c8_0a : Int × Int × Int) (c8_0t : List (Int × Int × Int)) (c8_1 : Nat) (hc8 : m_viewportlaw23HeapSorts_4 n c5_ c7_2 ((c7_0a :: c7_0t), c7_1, mNil, 0, 0, 0) = some ((c8_0a :: c8_0t), c8_1)) (hc9 : m_heapHeapviewportlaw23itemLenq2 n (c8_0a :: c8_0t) c8_1 c7_2 = some ()) (hc10 : ((c8_1 : Nat) : Int) = (0 : Int)) : G_viewportlaw23HeapSorts g1 () :=
  runF2 hm (L := lT [(20, ⟨⟨[0, 1, 5, 6], [(0, 0, false)], 2, 0⟩, (X_viewportlaw23HeapSorts_1 g1 (([] : List (Int × Int × Int)), c4_1, c4_2)).1, (X_viewportlaw23HeapSorts_1 g1 (([] : List (Int × Int × Int)), c4_1, c4_2)).2⟩), (34, ⟨⟨[0, 1, 5, 7, 8], [(0, 0, false)], 3, 0⟩, (X_viewportlaw23HeapSorts_2 c5_ c4_2 (([] : List (Int × Int × Int)), c6_1, (c6_2a :: c6_2t))).1, (X_viewportlaw23HeapSorts_2 c5_ c4_2 (([] : List (Int × Int × Int)), c6_1, (c6_2a :: c6_2t))).2⟩), (39, ⟨⟨[0, 1, 5, 7, 11], [(0, 0, false), (2, 2, true)], 3, 0⟩, (X_viewportlaw23HeapSorts_3 c5_ ((c7_0a :: c7_0t), c7_1, c7_2)).1, (X_viewportlaw23HeapSorts_3 c5_ ((c7_0a :: c7_0t), c7_1, c7_2)).2⟩), (51, ⟨⟨[0, 1, 5, 12, 13, 14], [(0, 0, false), (1, 1, true), (2, 2, true), (3, 3, false)], 4, 0⟩, (X_viewportlaw23HeapSorts_4 c5_ c7_2 ((c8_0a :: c8_0t), c8_1)).1, (X_viewportlaw23HeapSorts_4 c5_ c7_2 ((c8_0a :: c8_0t), c8_1)).2⟩)]) ⟨[4], [], 0, 0⟩ (yy 4 (.call ⟨0, [], (Value.bool true), Ax.h0, []⟩) <|
ww (m_viewportlaw23lives_ok n  () hc1) <|
zz 11 (xdF hc2) <|
yy 14 (.call (C_heapNewviewportref23Itemq1  () [] [(0, 0, false)])) <|
ww (m_heapNewviewportref23Itemq1_ok n  () hc3) <|
ww (p := U_viewportlaw23HeapSorts_1 none g1 (([] : List (Int × Int × Int)), 0, 0, 0) (([] : List (Int × Int × Int)), c4_1, c4_2)) (m_viewportlaw23HeapSorts_1_ok n g1 (([] : List (Int × Int × Int)), 0, 0, 0) (([] : List (Int × Int × Int)), c4_1, c4_2) hc4) <|
yy 26 (.call (C_viewportkitPickq1 g1 (w64 ((((Args.A).length : Nat) : Int) + (1 : Int))) c5_ [] [])) <|
ww (m_viewportkitPickq1_ok n g1 (w64 ((((Args.A).length : Nat) : Int) + (1 : Int))) c5_ hc5) <|
ww (p := U_viewportlaw23HeapSorts_2 none c5_ c4_2 (([] : List (Int × Int × Int)), 0, ([] : List (Int × Int)), 0) (([] : List (Int × Int × Int)), c6_1, (c6_2a :: c6_2t))) (m_viewportlaw23HeapSorts_2_ok n c5_ c4_2 (([] : List (Int × Int × Int)), 0, ([] : List (Int × Int)), 0) (([] : List (Int × Int × Int)), c6_1, (c6_2a :: c6_2t)) hc6) <|
ww (p := U_viewportlaw23HeapSorts_3 none c5_ (([] : List (Int × Int × Int)), 0, c4_2, (c6_2a :: c6_2t), 0) ((c7_0a :: c7_0t), c7_1, c7_2)) (m_viewportlaw23HeapSorts_3_ok n c5_ (([] : List (Int × Int × Int)), 0, c4_2, (c6_2a :: c6_2t), 0) ((c7_0a :: c7_0t), c7_1, c7_2) hc7) <|
ww (rows_flat rwf_ii (c6_2a :: c6_2t) 27) <|
ww (p := U_viewportlaw23HeapSorts_4 none c5_ c7_2 ((c7_0a :: c7_0t), c7_1, mNil, 0, 0, 0) ((c8_0a :: c8_0t), c8_1)) (m_viewportlaw23HeapSorts_4_ok n c5_ c7_2 ((c7_0a :: c7_0t), c7_1, mNil, 0, 0, 0) ((c8_0a :: c8_0t), c8_1) hc8) <|
ww (rows_flat rwf_iii (c7_0a :: c7_0t) 44) <|
ww (mflat mvI (fun _ => rfl) (mNil : MapI Int) (mLen (mNil : MapI Int))) <|
yy 54 (.call (C_heapHeapviewportlaw23itemLenq2 (c8_0a :: c8_0t) c8_1 c7_2 () [(0, 0, false), (1, 1, true)] [])) <|
ww (m_heapHeapviewportlaw23itemLenq2_ok n (c8_0a :: c8_0t) c8_1 c7_2 () hc9) <|
ww (rows_flat rwf_iii (c8_0a :: c8_0t) 44) <|
zz 55 (xeT hc10) <|
ee) (by kernel_rfl)
set_option maxRecDepth 100000 in
theorem p_viewportlaw23HeapSorts_9 (n : Nat) (g1 : Int) (hc1 : m_viewportlaw23lives n = some ()) (hc2 : ¬ ((((Args.A).length : Nat) : Int) > (200 : Int))) (hc3 : m_heapNewviewportref23Itemq1 n = some ()) (c4_1 : Nat) (c4_2 : Int) (hc4 : m_viewportlaw23HeapSorts_1 n g1 (([] : List (Int × Int × Int)), 0, 0, 0) = some ([], c4_1, c4_2)) (c5_ : Int) (hc5 : m_viewportkitPickq1 n g1 (w64 ((((Args.A).length : Nat) : Int) + (1 : Int))) = some c5_) (c6_0a : Int × Int × Int) (c6_0t : List (Int × Int × Int)) (c6_1 : Nat) (hc6 : m_viewportlaw23HeapSorts_2 n c5_ c4_2 (([] : List (Int × Int × Int)), 0, ([] : List (Int × Int)), 0) = some ((c6_0a :: c6_0t), c6_1, [])) (c7_1 : Nat) (c7_2 : Int) (hc7 : m_viewportlaw23HeapSorts_3 n c5_ ((c6_0a :: c6_0t), c6_1, c4_2, ([] : List (Int × Int)), 0) = some ([], c7_1, c7_2)) (c8_1 : Nat) (hc8 : m_viewportlaw23HeapSorts_4 n c5_ c7_2 (([] : List (Int × Int × Int)), 0, mNil, 0, 0, 0) = some ([], c8_1)) (hc9 : m_heapHeapviewportlaw23itemLenq1 n c7_2 = some ()) : G_viewportlaw23HeapSorts g1 () :=
  runF2 hm (L := lT [(20, ⟨⟨[0, 1, 5, 6], [(0, 0, false)], 2, 0⟩, (X_viewportlaw23HeapSorts_1 g1 (([] : List (Int × Int × Int)), c4_1, c4_2)).1, (X_viewportlaw23HeapSorts_1 g1 (([] : List (Int × Int × Int)), c4_1, c4_2)).2⟩), (34, ⟨⟨[0, 1, 5, 7, 8], [(0, 0, false)], 3, 0⟩, (X_viewportlaw23HeapSorts_2 c5_ c4_2 ((c6_0a :: c6_0t), c6_1, ([] : List (Int × Int)))).1, (X_viewportlaw23HeapSorts_2 c5_ c4_2 ((c6_0a :: c6_0t), c6_1, ([] : List (Int × Int)))).2⟩), (39, ⟨⟨[0, 1, 5, 7, 11], [(0, 0, false), (1, 1, true)], 3, 0⟩, (X_viewportlaw23HeapSorts_3 c5_ (([] : List (Int × Int × Int)), c7_1, c7_2)).1, (X_viewportlaw23HeapSorts_3 c5_ (([] : List (Int × Int × Int)), c7_1, c7_2)).2⟩), (51, ⟨⟨[0, 1, 5, 12, 13, 14], [(0, 0, false), (2, 2, true), (3, 3, false)], 4, 0⟩, (X_viewportlaw23HeapSorts_4 c5_ c7_2 (([] : List (Int × Int × Int)), c8_1)).1, (X_viewportlaw23HeapSorts_4 c5_ c7_2 (([] : List (Int × Int × Int)), c8_1)).2⟩)]) ⟨[4], [], 0, 0⟩ (yy 4 (.call ⟨0, [], (Value.bool true), Ax.h0, []⟩) <|
ww (m_viewportlaw23lives_ok n  () hc1) <|
zz 11 (xdF hc2) <|
yy 14 (.call (C_heapNewviewportref23Itemq1  () [] [(0, 0, false)])) <|
ww (m_heapNewviewportref23Itemq1_ok n  () hc3) <|
ww (p := U_viewportlaw23HeapSorts_1 none g1 (([] : List (Int × Int × Int)), 0, 0, 0) (([] : List (Int × Int × Int)), c4_1, c4_2)) (m_viewportlaw23HeapSorts_1_ok n g1 (([] : List (Int × Int × Int)), 0, 0, 0) (([] : List (Int × Int × Int)), c4_1, c4_2) hc4) <|
yy 26 (.call (C_viewportkitPickq1 g1 (w64 ((((Args.A).length : Nat) : Int) + (1 : Int))) c5_ [] [])) <|
ww (m_viewportkitPickq1_ok n g1 (w64 ((((Args.A).length : Nat) : Int) + (1 : Int))) c5_ hc5) <|
ww (p := U_viewportlaw23HeapSorts_2 none c5_ c4_2 (([] : List (Int × Int × Int)), 0, ([] : List (Int × Int)), 0) ((c6_0a :: c6_0t), c6_1, ([] : List (Int × Int)))) (m_viewportlaw23HeapSorts_2_ok n c5_ c4_2 (([] : List (Int × Int × Int)), 0, ([] : List (Int × Int)), 0) ((c6_0a :: c6_0t), c6_1, ([] : List (Int × Int))) hc6) <|
ww (p := U_viewportlaw23HeapSorts_3 none c5_ ((c6_0a :: c6_0t), c6_1, c4_2, ([] : List (Int × Int)), 0) (([] : List (Int × Int × Int)), c7_1, c7_2)) (m_viewportlaw23HeapSorts_3_ok n c5_ ((c6_0a :: c6_0t), c6_1, c4_2, ([] : List (Int × Int)), 0) (([] : List (Int × Int × Int)), c7_1, c7_2) hc7) <|
ww (rows_flat rwf_iii (c6_0a :: c6_0t) 44) <|
ww (p := U_viewportlaw23HeapSorts_4 none c5_ c7_2 (([] : List (Int × Int × Int)), 0, mNil, 0, 0, 0) (([] : List (Int × Int × Int)), c8_1)) (m_viewportlaw23HeapSorts_4_ok n c5_ c7_2 (([] : List (Int × Int × Int)), 0, mNil, 0, 0, 0) (([] : List (Int × Int × Int)), c8_1) hc8) <|
ww (mflat mvI (fun _ => rfl) (mNil : MapI Int) (mLen (mNil : MapI Int))) <|
yy 54 (.call (C_heapHeapviewportlaw23itemLenq1 c7_2 () [(0, 0, false)] [])) <|
ww (m_heapHeapviewportlaw23itemLenq1_ok n c7_2 () hc9) <|
ee) (by kernel_rfl)
set_option maxRecDepth 100000 in
theorem p_viewportlaw23HeapSorts_10 (n : Nat) (g1 : Int) (hc1 : m_viewportlaw23lives n = some ()) (hc2 : ¬ ((((Args.A).length : Nat) : Int) > (200 : Int))) (hc3 : m_heapNewviewportref23Itemq1 n = some ()) (c4_1 : Nat) (c4_2 : Int) (hc4 : m_viewportlaw23HeapSorts_1 n g1 (([] : List (Int × Int × Int)), 0, 0, 0) = some ([], c4_1, c4_2)) (c5_ : Int) (hc5 : m_viewportkitPickq1 n g1 (w64 ((((Args.A).length : Nat) : Int) + (1 : Int))) = some c5_) (c6_0a : Int × Int × Int) (c6_0t : List (Int × Int × Int)) (c6_1 : Nat) (hc6 : m_viewportlaw23HeapSorts_2 n c5_ c4_2 (([] : List (Int × Int × Int)), 0, ([] : List (Int × Int)), 0) = some ((c6_0a :: c6_0t), c6_1, [])) (c7_1 : Nat) (c7_2 : Int) (hc7 : m_viewportlaw23HeapSorts_3 n c5_ ((c6_0a :: c6_0t), c6_1, c4_2, ([] : List (Int × Int)), 0) = some ([], c7_1, c7_2)) (c8_0a : Int × Int × Int) (c8_0t : List (Int × Int × Int)) (c8_1 : Nat) (hc8 : m_viewportlaw23HeapSorts_4 n c5_ c7_2 (([] : List (Int × Int × Int)), 0, mNil, 0, 0, 0) = some ((c8_0a :: c8_0t), c8_1)) (hc9 : m_heapHeapviewportlaw23itemLenq2 n (c8_0a :: c8_0t) c8_1 c7_2 = some ()) (hc10 : ((c8_1 : Nat) : Int) = (0 : Int)) : G_viewportlaw23HeapSorts g1 () :=
  runF2 hm (L := lT [(20, ⟨⟨[0, 1, 5, 6], [(0, 0, false)], 2, 0⟩, (X_viewportlaw23HeapSorts_1 g1 (([] : List (Int × Int × Int)), c4_1, c4_2)).1, (X_viewportlaw23HeapSorts_1 g1 (([] : List (Int × Int × Int)), c4_1, c4_2)).2⟩), (34, ⟨⟨[0, 1, 5, 7, 8], [(0, 0, false)], 3, 0⟩, (X_viewportlaw23HeapSorts_2 c5_ c4_2 ((c6_0a :: c6_0t), c6_1, ([] : List (Int × Int)))).1, (X_viewportlaw23HeapSorts_2 c5_ c4_2 ((c6_0a :: c6_0t), c6_1, ([] : List (Int × Int)))).2⟩), (39, ⟨⟨[0, 1, 5, 7, 11], [(0, 0, false), (1, 1, true)], 3, 0⟩, (X_viewportlaw23HeapSorts_3 c5_ (([] : List (Int × Int × Int)), c7_1, c7_2)).1, (X_viewportlaw23HeapSorts_3 c5_ (([] : List (Int × Int × Int)), c7_1, c7_2)).2⟩), (51, ⟨⟨[0, 1, 5, 12, 13, 14], [(0, 0, false), (2, 2, true), (3, 3, false)], 4, 0⟩, (X_viewportlaw23HeapSorts_4 c5_ c7_2 ((c8_0a :: c8_0t), c8_1)).1, (X_viewportlaw23HeapSorts_4 c5_ c7_2 ((c8_0a :: c8_0t), c8_1)).2⟩)]) ⟨[4], [], 0, 0⟩ (yy 4 (.call ⟨0, [], (Value.bool true), Ax.h0, []⟩) <|
ww (m_viewportlaw23lives_ok n  () hc1) <|
zz 11 (xdF hc2) <|
yy 14 (.call (C_heapNewviewportref23Itemq1  () [] [(0, 0, false)])) <|
ww (m_heapNewviewportref23Itemq1_ok n  () hc3) <|
ww (p := U_viewportlaw23HeapSorts_1 none g1 (([] : List (Int × Int × Int)), 0, 0, 0) (([] : List (Int × Int × Int)), c4_1, c4_2)) (m_viewportlaw23HeapSorts_1_ok n g1 (([] : List (Int × Int × Int)), 0, 0, 0) (([] : List (Int × Int × Int)), c4_1, c4_2) hc4) <|
yy 26 (.call (C_viewportkitPickq1 g1 (w64 ((((Args.A).length : Nat) : Int) + (1 : Int))) c5_ [] [])) <|
ww (m_viewportkitPickq1_ok n g1 (w64 ((((Args.A).length : Nat) : Int) + (1 : Int))) c5_ hc5) <|
ww (p := U_viewportlaw23HeapSorts_2 none c5_ c4_2 (([] : List (Int × Int × Int)), 0, ([] : List (Int × Int)), 0) ((c6_0a :: c6_0t), c6_1, ([] : List (Int × Int)))) (m_viewportlaw23HeapSorts_2_ok n c5_ c4_2 (([] : List (Int × Int × Int)), 0, ([] : List (Int × Int)), 0) ((c6_0a :: c6_0t), c6_1, ([] : List (Int × Int))) hc6) <|
ww (p := U_viewportlaw23HeapSorts_3 none c5_ ((c6_0a :: c6_0t), c6_1, c4_2, ([] : List (Int × Int)), 0) (([] : List (Int × Int × Int)), c7_1, c7_2)) (m_viewportlaw23HeapSorts_3_ok n c5_ ((c6_0a :: c6_0t), c6_1, c4_2, ([] : List (Int × Int)), 0) (([] : List (Int × Int × Int)), c7_1, c7_2) hc7) <|
ww (rows_flat rwf_iii (c6_0a :: c6_0t) 44) <|
ww (p := U_viewportlaw23HeapSorts_4 none c5_ c7_2 (([] : List (Int × Int × Int)), 0, mNil, 0, 0, 0) ((c8_0a :: c8_0t), c8_1)) (m_viewportlaw23HeapSorts_4_ok n c5_ c7_2 (([] : List (Int × Int × Int)), 0, mNil, 0, 0, 0) ((c8_0a :: c8_0t), c8_1) hc8) <|
ww (mflat mvI (fun _ => rfl) (mNil : MapI Int) (mLen (mNil : MapI Int))) <|
yy 54 (.call (C_heapHeapviewportlaw23itemLenq2 (c8_0a :: c8_0t) c8_1 c7_2 () [(0, 0, false), (1, 1, true)] [])) <|
ww (m_heapHeapviewportlaw23itemLenq2_ok n (c8_0a :: c8_0t) c8_1 c7_2 () hc9) <|
ww (rows_flat rwf_iii (c8_0a :: c8_0t) 44) <|
zz 55 (xeT hc10) <|
ee) (by kernel_rfl)
set_option maxRecDepth 100000 in
theorem p_viewportlaw23HeapSorts_11 (n : Nat) (g1 : Int) (hc1 : m_viewportlaw23lives n = some ()) (hc2 : ¬ ((((Args.A).length : Nat) : Int) > (200 : Int))) (hc3 : m_heapNewviewportref23Itemq1 n = some ()) (c4_1 : Nat) (c4_2 : Int) (hc4 : m_viewportlaw23HeapSorts_1 n g1 (([] : List (Int × Int × Int)), 0, 0, 0) = some ([], c4_1, c4_2)) (c5_ : Int) (hc5 : m_viewportkitPickq1 n g1 (w64 ((((Args.A).length : Nat) : Int) + (1 : Int))) = some c5_) (c6_0a : Int × Int × Int) (c6_0t : List (Int × Int × Int)) (c6_1 : Nat) (hc6 : m_viewportlaw23HeapSorts_2 n c5_ c4_2 (([] : List (Int × Int × Int)), 0, ([] : List (Int × Int)), 0) = some ((c6_0a :: c6_0t), c6_1, [])) (c7_0a : Int × Int × Int) (c7_0t : List (Int × Int × Int)) (c7_1 : Nat) (c7_2 : Int) (hc7 : m_viewportlaw23HeapSorts_3 n c5_ ((c6_0a :: c6_0t), c6_1, c4_2, ([] : List (Int × Int)), 0) = some ((c7_0a :: c7_0t), c7_1, c7_2)) (c8_1 : Nat) (hc8 : m_viewportlaw23HeapSorts_4 n c5_ c7_2 ((c7_0a :: c7_0t), c7_1, mNil, 0, 0, 0) = some ([], c8_1)) (hc9 : m_heapHeapviewportlaw23itemLenq1 n c7_2 = some ()) : G_viewportlaw23HeapSorts g1 () :=
  runF2 hm (L := lT [(20, ⟨⟨[0, 1, 5, 6], [(0, 0, false)], 2, 0⟩, (X_viewportlaw23HeapSorts_1 g1 (([] : List (Int × Int × Int)), c4_1, c4_2)).1, (X_viewportlaw23HeapSorts_1 g1 (([] : List (Int × Int × Int)), c4_1, c4_2)).2⟩), (34, ⟨⟨[0, 1, 5, 7, 8], [(0, 0, false)], 3, 0⟩, (X_viewportlaw23HeapSorts_2 c5_ c4_2 ((c6_0a :: c6_0t), c6_1, ([] : List (Int × Int)))).1, (X_viewportlaw23HeapSorts_2 c5_ c4_2 ((c6_0a :: c6_0t), c6_1, ([] : List (Int × Int)))).2⟩), (39, ⟨⟨[0, 1, 5, 7, 11], [(0, 0, false), (1, 1, true)], 3, 0⟩, (X_viewportlaw23HeapSorts_3 c5_ ((c7_0a :: c7_0t), c7_1, c7_2)).1, (X_viewportlaw23HeapSorts_3 c5_ ((c7_0a :: c7_0t), c7_1, c7_2)).2⟩), (51, ⟨⟨[0, 1, 5, 12, 13, 14], [(0, 0, false), (1, 1, true), (2, 2, true), (3, 3, false)], 4, 0⟩, (X_viewportlaw23HeapSorts_4 c5_ c7_2 (([] : List (Int × Int × Int)), c8_1)).1, (X_viewportlaw23HeapSorts_4 c5_ c7_2 (([] : List (Int × Int × Int)), c8_1)).2⟩)]) ⟨[4], [], 0, 0⟩ (yy 4 (.call ⟨0, [], (Value.bool true), Ax.h0, []⟩) <|
ww (m_viewportlaw23lives_ok n  () hc1) <|
zz 11 (xdF hc2) <|
yy 14 (.call (C_heapNewviewportref23Itemq1  () [] [(0, 0, false)])) <|
ww (m_heapNewviewportref23Itemq1_ok n  () hc3) <|
ww (p := U_viewportlaw23HeapSorts_1 none g1 (([] : List (Int × Int × Int)), 0, 0, 0) (([] : List (Int × Int × Int)), c4_1, c4_2)) (m_viewportlaw23HeapSorts_1_ok n g1 (([] : List (Int × Int × Int)), 0, 0, 0) (([] : List (Int × Int × Int)), c4_1, c4_2) hc4) <|
yy 26 (.call (C_viewportkitPickq1 g1 (w64 ((((Args.A).length : Nat) : Int) + (1 : Int))) c5_ [] [])) <|
ww (m_viewportkitPickq1_ok n g1 (w64 ((((Args.A).length : Nat) : Int) + (1 : Int))) c5_ hc5) <|
ww (p := U_viewportlaw23HeapSorts_2 none c5_ c4_2 (([] : List (Int × Int × Int)), 0, ([] : List (Int × Int)), 0) ((c6_0a :: c6_0t), c6_1, ([] : List (Int × Int)))) (m_viewportlaw23HeapSorts_2_ok n c5_ c4_2 (([] : List (Int × Int × Int)), 0, ([] : List (Int × Int)), 0) ((c6_0a :: c6_0t), c6_1, ([] : List (Int × Int))) hc6) <|
ww (p := U_viewportlaw23HeapSorts_3 none c5_ ((c6_0a :: c6_0t), c6_1, c4_2, ([] : List (Int × Int)), 0) ((c7_0a :: c7_0t), c7_1, c7_2)) (m_viewportlaw23HeapSorts_3_ok n c5_ ((c6_0a :: c6_0t), c6_1, c4_2, ([] : List (Int × Int)), 0) ((c7_0a :: c7_0t), c7_1, c7_2) hc7) <|
ww (rows_flat rwf_iii (c6_0a :: c6_0t) 44) <|
ww (p := U_viewportlaw23HeapSorts_4 none c5_ c7_2 ((c7_0a :: c7_0t), c7_1, mNil, 0, 0, 0) (([] : List (Int × Int × Int)), c8_1)) (m_viewportlaw23HeapSorts_4_ok n c5_ c7_2 ((c7_0a :: c7_0t), c7_1, mNil, 0, 0, 0) (([] : List (Int × Int × Int)), c8_1) hc8) <|
ww (rows_flat rwf_iii (c7_0a :: c7_0t) 44) <|
ww (mflat mvI (fun _ => rfl) (mNil : MapI Int) (mLen (mNil : MapI Int))) <|
yy 54 (.call (C_heapHeapviewportlaw23itemLenq1 c7_2 () [(0, 0, false)] [])) <|
ww (m_heapHeapviewportlaw23itemLenq1_ok n c7_2 () hc9) <|
ee) (by kernel_rfl)
set_option maxRecDepth 100000 in
theorem p_viewportlaw23HeapSorts_12 (n : Nat) (g1 : Int) (hc1 : m_viewportlaw23lives n = some ()) (hc2 : ¬ ((((Args.A).length : Nat) : Int) > (200 : Int))) (hc3 : m_heapNewviewportref23Itemq1 n = some ()) (c4_1 : Nat) (c4_2 : Int) (hc4 : m_viewportlaw23HeapSorts_1 n g1 (([] : List (Int × Int × Int)), 0, 0, 0) = some ([], c4_1, c4_2)) (c5_ : Int) (hc5 : m_viewportkitPickq1 n g1 (w64 ((((Args.A).length : Nat) : Int) + (1 : Int))) = some c5_) (c6_0a : Int × Int × Int) (c6_0t : List (Int × Int × Int)) (c6_1 : Nat) (hc6 : m_viewportlaw23HeapSorts_2 n c5_ c4_2 (([] : List (Int × Int × Int)), 0, ([] : List (Int × Int)), 0) = some ((c6_0a :: c6_0t), c6_1, [])) (c7_0a : Int × Int × Int) (c7_0t : List (Int × Int × Int)) (c7_1 : Nat) (c7_2 : Int) (hc7 : m_viewportlaw23HeapSorts_3 n c5_ ((c6_0a :: c6_0t), c6_1, c4_2, ([] : List (Int × Int)), 0) = some ((c7_0a :: c7_0t), c7_1, c7_2)) (c8_0a : Int × Int × Int) (c8_0t : List (Int × Int × Int)) (c8_1 : Nat) (hc8 : m_viewportlaw23HeapSorts_4 n c5_ c7_2 ((c7_0a :: c7_0t), c7_1, mNil, 0, 0, 0) = some ((c8_0a :: c8_0t), c8_1)) (hc9 : m_heapHeapviewportlaw23itemLenq2 n (c8_0a :: c8_0t) c8_1 c7_2 = some ()) (hc10 : ((c8_1 : Nat) : Int) = (0 : Int)) : G_viewportlaw23HeapSorts g1 () :=
  runF2 hm (L := lT [(20, ⟨⟨[0, 1, 5, 6], [(0, 0, false)], 2, 0⟩, (X_viewportlaw23HeapSorts_1 g1 (([] : List (Int × Int × Int)), c4_1, c4_2)).1, (X_viewportlaw23HeapSorts_1 g1 (([] : List (Int × Int × Int)), c4_1, c4_2)).2⟩), (34, ⟨⟨[0, 1, 5, 7, 8], [(0, 0, false)], 3, 0⟩, (X_viewportlaw23HeapSorts_2 c5_ c4_2 ((c6_0a :: c6_0t), c6_1, ([] : List (Int × Int)))).1, (X_viewportlaw23HeapSorts_2 c5_ c4_2 ((c6_0a :: c6_0t), c6_1, ([] : List (Int × Int)))).2⟩), (39, ⟨⟨[0, 1, 5, 7, 11], [(0, 0, false), (1, 1, true)], 3, 0⟩, (X_viewportlaw23HeapSorts_3 c5_ ((c7_0a :: c7_0t), c7_1, c7_2)).1, (X_viewportlaw23HeapSorts_3 c5_ ((c7_0a :: c7_0t), c7_1, c7_2)).2⟩), (51, ⟨⟨[0, 1, 5, 12, 13, 14], [(0, 0, false), (1, 1, true), (2, 2, true), (3, 3, false)], 4, 0⟩, (X_viewportlaw23HeapSorts_4 c5_ c7_2 ((c8_0a :: c8_0t), c8_1)).1, (X_viewportlaw23HeapSorts_4 c5_ c7_2 ((c8_0a :: c8_0t), c8_1)).2⟩)]) ⟨[4], [], 0, 0⟩ (yy 4 (.call ⟨0, [], (Value.bool true), Ax.h0, []⟩) <|
ww (m_viewportlaw23lives_ok n  () hc1) <|
zz 11 (xdF hc2) <|
yy 14 (.call (C_heapNewviewportref23Itemq1  () [] [(0, 0, false)])) <|
ww (m_heapNewviewportref23Itemq1_ok n  () hc3) <|
ww (p := U_viewportlaw23HeapSorts_1 none g1 (([] : List (Int × Int × Int)), 0, 0, 0) (([] : List (Int × Int × Int)), c4_1, c4_2)) (m_viewportlaw23HeapSorts_1_ok n g1 (([] : List (Int × Int × Int)), 0, 0, 0) (([] : List (Int × Int × Int)), c4_1, c4_2) hc4) <|
yy 26 (.call (C_viewportkitPickq1 g1 (w64 ((((Args.A).length : Nat) : Int) + (1 : Int))) c5_ [] [])) <|
ww (m_viewportkitPickq1_ok n g1 (w64 ((((Args.A).length : Nat) : Int) + (1 : Int))) c5_ hc5) <|
ww (p := U_viewportlaw23HeapSorts_2 none c5_ c4_2 (([] : List (Int × Int × Int)), 0, ([] : List (Int × Int)), 0) ((c6_0a :: c6_0t), c6_1, ([] : List (Int × Int)))) (m_viewportlaw23HeapSorts_2_ok n c5_ c4_2 (([] : List (Int × Int × Int)), 0, ([] : List (Int × Int)), 0) ((c6_0a :: c6_0t), c6_1, ([] : List (Int × Int))) hc6) <|
ww (p := U_viewportlaw23HeapSorts_3 none c5_ ((c6_0a :: c6_0t), c6_1, c4_2, ([] : List (Int × Int)), 0) ((c7_0a :: c7_0t), c7_1, c7_2)) (m_viewportlaw23HeapSorts_3_ok n c5_ ((c6_0a :: c6_0t), c6_1, c4_2, ([] : List (Int × Int)), 0) ((c7_0a :: c7_0t), c7_1, c7_2) hc7) <|
ww (rows_flat rwf_iii (c6_0a :: c6_0t) 44) <|
ww (p := U_viewportlaw23HeapSorts_4 none c5_ c7_2 ((c7_0a :: c7_0t), c7_1, mNil, 0, 0, 0) ((c8_0a :: c8_0t), c8_1)) (m_viewportlaw23HeapSorts_4_ok n c5_ c7_2 ((c7_0a :: c7_0t), c7_1, mNil, 0, 0, 0) ((c8_0a :: c8_0t), c8_1) hc8) <|
ww (rows_flat rwf_iii (c7_0a :: c7_0t) 44) <|
ww (mflat mvI (fun _ => rfl) (mNil : MapI Int) (mLen (mNil : MapI Int))) <|
yy 54 (.call (C_heapHeapviewportlaw23itemLenq2 (c8_0a :: c8_0t) c8_1 c7_2 () [(0, 0, false), (1, 1, true)] [])) <|
ww (m_heapHeapviewportlaw23itemLenq2_ok n (c8_0a :: c8_0t) c8_1 c7_2 () hc9) <|
ww (rows_flat rwf_iii (c8_0a :: c8_0t) 44) <|
zz 55 (xeT hc10) <|
ee) (by kernel_rfl)
set_option maxRecDepth 100000 in
theorem p_viewportlaw23HeapSorts_13 (n : Nat) (g1 : Int) (hc1 : m_viewportlaw23lives n = some ()) (hc2 : ¬ ((((Args.A).length : Nat) : Int) > (200 : Int))) (hc3 : m_heapNewviewportref23Itemq1 n = some ()) (c4_1 : Nat) (c4_2 : Int) (hc4 : m_viewportlaw23HeapSorts_1 n g1 (([] : List (Int × Int × Int)), 0, 0, 0) = some ([], c4_1, c4_2)) (c5_ : Int) (hc5 : m_viewportkitPickq1 n g1 (w64 ((((Args.A).length : Nat) : Int) + (1 : Int))) = some c5_) (c6_0a : Int × Int × Int) (c6_0t : List (Int × Int × Int)) (c6_1 : Nat) (c6_2a : Int × Int) (c6_2t : List (Int × Int)) (hc6 : m_viewportlaw23HeapSorts_2 n c5_ c4_2 (([] : List (Int × Int × Int)), 0, ([] : List (Int × Int)), 0) = some ((c6_0a :: c6_0t), c6_1, (c6_2a :: c6_2t))) (c7_1 : Nat) (c7_2 : Int) (hc7 : m_viewportlaw23HeapSorts_3 n c5_ ((c6_0a :: c6_0t), c6_1, c4_2, (c6_2a :: c6_2t), 0) = some ([], c7_1, c7_2)) (c8_1 : Nat) (hc8 : m_viewportlaw23HeapSorts_4 n c5_ c7_2 (([] : List (Int × Int × Int)), 0, mNil, 0, 0, 0) = some ([], c8_1)) (hc9 : m_heapHeapviewportlaw23itemLenq1 n c7_2 = some ()) : G_viewportlaw23HeapSorts g1 () :=
  runF2 hm (L := lT [(20, ⟨⟨[0, 1, 5, 6], [(0, 0, false)], 2, 0⟩, (X_viewportlaw23HeapSorts_1 g1 (([] : List (Int × Int × Int)), c4_1, c4_2)).1, (X_viewportlaw23HeapSorts_1 g1 (([] : List (Int × Int × Int)), c4_1, c4_2)).2⟩), (34, ⟨⟨[0, 1, 5, 7, 8], [(0, 0, false)], 3, 0⟩, (X_viewportlaw23HeapSorts_2 c5_ c4_2 ((c6_0a :: c6_0t), c6_1, (c6_2a :: c6_2t))).1, (X_viewportlaw23HeapSorts_2 c5_ c4_2 ((c6_0a :: c6_0t), c6_1, (c6_2a :: c6_2t))).2⟩), (39, ⟨⟨[0, 1, 5, 7, 11], [(0, 0, false), (1, 1, true), (2, 2, true)], 3, 0⟩, (X_viewportlaw23HeapSorts_3 c5_ (([] : List (Int × Int × Int)), c7_1, c7_2)).1, (X_viewportlaw23HeapSorts_3 c5_ (([] : List (Int × Int × Int)), c7_1, c7_2)).2⟩), (51, ⟨⟨[0, 1, 5, 12, 13, 14], [(0, 0, false), (2, 2, true), (3, 3, false)], 4, 0⟩, (X_viewportlaw23HeapSorts_4 c5_ c7_2 (([] : List (Int × Int × Int)), c8_1)).1, (X_viewportlaw23HeapSorts_4 c5_ c7_2 (([] : List (Int × Int × Int)), c8_1)).2⟩)]) ⟨[4], [], 0, 0⟩ (yy 4 (.call ⟨0, [], (Value.bool true), Ax.h0, []⟩) <|
ww (m_viewportlaw23lives_ok n  () hc1) <|
zz 11 (xdF hc2) <|
yy 14 (.call (C_heapNewviewportref23Itemq1  () [] [(0, 0, false)])) <|
ww (m_heapNewviewportref23Itemq1_ok n  () hc3) <|
ww (p := U_viewportlaw23HeapSorts_1 none g1 (([] : List (Int × Int × Int)), 0, 0, 0) (([] : List (Int × Int × Int)), c4_1, c4_2)) (m_viewportlaw23HeapSorts_1_ok n g1 (([] : List (Int × Int × Int)), 0, 0, 0) (([] : List (Int × Int × Int)), c4_1, c4_2) hc4) <|
yy 26 (.call (C_viewportkitPickq1 g1 (w64 ((((Args.A).length : Nat) : Int) + (1 : Int))) c5_ [] [])) <|
ww (m_viewportkitPickq1_ok n g1 (w64 ((((Args.A).length : Nat) : Int) + (1 : Int))) c5_ hc5) <|
ww (p := U_viewportlaw23HeapSorts_2 none c5_ c4_2 (([] : List (Int × Int × Int)), 0, ([] : List (Int × Int)), 0) ((c6_0a :: c6_0t), c6_1, (c6_2a :: c6_2t))) (m_viewportlaw23HeapSorts_2_ok n c5_ c4_2 (([] : List (Int × Int × Int)), 0, ([] : List (Int × Int)), 0) ((c6_0a :: c6_0t), c6_1, (c6_2a :: c6_2t)) hc6) <|
ww (p := U_viewportlaw23HeapSorts_3 none c5_ ((c6_0a :: c6_0t), c6_1, c4_2, (c6_2a :: c6_2t), 0) (([] : List (Int × Int × Int)), c7_1, c7_2)) (m_viewportlaw23HeapSorts_3_ok n c5_ ((c6_0a :: c6_0t), c6_1, c4_2, (c6_2a :: c6_2t), 0) (([] : List (Int × Int × Int)), c7_1, c7_2) hc7) <|
ww (rows_flat rwf_iii (c6_0a :: c6_0t) 44) <|
ww (rows_flat rwf_ii (c6_2a :: c6_2t) 27) <|
ww (p := U_viewportlaw23HeapSorts_4 none c5_ c7_2 (([] : List (Int × Int × Int)), 0, mNil, 0, 0, 0) (([] : List (Int × Int × Int)), c8_1)) (m_viewportlaw23HeapSorts_4_ok n c5_ c7_2 (([] : List (Int × Int × Int)), 0, mNil, 0, 0, 0) (([] : List (Int × Int × Int)), c8_1) hc8) <|
ww (mflat mvI (fun _ => rfl) (mNil : MapI Int) (mLen (mNil : MapI Int))) <|
yy 54 (.call (C_heapHeapviewportlaw23itemLenq1 c7_2 () [(0, 0, false)] [])) <|
ww (m_heapHeapviewportlaw23itemLenq1_ok n c7_2 () hc9) <|
ee) (by kernel_rfl)
set_option maxRecDepth 100000 in
theorem p_viewportlaw23HeapSorts_14 (n : Nat) (g1 : Int) (hc1 : m_viewportlaw23lives n = some ()) (hc2 : ¬ ((((Args.A).length : Nat) : Int) > (200 : Int))) (hc3 : m_heapNewviewportref23Itemq1 n = some ()) (c4_1 : Nat) (c4_2 : Int) (hc4 : m_viewportlaw23HeapSorts_1 n g1 (([] : List (Int × Int × Int)), 0, 0, 0) = some ([], c4_1, c4_2)) (c5_ : Int) (hc5 : m_viewportkitPickq1 n g1 (w64 ((((Args.A).length : Nat) : Int) + (1 : Int))) = some c5_) (c6_0a : Int × Int × Int) (c6_0t : List (Int × Int × Int)) (c6_1 : Nat) (c6_2a : Int × Int) (c6_2t : List (Int × Int)) (hc6 : m_viewportlaw23HeapSorts_2 n c5_ c4_2 (([] : List (Int × Int × Int)), 0, ([] : List (Int × Int)), 0) = some ((c6_0a :: c6_0t), c6_1, (c6_2a :: c6_2t))) (c7_1 : Nat) (c7_2 : Int) (hc7 : m_viewportlaw23HeapSorts_3 n c5_ ((c6_0a :: c6_0t), c6_1, c4_2, (c6_2a :: c6_2t), 0) = some ([], c7_1, c7_2)) (c8_0a : Int × Int × Int) (c8_0t : List (Int × Int × Int)) (c8_1 : Nat) (hc8 : m_viewportlaw23HeapSorts_4 n c5_ c7_2 (([] : List (Int × Int × Int)), 0, mNil, 0, 0, 0) = some ((c8_0a :: c8_0t), c8_1)) (hc9 : m_heapHeapviewportlaw23itemLenq2 n (c8_0a :: c8_0t) c8_1 c7_2 = some ()) (hc10 : ((c8_1 : Nat) : Int) = (0 : Int)) : G_viewportlaw23HeapSorts g1 () :=
  runF2 hm (L := lT [(20, ⟨⟨[0, 1, 5, 6], [(0, 0, false)], 2, 0⟩, (X_viewportlaw23HeapSorts_1 g1 (([] : List (Int × Int × Int)), c4_1, c4_2)).1, (X_viewportlaw23HeapSorts_1 g1 (([] : List (Int × Int × Int)), c4_1, c4_2)).2⟩), (34, ⟨⟨[0, 1, 5, 7, 8], [(0, 0, false)], 3, 0⟩, (X_viewportlaw23HeapSorts_2 c5_ c4_2 ((c6_0a :: c6_0t), c6_1, (c6_2a :: c6_2t))).1, (X_viewportlaw23HeapSorts_2 c5_ c4_2 ((c6_0a :: c6_0t), c6_1, (c6_2a :: c6_2t))).2⟩), (39, ⟨⟨[0, 1, 5, 7, 11], [(0, 0, false), (1, 1, true), (2, 2, true)], 3, 0⟩, (X_viewportlaw23HeapSorts_3 c5_ (([] : List (Int × Int × Int)), c7_1, c7_2)).1, (X_viewportlaw23HeapSorts_3 c5_ (([] : List (Int × Int × Int)), c7_1, c7_2)).2⟩), (51, ⟨⟨[0, 1, 5, 12, 13, 14], [(0, 0, false), (2, 2, true), (3, 3, false)], 4, 0⟩, (X_viewportlaw23HeapSorts_4 c5_ c7_2 ((c8_0a :: c8_0t), c8_1)).1, (X_viewportlaw23HeapSorts_4 c5_ c7_2 ((c8_0a :: c8_0t), c8_1)).2⟩)]) ⟨[4], [], 0, 0⟩ (yy 4 (.call ⟨0, [], (Value.bool true), Ax.h0, []⟩) <|
ww (m_viewportlaw23lives_ok n  () hc1) <|
zz 11 (xdF hc2) <|
yy 14 (.call (C_heapNewviewportref23Itemq1  () [] [(0, 0, false)])) <|
ww (m_heapNewviewportref23Itemq1_ok n  () hc3) <|
ww (p := U_viewportlaw23HeapSorts_1 none g1 (([] : List (Int × Int × Int)), 0, 0, 0) (([] : List (Int × Int × Int)), c4_1, c4_2)) (m_viewportlaw23HeapSorts_1_ok n g1 (([] : List (Int × Int × Int)), 0, 0, 0) (([] : List (Int × Int × Int)), c4_1, c4_2) hc4) <|
yy 26 (.call (C_viewportkitPickq1 g1 (w64 ((((Args.A).length : Nat) : Int) + (1 : Int))) c5_ [] [])) <|
ww (m_viewportkitPickq1_ok n g1 (w64 ((((Args.A).length : Nat) : Int) + (1 : Int))) c5_ hc5) <|
ww (p := U_viewportlaw23HeapSorts_2 none c5_ c4_2 (([] : List (Int × Int × Int)), 0, ([] : List (Int × Int)), 0) ((c6_0a :: c6_0t), c6_1, (c6_2a :: c6_2t))) (m_viewportlaw23HeapSorts_2_ok n c5_ c4_2 (([] : List (Int × Int × Int)), 0, ([] : List (Int × Int)), 0) ((c6_0a :: c6_0t), c6_1, (c6_2a :: c6_2t)) hc6) <|
ww (p := U_viewportlaw23HeapSorts_3 none c5_ ((c6_0a :: c6_0t), c6_1, c4_2, (c6_2a :: c6_2t), 0) (([] : List (Int × Int × Int)), c7_1, c7_2)) (m_viewportlaw23HeapSorts_3_ok n c5_ ((c6_0a :: c6_0t), c6_1, c4_2, (c6_2a :: c6_2t), 0) (([] : List (Int × Int × Int)), c7_1, c7_2) hc7) <|
ww (rows_flat rwf_iii (c6_0a :: c6_0t) 44) <|
ww (rows_flat rwf_ii (c6_2a :: c6_2t) 27) <|
ww (p := U_viewportlaw23HeapSorts_4 none c5_ c7_2 (([] : List (Int × Int × Int)), 0, mNil, 0, 0, 0) ((c8_0a :: c8_0t), c8_1)) (m_viewportlaw23HeapSorts_4_ok n c5_ c7_2 (([] : List (Int × Int × Int)), 0, mNil, 0, 0, 0) ((c8_0a :: c8_0t), c8_1) hc8) <|
ww (mflat mvI (fun _ => rfl) (mNil : MapI Int) (mLen (mNil : MapI Int))) <|
yy 54 (.call (C_heapHeapviewportlaw23itemLenq2 (c8_0a :: c8_0t) c8_1 c7_2 () [(0, 0, false), (1, 1, true)] [])) <|
ww (m_heapHeapviewportlaw23itemLenq2_ok n (c8_0a :: c8_0t) c8_1 c7_2 () hc9) <|
ww (rows_flat rwf_iii (c8_0a :: c8_0t) 44) <|
zz 55 (xeT hc10) <|
ee) (by kernel_rfl)
set_option maxRecDepth 100000 in
theorem p_viewportlaw23HeapSorts_15 (n : Nat) (g1 : Int) (hc1 : m_viewportlaw23lives n = some ()) (hc2 : ¬ ((((Args.A).length : Nat) : Int) > (200 : Int))) (hc3 : m_heapNewviewportref23Itemq1 n = some ()) (c4_1 : Nat) (c4_2 : Int) (hc4 : m_viewportlaw23HeapSorts_1 n g1 (([] : List (Int × Int × Int)), 0, 0, 0) = some ([], c4_1, c4_2)) (c5_ : Int) (hc5 : m_viewportkitPickq1 n g1 (w64 ((((Args.A).length : Nat) : Int) + (1 : Int))) = some c5_) (c6_0a : Int × Int × Int) (c6_0t : List (Int × Int × Int)) (c6_1 : Nat) (c6_2a : Int × Int) (c6_2t : List (Int × Int)) (hc6 : m_viewportlaw23HeapSorts_2 n c5_ c4_2 (([] : List (Int × Int × Int)), 0, ([] : List (Int × Int)), 0) = some ((c6_0a :: c6_0t), c6_1, (c6_2a :: c6_2t))) (c7_0a : Int × Int × Int) (c7_0t : List (Int × Int × Int)) (c7_1 : Nat) (c7_2 : Int) (hc7 : m_viewportlaw23HeapSorts_3 n c5_ ((c6_0a :: c6_0t), c6_1, c4_2, (c6_2a :: c6_2t), 0) = some ((c7_0a :: c7_0t), c7_1, c7_2)) (c8_1 : Nat) (hc8 : m_viewportlaw23HeapSorts_4 n c5_ c7_2 ((c7_0a :: c7_0t), c7_1, mNil, 0, 0, 0) = some ([], c8_1)) (hc9 : m_heapHeapviewportlaw23itemLenq1 n c7_2 = some ()) : G_viewportlaw23HeapSorts g1 () :=
  runF2 hm (L := lT [(20, ⟨⟨[0, 1, 5, 6], [(0, 0, false)], 2, 0⟩, (X_viewportlaw23HeapSorts_1 g1 (([] : List (Int × Int × Int)), c4_1, c4_2)).1, (X_viewportlaw23HeapSorts_1 g1 (([] : List (Int × Int × Int)), c4_1, c4_2)).2⟩), (34, ⟨⟨[0, 1, 5, 7, 8], [(0, 0, false)], 3, 0⟩, (X_viewportlaw23HeapSorts_2 c5_ c4_2 ((c6_0a :: c6_0t), c6_1, (c6_2a :: c6_2t))).1, (X_viewportlaw23HeapSorts_2 c5_ c4_2 ((c6_0a :: c6_0t), c6_1, (c6_2a :: c6_2t))).2⟩), (39, ⟨⟨[0, 1, 5, 7, 11], [(0, 0, false), (1, 1, true), (2, 2, true)], 3, 0⟩, (X_viewportlaw23HeapSorts_3 c5_ ((c7_0a :: c7_0t), c7_1, c7_2)).1, (X_viewportlaw23HeapSorts_3 c5_ ((c7_0a :: c7_0t), c7_1, c7_2)).2⟩), (51, ⟨⟨[0, 1, 5, 12, 13, 14], [(0, 0, false), (1, 1, true), (2, 2, true), (3, 3, false)], 4, 0⟩, (X_viewportlaw23HeapSorts_4 c5_ c7_2 (([] : List (Int × Int × Int)), c8_1)).1, (X_viewportlaw23HeapSorts_4 c5_ c7_2 (([] : List (Int × Int × Int)), c8_1)).2⟩)]) ⟨[4], [], 0, 0⟩ (yy 4 (.call ⟨0, [], (Value.bool true), Ax.h0, []⟩) <|
ww (m_viewportlaw23lives_ok n  () hc1) <|
zz 11 (xdF hc2) <|
yy 14 (.call (C_heapNewviewportref23Itemq1  () [] [(0, 0, false)])) <|
ww (m_heapNewviewportref23Itemq1_ok n  () hc3) <|
ww (p := U_viewportlaw23HeapSorts_1 none g1 (([] : List (Int × Int × Int)), 0, 0, 0) (([] : List (Int × Int × Int)), c4_1, c4_2)) (m_viewportlaw23HeapSorts_1_ok n g1 (([] : List (Int × Int × Int)), 0, 0, 0) (([] : List (Int × Int × Int)), c4_1, c4_2) hc4) <|
yy 26 (.call (C_viewportkitPickq1 g1 (w64 ((((Args.A).length : Nat) : Int) + (1 : Int))) c5_ [] [])) <|
ww (m_viewportkitPickq1_ok n g1 (w64 ((((Args.A).length : Nat) : Int) + (1 : Int))) c5_ hc5) <|
ww (p := U_viewportlaw23HeapSorts_2 none c5_ c4_2 (([] : List (Int × Int × Int)), 0, ([] : List (Int × Int)), 0) ((c6_0a :: c6_0t), c6_1, (c6_2a :: c6_2t))) (m_viewportlaw23HeapSorts_2_ok n c5_ c4_2 (([] : List (Int × Int × Int)), 0, ([] : List (Int × Int)), 0) ((c6_0a :: c6_0t), c6_1, (c6_2a :: c6_2t)) hc6) <|
ww (p := U_viewportlaw23HeapSorts_3 none c5_ ((c6_0a :: c6_0t), c6_1, c4_2, (c6_2a :: c6_2t), 0) ((c7_0a :: c7_0t), c7_1, c7_2)) (m_viewportlaw23HeapSorts_3_ok n c5_ ((c6_0a :: c6_0t), c6_1, c4_2, (c6_2a :: c6_2t), 0) ((c7_0a :: c7_0t), c7_1, c7_2) hc7) <|
ww (rows_flat rwf_iii (c6_0a :: c6_0t) 44) <|
ww (rows_flat rwf_ii (c6_2a :: c6_2t) 27) <|
ww (p := U_viewportlaw23HeapSorts_4 none c5_ c7_2 ((c7_0a :: c7_0t), c7_1, mNil, 0, 0, 0) (([] : List (Int × Int × Int)), c8_1)) (m_viewportlaw23HeapSorts_4_ok n c5_ c7_2 ((c7_0a :: c7_0t), c7_1, mNil, 0, 0, 0) (([] : List (Int × Int × Int)), c8_1) hc8) <|
ww (rows_flat rwf_iii (c7_0a :: c7_0t) 44) <|
ww (mflat mvI (fun _ => rfl) (mNil : MapI Int) (mLen (mNil : MapI Int))) <|
yy 54 (.call (C_heapHeapviewportlaw23itemLenq1 c7_2 () [(0, 0, false)] [])) <|
ww (m_heapHeapviewportlaw23itemLenq1_ok n c7_2 () hc9) <|
ee) (by kernel_rfl)
set_option maxRecDepth 100000 in
theorem p_viewportlaw23HeapSorts_16 (n : Nat) (g1 : Int) (hc1 : m_viewportlaw23lives n = some ()) (hc2 : ¬ ((((Args.A).length : Nat) : Int) > (200 : Int))) (hc3 : m_heapNewviewportref23Itemq1 n = some ()) (c4_1 : Nat) (c4_2 : Int) (hc4 : m_viewportlaw23HeapSorts_1 n g1 (([] : List (Int × Int × Int)), 0, 0, 0) = some ([], c4_1, c4_2)) (c5_ : Int) (hc5 : m_viewportkitPickq1 n g1 (w64 ((((Args.A).length : Nat) : Int) + (1 : Int))) = some c5_) (c6_0a : Int × Int × Int) (c6_0t : List (Int × Int × Int)) (c6_1 : Nat) (c6_2a : Int × Int) (c6_2t : List (Int × Int)) (hc6 : m_viewportlaw23HeapSorts_2 n c5_ c4_2 (([] : List (Int × Int × Int)), 0, ([] : List (Int × Int)), 0) = some ((c6_0a :: c6_0t), c6_1, (c6_2a :: c6_2t))) (c7_0a : Int × Int × Int) (c7_0t : List (Int × Int × Int)) (c7_1 : Nat) (c7_2 : Int) (hc7 : m_viewportlaw23HeapSorts_3 n c5_ ((c6_0a :: c6_0t), c6_1, c4_2, (c6_2a :: c6_2t), 0) = some ((c7_0a :: c7_0t), c7_1, c7_2)) (c8_0a : Int × Int × Int) (c8_0t : List (Int × Int × Int)) (c8_1 : Nat) (hc8 : m_viewportlaw23HeapSorts_4 n c5_ c7_2 ((c7_0a :: c7_0t), c7_1, mNil, 0, 0, 0) = some ((c8_0a :: c8_0t), c8_1)) (hc9 : m_heapHeapviewportlaw23itemLenq2 n (c8_0a :: c8_0t) c8_1 c7_2 = some ()) (hc10 : ((c8_1 : Nat) : Int) = (0 : Int)) : G_viewportlaw23HeapSorts g1 () :=
  runF2 hm (L := lT [(20, ⟨⟨[0, 1, 5, 6], [(0, 0, false)], 2, 0⟩, (X_viewportlaw23HeapSorts_1 g1 (([] : List (Int × Int × Int)), c4_1, c4_2)).1, (X_viewportlaw23HeapSorts_1 g1 (([] : List (Int × Int × Int)), c4_1, c4_2)).2⟩), (34, ⟨⟨[0, 1, 5, 7, 8], [(0, 0, false)], 3, 0⟩, (X_viewportlaw23HeapSorts_2 c5_ c4_2 ((c6_0a :: c6_0t), c6_1, (c6_2a :: c6_2t))).1, (X_viewportlaw23HeapSorts_2 c5_ c4_2 ((c6_0a :: c6_0t), c6_1, (c6_2a :: c6_2t))).2⟩), (39, ⟨⟨[0, 1, 5, 7, 11], [(0, 0, false), (1, 1, true), (2, 2, true)], 3, 0⟩, (X_viewportlaw23HeapSorts_3 c5_ ((c7_0a :: c7_0t), c7_1, c7_2)).1, (X_viewportlaw23HeapSorts_3 c5_ ((c7_0a :: c7_0t), c7_1, c7_2)).2⟩), (51, ⟨⟨[0, 1, 5, 12, 13, 14], [(0, 0, false), (1, 1, true), (2, 2, true), (3, 3, false)], 4, 0⟩, (X_viewportlaw23HeapSorts_4 c5_ c7_2 ((c8_0a :: c8_0t), c8_1)).1, (X_viewportlaw23HeapSorts_4 c5_ c7_2 ((c8_0a :: c8_0t), c8_1)).2⟩)]) ⟨[4], [], 0, 0⟩ (yy 4 (.call ⟨0, [], (Value.bool true), Ax.h0, []⟩) <|
ww (m_viewportlaw23lives_ok n  () hc1) <|
zz 11 (xdF hc2) <|
yy 14 (.call (C_heapNewviewportref23Itemq1  () [] [(0, 0, false)])) <|
ww (m_heapNewviewportref23Itemq1_ok n  () hc3) <|
ww (p := U_viewportlaw23HeapSorts_1 none g1 (([] : List (Int × Int × Int)), 0, 0, 0) (([] : List (Int × Int × Int)), c4_1, c4_2)) (m_viewportlaw23HeapSorts_1_ok n g1 (([] : List (Int × Int × Int)), 0, 0, 0) (([] : List (Int × Int × Int)), c4_1, c4_2) hc4) <|
yy 26 (.call (C_viewportkitPickq1 g1 (w64 ((((Args.A).length : Nat) : Int) + (1 : Int))) c5_ [] [])) <|
ww (m_viewportkitPickq1_ok n g1 (w64 ((((Args.A).length : Nat) : Int) + (1 : Int))) c5_ hc5) <|
ww (p := U_viewportlaw23HeapSorts_2 none c5_ c4_2 (([] : List (Int × Int × Int)), 0, ([] : List (Int × Int)), 0) ((c6_0a :: c6_0t), c6_1, (c6_2a :: c6_2t))) (m_viewportlaw23HeapSorts_2_ok n c5_ c4_2 (([] : List (Int × Int × Int)), 0, ([] : List (Int × Int)), 0) ((c6_0a :: c6_0t), c6_1, (c6_2a :: c6_2t)) hc6) <|
ww (p := U_viewportlaw23HeapSorts_3 none c5_ ((c6_0a :: c6_0t), c6_1, c4_2, (c6_2a :: c6_2t), 0) ((c7_0a :: c7_0t), c7_1, c7_2)) (m_viewportlaw23HeapSorts_3_ok n c5_ ((c6_0a :: c6_0t), c6_1, c4_2, (c6_2a :: c6_2t), 0) ((c7_0a :: c7_0t), c7_1, c7_2) hc7) <|
ww (rows_flat rwf_iii (c6_0a :: c6_0t) 44) <|
ww (rows_flat rwf_ii (c6_2a :: c6_2t) 27) <|
ww (p := U_viewportlaw23HeapSorts_4 none c5_ c7_2 ((c7_0a :: c7_0t), c7_1, mNil, 0, 0, 0) ((c8_0a :: c8_0t), c8_1)) (m_viewportlaw23HeapSorts_4_ok n c5_ c7_2 ((c7_0a :: c7_0t), c7_1, mNil, 0, 0, 0) ((c8_0a :: c8_0t), c8_1) hc8) <|
ww (rows_flat rwf_iii (c7_0a :: c7_0t) 44) <|
ww (mflat mvI (fun _ => rfl) (mNil : MapI Int) (mLen (mNil : MapI Int))) <|
yy 54 (.call (C_heapHeapviewportlaw23itemLenq2 (c8_0a :: c8_0t) c8_1 c7_2 () [(0, 0, false), (1, 1, true)] [])) <|
ww (m_heapHeapviewportlaw23itemLenq2_ok n (c8_0a :: c8_0t) c8_1 c7_2 () hc9) <|
ww (rows_flat rwf_iii (c8_0a :: c8_0t) 44) <|
zz 55 (xeT hc10) <|
ee) (by kernel_rfl)
set_option maxRecDepth 100000 in
theorem p_viewportlaw23HeapSorts_17 (n : Nat) (g1 : Int) (hc1 : m_viewportlaw23lives n = some ()) (hc2 : ¬ ((((Args.A).length : Nat) : Int) > (200 : Int))) (hc3 : m_heapNewviewportref23Itemq1 n = some ()) (c4_0a : Int × Int × Int) (c4_0t : List (Int × Int × Int)) (c4_1 : Nat) (c4_2 : Int) (hc4 : m_viewportlaw23HeapSorts_1 n g1 (([] : List (Int × Int × Int)), 0, 0, 0) = some ((c4_0a :: c4_0t), c4_1, c4_2)) (c5_ : Int) (hc5 : m_viewportkitPickq1 n g1 (w64 ((((Args.A).length : Nat) : Int) + (1 : Int))) = some c5_) (c6_1 : Nat) (hc6 : m_viewportlaw23HeapSorts_2 n c5_ c4_2 ((c4_0a :: c4_0t), c4_1, ([] : List (Int × Int)), 0) = some ([], c6_1, [])) (c7_1 : Nat) (c7_2 : Int) (hc7 : m_viewportlaw23HeapSorts_3 n c5_ (([] : List (Int × Int × Int)), 0, c4_2, ([] : List (Int × Int)), 0) = some ([], c7_1, c7_2)) (c8_1 : Nat) (hc8 : m_viewportlaw23HeapSorts_4 n c5_ c7_2 (([] : List (Int × Int × Int)), 0, mNil, 0, 0, 0) = some ([], c8_1)) (hc9 : m_heapHeapviewportlaw23itemLenq1 n c7_2 = some ()) : G_viewportlaw23HeapSorts g1 () :=
  runF2 hm (L := lT [(20, ⟨⟨[0, 1, 5, 6], [(0, 0, false)], 2, 0⟩, (X_viewportlaw23HeapSorts_1 g1 ((c4_0a :: c4_0t), c4_1, c4_2)).1, (X_viewportlaw23HeapSorts_1 g1 ((c4_0a :: c4_0t), c4_1, c4_2)).2⟩), (34, ⟨⟨[0, 1, 5, 7, 8], [(0, 0, false), (1, 1, true)], 3, 0⟩, (X_viewportlaw23HeapSorts_2 c5_ c4_2 (([] : List (Int × Int × Int)), c6_1, ([] : List (Int × Int)))).1, (X_viewportlaw23HeapSorts_2 c5_ c4_2 (([] : List (Int × Int × Int)), c6_1, ([] : List (Int × Int)))).2⟩), (39, ⟨⟨[0, 1, 5, 7, 11], [(0, 0, false)], 3, 0⟩, (X_viewportlaw23HeapSorts_3 c5_ (([] : List (Int × Int × Int)), c7_1, c7_2)).1, (X_viewportlaw23HeapSorts_3 c5_ (([] : List (Int × Int × Int)), c7_1, c7_2)).2⟩), (51, ⟨⟨[0, 1, 5, 12, 13, 14], [(0, 0, false), (2, 2, true), (3, 3, false)], 4, 0⟩, (X_viewportlaw23HeapSorts_4 c5_ c7_2 (([] : List (Int × Int × Int)), c8_1)).1, (X_viewportlaw23HeapSorts_4 c5_ c7_2 (([] : List (Int × Int × Int)), c8_1)).2⟩)]) ⟨[4], [], 0, 0⟩ (yy 4 (.call ⟨0, [], (Value.bool true), Ax.h0, []⟩) <|
ww (m_viewportlaw23lives_ok n  () hc1) <|
zz 11 (xdF hc2) <|
yy 14 (.call (C_heapNewviewportref23Itemq1  () [] [(0, 0, false)])) <|
ww (m_heapNewviewportref23Itemq1_ok n  () hc3) <|
ww (p := U_viewportlaw23HeapSorts_1 none g1 (([] : List (Int × Int × Int)), 0, 0, 0) ((c4_0a :: c4_0t), c4_1, c4_2)) (m_viewportlaw23HeapSorts_1_ok n g1 (([] : List (Int × Int × Int)), 0, 0, 0) ((c4_0a :: c4_0t), c4_1, c4_2) hc4) <|
yy 26 (.call (C_viewportkitPickq1 g1 (w64 ((((Args.A).length : Nat) : Int) + (1 : Int))) c5_ [] [])) <|
ww (m_viewportkitPickq1_ok n g1 (w64 ((((Args.A).length : Nat) : Int) + (1 : Int))) c5_ hc5) <|
ww (p := U_viewportlaw23HeapSorts_2 none c5_ c4_2 ((c4_0a :: c4_0t), c4_1, ([] : List (Int × Int)), 0) (([] : List (Int × Int × Int)), c6_1, ([] : List (Int × Int)))) (m_viewportlaw23HeapSorts_2_ok n c5_ c4_2 ((c4_0a :: c4_0t), c4_1, ([] : List (Int × Int)), 0) (([] : List (Int × Int × Int)), c6_1, ([] : List (Int × Int))) hc6) <|
ww (rows_flat rwf_iii (c4_0a :: c4_0t) 44) <|
ww (p := U_viewportlaw23HeapSorts_3 none c5_ (([] : List (Int × Int × Int)), 0, c4_2, ([] : List (Int × Int)), 0) (([] : List (Int × Int × Int)), c7_1, c7_2)) (m_viewportlaw23HeapSorts_3_ok n c5_ (([] : List (Int × Int × Int)), 0, c4_2, ([] : List (Int × Int)), 0) (([] : List (Int × Int × Int)), c7_1, c7_2) hc7) <|
ww (p := U_viewportlaw23HeapSorts_4 none c5_ c7_2 (([] : List (Int × Int × Int)), 0, mNil, 0, 0, 0) (([] : List (Int × Int × Int)), c8_1)) (m_viewportlaw23HeapSorts_4_ok n c5_ c7_2 (([] : List (Int × Int × Int)), 0, mNil, 0, 0, 0) (([] : List (Int × Int × Int)), c8_1) hc8) <|
ww (mflat mvI (fun _ => rfl) (mNil : MapI Int) (mLen (mNil : MapI Int))) <|
yy 54 (.call (C_heapHeapviewportlaw23itemLenq1 c7_2 () [(0, 0, false)] [])) <|
ww (m_heapHeapviewportlaw23itemLenq1_ok n c7_2 () hc9) <|
ee) (by kernel_rfl)
set_option maxRecDepth 100000 in
theorem p_viewportlaw23HeapSorts_18 (n : Nat) (g1 : Int) (hc1 : m_viewportlaw23lives n = some ()) (hc2 : ¬ ((((Args.A).length : Nat) : Int) > (200 : Int))) (hc3 : m_heapNewviewportref23Itemq1 n = some ()) (c4_0a : Int × Int × Int) (c4_0t : List (Int × Int × Int)) (c4_1 : Nat) (c4_2 : Int) (hc4 : m_viewportlaw23HeapSorts_1 n g1 (([] : List (Int × Int × Int)), 0, 0, 0) = some ((c4_0a :: c4_0t), c4_1, c4_2)) (c5_ : Int) (hc5 : m_viewportkitPickq1 n g1 (w64 ((((Args.A).length : Nat) : Int) + (1 : Int))) = some c5_) (c6_1 : Nat) (hc6 : m_viewportlaw23HeapSorts_2 n c5_ c4_2 ((c4_0a :: c4_0t), c4_1, ([] : List (Int × Int)), 0) = some ([], c6_1, [])) (c7_1 : Nat) (c7_2 : Int) (hc7 : m_viewportlaw23HeapSorts_3 n c5_ (([] : List (Int × Int × Int)), 0, c4_2, ([] : List (Int × Int)), 0) = some ([], c7_1, c7_2)) (c8_0a : Int × Int × Int) (c8_0t : List (Int × Int × Int)) (c8_1 : Nat) (hc8 : m_viewportlaw23HeapSorts_4 n c5_ c7_2 (([] : List (Int × Int × Int)), 0, mNil, 0, 0, 0) = some ((c8_0a :: c8_0t), c8_1)) (hc9 : m_heapHeapviewportlaw23itemLenq2 n (c8_0a :: c8_0t) c8_1 c7_2 = some ()) (hc10 : ((c8_1 : Nat) : Int) = (0 : Int)) : G_viewportlaw23HeapSorts g1 () :=
  runF2 hm (L := lT [(20, ⟨⟨[0, 1, 5, 6], [(0, 0, false)], 2, 0⟩, (X_viewportlaw23HeapSorts_1 g1 ((c4_0a :: c4_0t), c4_1, c4_2)).1, (X_viewportlaw23HeapSorts_1 g1 ((c4_0a :: c4_0t), c4_1, c4_2)).2⟩), (34, ⟨⟨[0, 1, 5, 7, 8], [(0, 0, false), (1, 1, true)], 3, 0⟩, (X_viewportlaw23HeapSorts_2 c5_ c4_2 (([] : List (Int × Int × Int)), c6_1, ([] : List (Int × Int)))).1, (X_viewportlaw23HeapSorts_2 c5_ c4_2 (([] : List (Int × Int × Int)), c6_1, ([] : List (Int × Int)))).2⟩), (39, ⟨⟨[0, 1, 5, 7, 11], [(0, 0, false)], 3, 0⟩, (X_viewportlaw23HeapSorts_3 c5_ (([] : List (Int × Int × Int)), c7_1, c7_2)).1, (X_viewportlaw23HeapSorts_3 c5_ (([] : List (Int × Int × Int)), c7_1, c7_2)).2⟩), (51, ⟨⟨[0, 1, 5, 12, 13, 14], [(0, 0, false), (2, 2, true), (3, 3, false)], 4, 0⟩, (X_viewportlaw23HeapSorts_4 c5_ c7_2 ((c8_0a :: c8_0t), c8_1)).1, (X_viewportlaw23HeapSorts_4 c5_ c7_2 ((c8_0a :: c8_0t), c8_1)).2⟩)]) ⟨[4], [], 0, 0⟩ (yy 4 (.call ⟨0, [], (Value.bool true), Ax.h0, []⟩) <|
ww (m_viewportlaw23lives_ok n  () hc1) <|
zz 11 (xdF hc2) <|
yy 14 (.call (C_heapNewviewportref23Itemq1  () [] [(0, 0, false)])) <|
ww (m_heapNewviewportref23Itemq1_ok n  () hc3) <|
ww (p := U_viewportlaw23HeapSorts_1 none g1 (([] : List (Int × Int × Int)), 0, 0, 0) ((c4_0a :: c4_0t), c4_1, c4_2)) (m_viewportlaw23HeapSorts_1_ok n g1 (([] : List (Int × Int × Int)), 0, 0, 0) ((c4_0a :: c4_0t), c4_1, c4_2) hc4) <|
yy 26 (.call (C_viewportkitPickq1 g1 (w64 ((((Args.A).length : Nat) : Int) + (1 : Int))) c5_ [] [])) <|
ww (m_viewportkitPickq1_ok n g1 (w64 ((((Args.A).length : Nat) : Int) + (1 : Int))) c5_ hc5) <|
ww (p := U_viewportlaw23HeapSorts_2 none c5_ c4_2 ((c4_0a :: c4_0t), c4_1, ([] : List (Int × Int)), 0) (([] : List (Int × Int × Int)), c6_1, ([] : List (Int × Int)))) (m_viewportlaw23HeapSorts_2_ok n c5_ c4_2 ((c4_0a :: c4_0t), c4_1, ([] : List (Int × Int)), 0) (([] : List (Int × Int × Int)), c6_1, ([] : List (Int × Int))) hc6) <|
ww (rows_flat rwf_iii (c4_0a :: c4_0t) 44) <|
ww (p := U_viewportlaw23HeapSorts_3 none c5_ (([] : List (Int × Int × Int)), 0, c4_2, ([] : List (Int × Int)), 0) (([] : List (Int × Int × Int)), c7_1, c7_2)) (m_viewportlaw23HeapSorts_3_ok n c5_ (([] : List (Int × Int × Int)), 0, c4_2, ([] : List (Int × Int)), 0) (([] : List (Int × Int × Int)), c7_1, c7_2) hc7) <|
ww (p := U_viewportlaw23HeapSorts_4 none c5_ c7_2 (([] : List (Int × Int × Int)), 0, mNil, 0, 0, 0) ((c8_0a :: c8_0t), c8_1)) (m_viewportlaw23HeapSorts_4_ok n c5_ c7_2 (([] : List (Int × Int × Int)), 0, mNil, 0, 0, 0) ((c8_0a :: c8_0t), c8_1) hc8) <|
ww (mflat mvI (fun _ => rfl) (mNil : MapI Int) (mLen (mNil : MapI Int))) <|
yy 54 (.call (C_heapHeapviewportlaw23itemLenq2 (c8_0a :: c8_0t) c8_1 c7_2 () [(0, 0, false), (1, 1, true)] [])) <|
ww (m_heapHeapviewportlaw23itemLenq2_ok n (c8_0a :: c8_0t) c8_1 c7_2 () hc9) <|
ww (rows_flat rwf_iii (c8_0a :: c8_0t) 44) <|
zz 55 (xeT hc10) <|
ee) (by kernel_rfl)
set_option maxRecDepth 100000 in
theorem p_viewportlaw23HeapSorts_19 (n : Nat) (g1 : Int) (hc1 : m_viewportlaw23lives n = some ()) (hc2 : ¬ ((((Args.A).length : Nat) : Int) > (200 : Int))) (hc3 : m_heapNewviewportref23Itemq1 n = some ()) (c4_0a : Int × Int × Int) (c4_0t : List (Int × Int × Int)) (c4_1 : Nat) (c4_2 : Int) (hc4 : m_viewportlaw23HeapSorts_1 n g1 (([] : List (Int × Int × Int)), 0, 0, 0) = some ((c4_0a :: c4_0t), c4_1, c4_2)) (c5_ : Int) (hc5 : m_viewportkitPickq1 n g1 (w64 ((((Args.A).length : Nat) : Int) + (1 : Int))) = some c5_) (c6_1 : Nat) (hc6 : m_viewportlaw23HeapSorts_2 n c5_ c4_2 ((c4_0a :: c4_0t), c4_1, ([] : List (Int × Int)), 0) = some ([], c6_1, [])) (c7_0a : Int × Int × Int) (c7_0t : List (Int × Int × Int)) (c7_1 : Nat) (c7_2 : Int) (hc7 : m_viewportlaw23HeapSorts_3 n c5_ (([] : List (Int × Int × Int)), 0, c4_2, ([] : List (Int × Int)), 0) = some ((c7_0a :: c7_0t), c7_1, c7_2)) (c8_1 : Nat) (hc8 : m_viewportlaw23HeapSorts_4 n c5_ c7_2 ((c7_0a :: c7_0t), c7_1, mNil, 0, 0, 0) = some ([], c8_1)) (hc9 : m_heapHeapviewportlaw23itemLenq1 n c7_2 = some ()) : G_viewportlaw23HeapSorts g1 () :=
  runF2 hm (L := lT [(20, ⟨⟨[0, 1, 5, 6], [(0, 0, false)], 2, 0⟩, (X_viewportlaw23HeapSorts_1 g1 ((c4_0a :: c4_0t), c4_1, c4_2)).1, (X_viewportlaw23HeapSorts_1 g1 ((c4_0a :: c4_0t), c4_1, c4_2)).2⟩), (34, ⟨⟨[0, 1, 5, 7, 8], [(0, 0, false), (1, 1, true)], 3, 0⟩, (X_viewportlaw23HeapSorts_2 c5_ c4_2 (([] : List (Int × Int × Int)), c6_1, ([] : List (Int × Int)))).1, (X_viewportlaw23HeapSorts_2 c5_ c4_2 (([] : List (Int × Int × Int)), c6_1, ([] : List (Int × Int)))).2⟩), (39, ⟨⟨[0, 1, 5, 7, 11], [(0, 0, false)], 3, 0⟩, (X_viewportlaw23HeapSorts_3 c5_ ((c7_0a :: c7_0t), c7_1, c7_2)).1, (X_viewportlaw23HeapSorts_3 c5_ ((c7_0a :: c7_0t), c7_1, c7_2)).2⟩), (51, ⟨⟨[0, 1, 5, 12, 13, 14], [(0, 0, false), (1, 1, true), (2, 2, true), (3, 3, false)], 4, 0⟩, (X_viewportlaw23HeapSorts_4 c5_ c7_2 (([] : List (Int × Int × Int)), c8_1)).1, (X_viewportlaw23HeapSorts_4 c5_ c7_2 (([] : List (Int × Int × Int)), c8_1)).2⟩)]) ⟨[4], [], 0, 0⟩ (yy 4 (.call ⟨0, [], (Value.bool true), Ax.h0, []⟩) <|
ww (m_viewportlaw23lives_ok n  () hc1) <|
zz 11 (xdF hc2) <|
yy 14 (.call (C_heapNewviewportref23Itemq1  () [] [(0, 0, false)])) <|
ww (m_heapNewviewportref23Itemq1_ok n  () hc3) <|
ww (p := U_viewportlaw23HeapSorts_1 none g1 (([] : List (Int × Int × Int)), 0, 0, 0) ((c4_0a :: c4_0t), c4_1, c4_2)) (m_viewportlaw23HeapSorts_1_ok n g1 (([] : List (Int × Int × Int)), 0, 0, 0) ((c4_0a :: c4_0t), c4_1, c4_2) hc4) <|
yy 26 (.call (C_viewportkitPickq1 g1 (w64 ((((Args.A).length : Nat) : Int) + (1 : Int))) c5_ [] [])) <|
ww (m_viewportkitPickq1_ok n g1 (w64 ((((Args.A).length : Nat) : Int) + (1 : Int))) c5_ hc5) <|
ww (p := U_viewportlaw23HeapSorts_2 none c5_ c4_2 ((c4_0a :: c4_0t), c4_1, ([] : List (Int × Int)), 0) (([] : List (Int × Int × Int)), c6_1, ([] : List (Int × Int)))) (m_viewportlaw23HeapSorts_2_ok n c5_ c4_2 ((c4_0a :: c4_0t), c4_1, ([] : List (Int × Int)), 0) (([] : List (Int × Int × Int)), c6_1, ([] : List (Int × Int))) hc6) <|
ww (rows_flat rwf_iii (c4_0a :: c4_0t) 44) <|
ww (p := U_viewportlaw23HeapSorts_3 none c5_ (([] : List (Int × Int × Int)), 0, c4_2, ([] : List (Int × Int)), 0) ((c7_0a :: c7_0t), c7_1, c7_2)) (m_viewportlaw23HeapSorts_3_ok n c5_ (([] : List (Int × Int × Int)), 0, c4_2, ([] : List (Int × Int)), 0) ((c7_0a :: c7_0t), c7_1, c7_2) hc7) <|
ww (p := U_viewportlaw23HeapSorts_4 none c5_ c7_2 ((c7_0a :: c7_0t), c7_1, mNil, 0, 0, 0) (([] : List (Int × Int × Int)), c8_1)) (m_viewportlaw23HeapSorts_4_ok n c5_ c7_2 ((c7_0a :: c7_0t), c7_1, mNil, 0, 0, 0) (([] : List (Int × Int × Int)), c8_1) hc8) <|
ww (rows_flat rwf_iii (c7_0a :: c7_0t) 44) <|
ww (mflat mvI (fun _ => rfl) (mNil : MapI Int) (mLen (mNil : MapI Int))) <|
yy 54 (.call (C_heapHeapviewportlaw23itemLenq1 c7_2 () [(0, 0, false)] [])) <|
ww (m_heapHeapviewportlaw23itemLenq1_ok n c7_2 () hc9) <|
ee) (by kernel_rfl)
set_option maxRecDepth 100000 in
theorem p_viewportlaw23HeapSorts_20 (n : Nat) (g1 : Int) (hc1 : m_viewportlaw23lives n = some ()) (hc2 : ¬ ((((Args.A).length : Nat) : Int) > (200 : Int))) (hc3 : m_heapNewviewportref23Itemq1 n = some ()) (c4_0a : Int × Int × Int) (c4_0t : List (Int × Int × Int)) (c4_1 : Nat) (c4_2 : Int) (hc4 : m_viewportlaw23HeapSorts_1 n g1 (([] : List (Int × Int × Int)), 0, 0, 0) = some ((c4_0a :: c4_0t), c4_1, c4_2)) (c5_ : Int) (hc5 : m_viewportkitPickq1 n g1 (w64 ((((Args.A).length : Nat) : Int) + (1 : Int))) = some c5_) (c6_1 : Nat) (hc6 : m_viewportlaw23HeapSorts_2 n c5_ c4_2 ((c4_0a :: c4_0t), c4_1, ([] : List (Int × Int)), 0) = some ([], c6_1, [])) (c7_0a : Int × Int × Int) (c7_0t : List (Int × Int × Int)) (c7_1 : Nat) (c7_2 : Int) (hc7 : m_viewportlaw23HeapSorts_3 n c5_ (([] : List (Int × Int × Int)), 0, c4_2, ([] : List (Int × Int)), 0) = some ((c7_0a :: c7_0t), c7_1, c7_2)) (c8_0a : Int × Int × Int) (c8_0t : List (Int × Int × Int)) (c8_1 : Nat) (hc8 : m_viewportlaw23HeapSorts_4 n c5_ c7_2 ((c7_0a :: c7_0t), c7_1, mNil, 0, 0, 0) = some ((c8_0a :: c8_0t), c8_1)) (hc9 : m_heapHeapviewportlaw23itemLenq2 n (c8_0a :: c8_0t) c8_1 c7_2 = some ()) (hc10 : ((c8_1 : Nat) : Int) = (0 : Int)) : G_viewportlaw23HeapSorts g1 () :=
  runF2 hm (L := lT [(20, ⟨⟨[0, 1, 5, 6], [(0, 0, false)], 2, 0⟩, (X_viewportlaw23HeapSorts_1 g1 ((c4_0a :: c4_0t), c4_1, c4_2)).1, (X_viewportlaw23HeapSorts_1 g1 ((c4_0a :: c4_0t), c4_1, c4_2)).2⟩), (34, ⟨⟨[0, 1, 5, 7, 8], [(0, 0, false), (1, 1, true)], 3, 0⟩, (X_viewportlaw23HeapSorts_2 c5_ c4_2 (([] : List (Int × Int × Int)), c6_1, ([] : List (Int × Int)))).1, (X_viewportlaw23HeapSorts_2 c5_ c4_2 (([] : List (Int × Int × Int)), c6_1, ([] : List (Int × Int)))).2⟩), (39, ⟨⟨[0, 1, 5, 7, 11], [(0, 0, false)], 3, 0⟩, (X_viewportlaw23HeapSorts_3 c5_ ((c7_0a :: c7_0t), c7_1, c7_2)).1, (X_viewportlaw23HeapSorts_3 c5_ ((c7_0a :: c7_0t), c7_1, c7_2)).2⟩), (51, ⟨⟨[0, 1, 5, 12, 13, 14], [(0, 0, false), (1, 1, true), (2, 2, true), (3, 3, false)], 4, 0⟩, (X_viewportlaw23HeapSorts_4 c5_ c7_2 ((c8_0a :: c8_0t), c8_1)).1, (X_viewportlaw23HeapSorts_4 c5_ c7_2 ((c8_0a :: c8_0t), c8_1)).2⟩)]) ⟨[4], [], 0, 0⟩ (yy 4 (.call ⟨0, [], (Value.bool true), Ax.h0, []⟩) <|
ww (m_viewportlaw23lives_ok n  () hc1) <|
zz 11 (xdF hc2) <|
yy 14 (.call (C_heapNewviewportref23Itemq1  () [] [(0, 0, false)])) <|
ww (m_heapNewviewportref23Itemq1_ok n  () hc3) <|
ww (p := U_viewportlaw23HeapSorts_1 none g1 (([] : List (Int × Int × Int)), 0, 0, 0) ((c4_0a :: c4_0t), c4_1, c4_2)) (m_viewportlaw23HeapSorts_1_ok n g1 (([] : List (Int × Int × Int)), 0, 0, 0) ((c4_0a :: c4_0t), c4_1, c4_2) hc4) <|
yy 26 (.call (C_viewportkitPickq1 g1 (w64 ((((Args.A).length : Nat) : Int) + (1 : Int))) c5_ [] [])) <|
ww (m_viewportkitPickq1_ok n g1 (w64 ((((Args.A).length : Nat) : Int) + (1 : Int))) c5_ hc5) <|
ww (p := U_viewportlaw23HeapSorts_2 none c5_ c4_2 ((c4_0a :: c4_0t), c4_1, ([] : List (Int × Int)), 0) (([] : List (Int × Int × Int)), c6_1, ([] : List (Int × Int)))) (m_viewportlaw23HeapSorts_2_ok n c5_ c4_2 ((c4_0a :: c4_0t), c4_1, ([] : List (Int × Int)), 0) (([] : List (Int × Int × Int)), c6_1, ([] : List (Int × Int))) hc6) <|
ww (rows_flat rwf_iii (c4_0a :: c4_0t) 44) <|
ww (p := U_viewportlaw23HeapSorts_3 none c5_ (([] : List (Int × Int × Int)), 0, c4_2, ([] : List (Int × Int)), 0) ((c7_0a :: c7_0t), c7_1, c7_2)) (m_viewportlaw23HeapSorts_3_ok n c5_ (([] : List (Int × Int × Int)), 0, c4_2, ([] : List (Int × Int)), 0) ((c7_0a :: c7_0t), c7_1, c7_2) hc7) <|
ww (p := U_viewportlaw23HeapSorts_4 none c5_ c7_2 ((c7_0a :: c7_0t), c7_1, mNil, 0, 0, 0) ((c8_0a :: c8_0t), c8_1)) (m_viewportlaw23HeapSorts_4_ok n c5_ c7_2 ((c7_0a :: c7_0t), c7_1, mNil, 0, 0, 0) ((c8_0a :: c8_0t), c8_1) hc8) <|
ww (rows_flat rwf_iii (c7_0a :: c7_0t) 44) <|
ww (mflat mvI (fun _ => rfl) (mNil : MapI Int) (mLen (mNil : MapI Int))) <|
yy 54 (.call (C_heapHeapviewportlaw23itemLenq2 (c8_0a :: c8_0t) c8_1 c7_2 () [(0, 0, false), (1, 1, true)] [])) <|
ww (m_heapHeapviewportlaw23itemLenq2_ok n (c8_0a :: c8_0t) c8_1 c7_2 () hc9) <|
ww (rows_flat rwf_iii (c8_0a :: c8_0t) 44) <|
zz 55 (xeT hc10) <|
ee) (by kernel_rfl)
set_option maxRecDepth 100000 in
theorem p_viewportlaw23HeapSorts_21 (n : Nat) (g1 : Int) (hc1 : m_viewportlaw23lives n = some ()) (hc2 : ¬ ((((Args.A).length : Nat) : Int) > (200 : Int))) (hc3 : m_heapNewviewportref23Itemq1 n = some ()) (c4_0a : Int × Int × Int) (c4_0t : List (Int × Int × Int)) (c4_1 : Nat) (c4_2 : Int) (hc4 : m_viewportlaw23HeapSorts_1 n g1 (([] : List (Int × Int × Int)), 0, 0, 0) = some ((c4_0a :: c4_0t), c4_1, c4_2)) (c5_ : Int) (hc5 : m_viewportkitPickq1 n g1 (w64 ((((Args.A).length : Nat) : Int) + (1 : Int))) = some c5_) (c6_1 : Nat) (c6_2a : Int × Int) (c6_2t : List (Int × Int)) (hc6 : m_viewportlaw23HeapSorts_2 n c5_ c4_2 ((c4_0a :: c4_0t), c4_1, ([] : List (Int × Int)), 0) = some ([], c6_1, (c6_2a :: c6_2t))) (c7_1 : Nat) (c7_2 : Int) (hc7 : m_viewportlaw23HeapSorts_3 n c5_ (([] : List (Int × Int × Int)), 0, c4_2, (c6_2a :: c6_2t), 0) = some ([], c7_1, c7_2)) (c8_1 : Nat) (hc8 : m_viewportlaw23HeapSorts_4 n c5_ c7_2 (([] : List (Int × Int × Int)), 0, mNil, 0, 0, 0) = some ([], c8_1)) (hc9 : m_heapHeapviewportlaw23itemLenq1 n c7_2 = some ()) : G_viewportlaw23HeapSorts g1 () :=
  runF2 hm (L := lT [(20, ⟨⟨[0, 1, 5, 6], [(0, 0, false)], 2, 0⟩, (X_viewportlaw23HeapSorts_1 g1 ((c4_0a :: c4_0t), c4_1, c4_2)).1, (X_viewportlaw23HeapSorts_1 g1 ((c4_0a :: c4_0t), c4_1, c4_2)).2⟩), (34, ⟨⟨[0, 1, 5, 7, 8], [(0, 0, false), (1, 1, true)], 3, 0⟩, (X_viewportlaw23HeapSorts_2 c5_ c4_2 (([] : List (Int × Int × Int)), c6_1, (c6_2a :: c6_2t))).1, (X_viewportlaw23HeapSorts_2 c5_ c4_2 (([] : List (Int × Int × Int)), c6_1, (c6_2a :: c6_2t))).2⟩), (39, ⟨⟨[0, 1, 5, 7, 11], [(0, 0, false), (2, 2, true)], 3, 0⟩, (X_viewportlaw23HeapSorts_3 c5_ (([] : List (Int × Int × Int)), c7_1, c7_2)).1, (X_viewportlaw23HeapSorts_3 c5_ (([] : List (Int × Int × Int)), c7_1, c7_2)).2⟩), (51, ⟨⟨[0, 1, 5, 12, 13, 14], [(0, 0, false), (2, 2, true), (3, 3, false)], 4, 0⟩, (X_viewportlaw23HeapSorts_4 c5_ c7_2 (([] : List (Int × Int × Int)), c8_1)).1, (X_viewportlaw23HeapSorts_4 c5_ c7_2 (([] : List (Int × Int × Int)), c8_1)).2⟩)]) ⟨[4], [], 0, 0⟩ (yy 4 (.call ⟨0, [], (Value.bool true), Ax.h0, []⟩) <|
ww (m_viewportlaw23lives_ok n  () hc1) <|
zz 11 (xdF hc2) <|
yy 14 (.call (C_heapNewviewportref23Itemq1  () [] [(0, 0, false)])) <|
ww (m_heapNewviewportref23Itemq1_ok n  () hc3) <|
ww (p := U_viewportlaw23HeapSorts_1 none g1 (([] : List (Int × Int × Int)), 0, 0, 0) ((c4_0a :: c4_0t), c4_1, c4_2)) (m_viewportlaw23HeapSorts_1_ok n g1 (([] : List (Int × Int × Int)), 0, 0, 0) ((c4_0a :: c4_0t), c4_1, c4_2) hc4) <|
yy 26 (.call (C_viewportkitPickq1 g1 (w64 ((((Args.A).length : Nat) : Int) + (1 : Int))) c5_ [] [])) <|
ww (m_viewportkitPickq1_ok n g1 (w64 ((((Args.A).length : Nat) : Int) + (1 : Int))) c5_ hc5) <|
ww (p := U_viewportlaw23HeapSorts_2 none c5_ c4_2 ((c4_0a :: c4_0t), c4_1, ([] : List (Int × Int)), 0) (([] : List (Int × Int × Int)), c6_1, (c6_2a :: c6_2t))) (m_viewportlaw23HeapSorts_2_ok n c5_ c4_2 ((c4_0a :: c4_0t), c4_1, ([] : List (Int × Int)), 0) (([] : List (Int × Int × Int)), c6_1, (c6_2a :: c6_2t)) hc6) <|
ww (rows_flat rwf_iii (c4_0a :: c4_0t) 44) <|
ww (p := U_viewportlaw23HeapSorts_3 none c5_ (([] : List (Int × Int × Int)), 0, c4_2, (c6_2a :: c6_2t), 0) (([] : List (Int × Int × Int)), c7_1, c7_2)) (m_viewportlaw23HeapSorts_3_ok n c5_ (([] : List (Int × Int × Int)), 0, c4_2, (c6_2a :: c6_2t), 0) (([] : List (Int × Int × Int)), c7_1, c7_2) hc7) <|
ww (rows_flat rwf_ii (c6_2a :: c6_2t) 27) <|
ww (p := U_viewportlaw23HeapSorts_4 none c5_ c7_2 (([] : List (Int × Int × Int)), 0, mNil, 0, 0, 0) (([] : List (Int × Int × Int)), c8_1)) (m_viewportlaw23HeapSorts_4_ok n c5_ c7_2 (([] : List (Int × Int × Int)), 0, mNil, 0, 0, 0) (([] : List (Int × Int × Int)), c8_1) hc8) <|
ww (mflat mvI (fun _ => rfl) (mNil : MapI Int) (mLen (mNil : MapI Int))) <|
yy 54 (.call (C_heapHeapviewportlaw23itemLenq1 c7_2 () [(0, 0, false)] [])) <|
ww (m_heapHeapviewportlaw23itemLenq1_ok n c7_2 () hc9) <|
ee) (by kernel_rfl)
set_option maxRecDepth 100000 in
theorem p_viewportlaw23HeapSorts_22 (n : Nat) (g1 : Int) (hc1 : m_viewportlaw23lives n = some ()) (hc2 : ¬ ((((Args.A).length : Nat) : Int) > (200 : Int))) (hc3 : m_heapNewviewportref23Itemq1 n = some ()) (c4_0a : Int × Int × Int) (c4_0t : List (Int × Int × Int)) (c4_1 : Nat) (c4_2 : Int) (hc4 : m_viewportlaw23HeapSorts_1 n g1 (([] : List (Int × Int × Int)), 0, 0, 0) = some ((c4_0a :: c4_0t), c4_1, c4_2)) (c5_ : Int) (hc5 : m_viewportkitPickq1 n g1 (w64 ((((Args.A).length : Nat) : Int) + (1 : Int))) = some c5_) (c6_1 : Nat) (c6_2a : Int × Int) (c6_2t : List (Int × Int)) (hc6 : m_viewportlaw23HeapSorts_2 n c5_ c4_2 ((c4_0a :: c4_0t), c4_1, ([] : List (Int × Int)), 0) = some ([], c6_1, (c6_2a :: c6_2t))) (c7_1 : Nat) (c7_2 : Int) (hc7 : m_viewportlaw23HeapSorts_3 n c5_ (([] : List (Int × Int × Int)), 0, c4_2, (c6_2a :: c6_2t), 0) = some ([], c7_1, c7_2)) (c8_0a : Int × Int × Int) (c8_0t : List (Int × Int × Int)) (c8_1 : Nat) (hc8 : m_viewportlaw23HeapSorts_4 n c5_ c7_2 (([] : List (Int × Int × Int)), 0, mNil, 0, 0, 0) = some ((c8_0a :: c8_0t), c8_1)) (hc9 : m_heapHeapviewportlaw23itemLenq2 n (c8_0a :: c8_0t) c8_1 c7_2 = some ()) (hc10 : ((c8_1 : Nat) : Int) = (0 : Int)) : G_viewportlaw23HeapSorts g1 () :=
  runF2 hm (L := lT [(20, ⟨⟨[0, 1, 5, 6], [(0, 0, false)], 2, 0⟩, (X_viewportlaw23HeapSorts_1 g1 ((c4_0a :: c4_0t), c4_1, c4_2)).1, (X_viewportlaw23HeapSorts_1 g1 ((c4_0a :: c4_0t), c4_1, c4_2)).2⟩), (34, ⟨⟨[0, 1, 5, 7, 8], [(0, 0, false), (1, 1, true)], 3, 0⟩, (X_viewportlaw23HeapSorts_2 c5_ c4_2 (([] : List (Int × Int × Int)), c6_1, (c6_2a :: c6_2t))).1, (X_viewportlaw23HeapSorts_2 c5_ c4_2 (([] : List (Int × Int × Int)), c6_1, (c6_2a :: c6_2t))).2⟩), (39, ⟨⟨[0, 1, 5, 7, 11], [(0, 0, false), (2, 2, true)], 3, 0⟩, (X_viewportlaw23HeapSorts_3 c5_ (([] : List (Int × Int × Int)), c7_1, c7_2)).1, (X_viewportlaw23HeapSorts_3 c5_ (([] : List (Int × Int × Int)), c7_1, c7_2)).2⟩), (51, ⟨⟨[0, 1, 5, 12, 13, 14], [(0, 0, false), (2, 2, true), (3, 3, false)], 4, 0⟩, (X_viewportlaw23HeapSorts_4 c5_ c7_2 ((c8_0a :: c8_0t), c8_1)).1, (X_viewportlaw23HeapSorts_4 c5_ c7_2 ((c8_0a :: c8_0t), c8_1)).2⟩)]) ⟨[4], [], 0, 0⟩ (yy 4 (.call ⟨0, [], (Value.bool true), Ax.h0, []⟩) <|
ww (m_viewportlaw23lives_ok n  () hc1) <|
zz 11 (xdF hc2) <|
yy 14 (.call (C_heapNewviewportref23Itemq1  () [] [(0, 0, false)])) <|
ww (m_heapNewviewportref23Itemq1_ok n  () hc3) <|
ww (p := U_viewportlaw23HeapSorts_1 none g1 (([] : List (Int × Int × Int)), 0, 0, 0) ((c4_0a :: c4_0t), c4_1, c4_2)) (m_viewportlaw23HeapSorts_1_ok n g1 (([] : List (Int × Int × Int)), 0, 0, 0) ((c4_0a :: c4_0t), c4_1, c4_2) hc4) <|
yy 26 (.call (C_viewportkitPickq1 g1 (w64 ((((Args.A).length : Nat) : Int) + (1 : Int))) c5_ [] [])) <|
ww (m_viewportkitPickq1_ok n g1 (w64 ((((Args.A).length : Nat) : Int) + (1 : Int))) c5_ hc5) <|
ww (p := U_viewportlaw23HeapSorts_2 none c5_ c4_2 ((c4_0a :: c4_0t), c4_1, ([] : List (Int × Int)), 0) (([] : List (Int × Int × Int)), c6_1, (c6_2a :: c6_2t))) (m_viewportlaw23HeapSorts_2_ok n c5_ c4_2 ((c4_0a :: c4_0t), c4_1, ([] : List (Int × Int)), 0) (([] : List (Int × Int × Int)), c6_1, (c6_2a :: c6_2t)) hc6) <|
ww (rows_flat rwf_iii (c4_0a :: c4_0t) 44) <|
ww (p := U_viewportlaw23HeapSorts_3 none c5_ (([] : List (Int × Int × Int)), 0, c4_2, (c6_2a :: c6_2t), 0) (([] : List (Int × Int × Int)), c7_1, c7_2)) (m_viewportlaw23HeapSorts_3_ok n c5_ (([] : List (Int × Int × Int)), 0, c4_2, (c6_2a :: c6_2t), 0) (([] : List (Int × Int × Int)), c7_1, c7_2) hc7) <|
ww (rows_flat rwf_ii (c6_2a :: c6_2t) 27) <|
ww (p := U_viewportlaw23HeapSorts_4 none c5_ c7_2 (([] : List (Int × Int × Int)), 0, mNil, 0, 0, 0) ((c8_0a :: c8_0t), c8_1)) (m_viewportlaw23HeapSorts_4_ok n c5_ c7_2 (([] : List (Int × Int × Int)), 0, mNil, 0, 0, 0) ((c8_0a :: c8_0t), c8_1) hc8) <|
ww (mflat mvI (fun _ => rfl) (mNil : MapI Int) (mLen (mNil : MapI Int))) <|
yy 54 (.call (C_heapHeapviewportlaw23itemLenq2 (c8_0a :: c8_0t) c8_1 c7_2 () [(0, 0, false), (1, 1, true)] [])) <|
ww (m_heapHeapviewportlaw23itemLenq2_ok n (c8_0a :: c8_0t) c8_1 c7_2 () hc9) <|
ww (rows_flat rwf_iii (c8_0a :: c8_0t) 44) <|
zz 55 (xeT hc10) <|
ee) (by kernel_rfl)
set_option maxRecDepth 100000 in
theorem p_viewportlaw23HeapSorts_23 (n : Nat) (g1 : Int) (hc1 : m_viewportlaw23lives n = some ()) (hc2 : ¬ ((((Args.A).length : Nat) : Int) > (200 : Int))) (hc3 : m_heapNewviewportref23Itemq1 n = some ()) (c4_0a : Int × Int × Int) (c4_0t : List (Int × Int × Int)) (c4_1 : Nat) (c4_2 : Int) (hc4 : m_viewportlaw23HeapSorts_1 n g1 (([] : List (Int × Int × Int)), 0, 0, 0) = some ((c4_0a :: c4_0t), c4_1, c4_2)) (c5_ : Int) (hc5 : m_viewportkitPickq1 n g1 (w64 ((((Args.A).length : Nat) : Int) + (1 : Int))) = some c5_) (c6_1 : Nat) (c6_2a : Int × Int) (c6_2t : List (Int × Int)) (hc6 : m_viewportlaw23HeapSorts_2 n c5_ c4_2 ((c4_0a :: c4_0t), c4_1, ([] : List (Int × Int)), 0) = some ([], c6_1, (c6_2a :: c6_2t))) (c7_0a : Int × Int × Int) (c7_0t : List (Int × Int × Int)) (c7_1 : Nat) (c7_2 : Int) (hc7 : m_viewportlaw23HeapSorts_3 n c5_ (([] : List (Int × Int × Int)), 0, c4_2, (c6_2a :: c6_2t), 0) = some ((c7_0a :: c7_0t), c7_1, c7_2)) (c8_1 : Nat) (hc8 : m_viewportlaw23HeapSorts_4 n c5_ c7_2 ((c7_0a :: c7_0t), c7_1, mNil, 0, 0, 0) = some ([], c8_1)) (hc9 : m_heapHeapviewportlaw23itemLenq1 n c7_2 = some ()) : G_viewportlaw23HeapSorts g1 () :=
  runF2 hm (L := lT [(20, ⟨⟨[0, 1, 5, 6], [(0, 0, false)], 2, 0⟩, (X_viewportlaw23HeapSorts_1 g1 ((c4_0a :: c4_0t), c4_1, c4_2)).1, (X_viewportlaw23HeapSorts_1 g1 ((c4_0a :: c4_0t), c4_1, c4_2)).2⟩), (34, ⟨⟨[0, 1, 5, 7, 8], [(0, 0, false), (1, 1, true)], 3, 0⟩, (X_viewportlaw23HeapSorts_2 c5_ c4_2 (([] : List (Int × Int × Int)), c6_1, (c6_2a :: c6_2t))).1, (X_viewportlaw23HeapSorts_2 c5_ c4_2 (([] : List (Int × Int × Int)), c6_1, (c6_2a :: c6_2t))).2⟩), (39, ⟨⟨[0, 1, 5, 7, 11], [(0, 0, false), (2, 2, true)], 3, 0⟩, (X_viewportlaw23HeapSorts_3 c5_ ((c7_0a :: c7_0t), c7_1, c7_2)).1, (X_viewportlaw23HeapSorts_3 c5_ ((c7_0a :: c7_0t), c7_1, c7_2)).2⟩), (51, ⟨⟨[0, 1, 5, 12, 13, 14], [(0, 0, false), (1, 1, true), (2, 2, true), (3, 3, false)], 4, 0⟩, (X_viewportlaw23HeapSorts_4 c5_ c7_2 (([] : List (Int × Int × Int)), c8_1)).1, (X_viewportlaw23HeapSorts_4 c5_ c7_2 (([] : List (Int × Int × Int)), c8_1)).2⟩)]) ⟨[4], [], 0, 0⟩ (yy 4 (.call ⟨0, [], (Value.bool true), Ax.h0, []⟩) <|
ww (m_viewportlaw23lives_ok n  () hc1) <|
zz 11 (xdF hc2) <|
yy 14 (.call (C_heapNewviewportref23Itemq1  () [] [(0, 0, false)])) <|
ww (m_heapNewviewportref23Itemq1_ok n  () hc3) <|
ww (p := U_viewportlaw23HeapSorts_1 none g1 (([] : List (Int × Int × Int)), 0, 0, 0) ((c4_0a :: c4_0t), c4_1, c4_2)) (m_viewportlaw23HeapSorts_1_ok n g1 (([] : List (Int × Int × Int)), 0, 0, 0) ((c4_0a :: c4_0t), c4_1, c4_2) hc4) <|
yy 26 (.call (C_viewportkitPickq1 g1 (w64 ((((Args.A).length : Nat) : Int) + (1 : Int))) c5_ [] [])) <|
ww (m_viewportkitPickq1_ok n g1 (w64 ((((Args.A).length : Nat) : Int) + (1 : Int))) c5_ hc5) <|
ww (p := U_viewportlaw23HeapSorts_2 none c5_ c4_2 ((c4_0a :: c4_0t), c4_1, ([] : List (Int × Int)), 0) (([] : List (Int × Int × Int)), c6_1, (c6_2a :: c6_2t))) (m_viewportlaw23HeapSorts_2_ok n c5_ c4_2 ((c4_0a :: c4_0t), c4_1, ([] : List (Int × Int)), 0) (([] : List (Int × Int × Int)), c6_1, (c6_2a :: c6_2t)) hc6) <|
ww (rows_flat rwf_iii (c4_0a :: c4_0t) 44) <|
ww (p := U_viewportlaw23HeapSorts_3 none c5_ (([] : List (Int × Int × Int)), 0, c4_2, (c6_2a :: c6_2t), 0) ((c7_0a :: c7_0t), c7_1, c7_2)) (m_viewportlaw23HeapSorts_3_ok n c5_ (([] : List (Int × Int × Int)), 0, c4_2, (c6_2a :: c6_2t), 0) ((c7_0a :: c7_0t), c7_1, c7_2) hc7) <|
ww (rows_flat rwf_ii (c6_2a :: c6_2t) 27) <|
ww (p := U_viewportlaw23HeapSorts_4 none c5_ c7_2 ((c7_0a :: c7_0t), c7_1, mNil, 0, 0, 0) (([] : List (Int × Int × Int)), c8_1)) (m_viewportlaw23HeapSorts_4_ok n c5_ c7_2 ((c7_0a :: c7_0t), c7_1, mNil, 0, 0, 0) (([] : List (Int × Int × Int)), c8_1) hc8) <|
ww (rows_flat rwf_iii (c7_0a :: c7_0t) 44) <|
ww (mflat mvI (fun _ => rfl) (mNil : MapI Int) (mLen (mNil : MapI Int))) <|
yy 54 (.call (C_heapHeapviewportlaw23itemLenq1 c7_2 () [(0, 0, false)] [])) <|
ww (m_heapHeapviewportlaw23itemLenq1_ok n c7_2 () hc9) <|
ee) (by kernel_rfl)
set_option maxRecDepth 100000 in
theorem p_viewportlaw23HeapSorts_24 (n : Nat) (g1 : Int) (hc1 : m_viewportlaw23lives n = some ()) (hc2 : ¬ ((((Args.A).length : Nat) : Int) > (200 : Int))) (hc3 : m_heapNewviewportref23Itemq1 n = some ()) (c4_0a : Int × Int × Int) (c4_0t : List (Int × Int × Int)) (c4_1 : Nat) (c4_2 : Int) (hc4 : m_viewportlaw23HeapSorts_1 n g1 (([] : List (Int × Int × Int)), 0, 0, 0) = some ((c4_0a :: c4_0t), c4_1, c4_2)) (c5_ : Int) (hc5 : m_viewportkitPickq1 n g1 (w64 ((((Args.A).length : Nat) : Int) + (1 : Int))) = some c5_) (c6_1 : Nat) (c6_2a : Int × Int) (c6_2t : List (Int × Int)) (hc6 : m_viewportlaw23HeapSorts_2 n c5_ c4_2 ((c4_0a :: c4_0t), c4_1, ([] : List (Int × Int)), 0) = some ([], c6_1, (c6_2a :: c6_2t))) (c7_0a : Int × Int × Int) (c7_0t : List (Int × Int × Int)) (c7_1 : Nat) (c7_2 : Int) (hc7 : m_viewportlaw23HeapSorts_3 n c5_ (([] : List (Int × Int × Int)), 0, c4_2, (c6_2a :: c6_2t), 0) = some ((c7_0a :: c7_0t), c7_1, c7_2)) (c8_0a : Int × Int × Int) (c8_0t : List (Int × Int × Int)) (c8_1 : Nat) (hc8 : m_viewportlaw23HeapSorts_4 n c5_ c7_2 ((c7_0a :: c7_0t), c7_1, mNil, 0, 0, 0) = some ((c8_0a :: c8_0t), c8_1)) (hc9 : m_heapHeapviewportlaw23itemLenq2 n (c8_0a :: c8_0t) c8_1 c7_2 = some ()) (hc10 : ((c8_1 : Nat) : Int) = (0 : Int)) : G_viewportlaw23HeapSorts g1 () :=
  runF2 hm (L := lT [(20, ⟨⟨[0, 1, 5, 6], [(0, 0, false)], 2, 0⟩, (X_viewportlaw23HeapSorts_1 g1 ((c4_0a :: c4_0t), c4_1, c4_2)).1, (X_viewportlaw23HeapSorts_1 g1 ((c4_0a :: c4_0t), c4_1, c4_2)).2⟩), (34, ⟨⟨[0, 1, 5, 7, 8], [(0, 0, false), (1, 1, true)], 3, 0⟩, (X_viewportlaw23HeapSorts_2 c5_ c4_2 (([] : List (Int × Int × Int)), c6_1, (c6_2a :: c6_2t))).1, (X_viewportlaw23HeapSorts_2 c5_ c4_2 (([] : List (Int × Int × Int)), c6_1, (c6_2a :: c6_2t))).2⟩), (39, ⟨⟨[0, 1, 5, 7, 11], [(0, 0, false), (2, 2, true)], 3, 0⟩, (X_viewportlaw23HeapSorts_3 c5_ ((c7_0a :: c7_0t), c7_1, c7_2)).1, (X_viewportlaw23HeapSorts_3 c5_ ((c7_0a :: c7_0t), c7_1, c7_2)).2⟩), (51, ⟨⟨[0, 1, 5, 12, 13, 14], [(0, 0, false), (1, 1, true), (2, 2, true), (3, 3, false)], 4, 0⟩, (X_viewportlaw23HeapSorts_4 c5_ c7_2 ((c8_0a :: c8_0t), c8_1)).1, (X_viewportlaw23HeapSorts_4 c5_ c7_2 ((c8_0a :: c8_0t), c8_1)).2⟩)]) ⟨[4], [], 0, 0⟩ (yy 4 (.call ⟨0, [], (Value.bool true), Ax.h0, []⟩) <|
ww (m_viewportlaw23lives_ok n  () hc1) <|
zz 11 (xdF hc2) <|
yy 14 (.call (C_heapNewviewportref23Itemq1  () [] [(0, 0, false)])) <|
ww (m_heapNewviewportref23Itemq1_ok n  () hc3) <|
ww (p := U_viewportlaw23HeapSorts_1 none g1 (([] : List (Int × Int × Int)), 0, 0, 0) ((c4_0a :: c4_0t), c4_1, c4_2)) (m_viewportlaw23HeapSorts_1_ok n g1 (([] : List (Int × Int × Int)), 0, 0, 0) ((c4_0a :: c4_0t), c4_1, c4_2) hc4) <|
yy 26 (.call (C_viewportkitPickq1 g1 (w64 ((((Args.A).length : Nat) : Int) + (1 : Int))) c5_ [] [])) <|
ww (m_viewportkitPickq1_ok n g1 (w64 ((((Args.A).length : Nat) : Int) + (1 : Int))) c5_ hc5) <|
ww (p := U_viewportlaw23HeapSorts_2 none c5_ c4_2 ((c4_0a :: c4_0t), c4_1, ([] : List (Int × Int)), 0) (([] : List (Int × Int × Int)), c6_1, (c6_2a :: c6_2t))) (m_viewportlaw23HeapSorts_2_ok n c5_ c4_2 ((c4_0a :: c4_0t), c4_1, ([] : List (Int × Int)), 0) (([] : List (Int × Int × Int)), c6_1, (c6_2a :: c6_2t)) hc6) <|
ww (rows_flat rwf_iii (c4_0a :: c4_0t) 44) <|
ww (p := U_viewportlaw23HeapSorts_3 none c5_ (([] : List (Int × Int × Int)), 0, c4_2, (c6_2a :: c6_2t), 0) ((c7_0a :: c7_0t), c7_1, c7_2)) (m_viewportlaw23HeapSorts_3_ok n c5_ (([] : List (Int × Int × Int)), 0, c4_2, (c6_2a :: c6_2t), 0) ((c7_0a :: c7_0t), c7_1, c7_2) hc7) <|
ww (rows_flat rwf_ii (c6_2a :: c6_2t) 27) <|
ww (p := U_viewportlaw23HeapSorts_4 none c5_ c7_2 ((c7_0a :: c7_0t), c7_1, mNil, 0, 0, 0) ((c8_0a :: c8_0t), c8_1)) (m_viewportlaw23HeapSorts_4_ok n c5_ c7_2 ((c7_0a :: c7_0t), c7_1, mNil, 0, 0, 0) ((c8_0a :: c8_0t), c8_1) hc8) <|
ww (rows_flat rwf_iii (c7_0a :: c7_0t) 44) <|
ww (mflat mvI (fun _ => rfl) (mNil : MapI Int) (mLen (mNil : MapI Int))) <|
yy 54 (.call (C_heapHeapviewportlaw23itemLenq2 (c8_0a :: c8_0t) c8_1 c7_2 () [(0, 0, false), (1, 1, true)] [])) <|
ww (m_heapHeapviewportlaw23itemLenq2_ok n (c8_0a :: c8_0t) c8_1 c7_2 () hc9) <|
ww (rows_flat rwf_iii (c8_0a :: c8_0t) 44) <|
zz 55 (xeT hc10) <|
ee) (by kernel_rfl)
set_option maxRecDepth 100000 in
theorem p_viewportlaw23HeapSorts_25 (n : Nat) (g1 : Int) (hc1 : m_viewportlaw23lives n = some ()) (hc2 : ¬ ((((Args.A).length : Nat) : Int) > (200 : Int))) (hc3 : m_heapNewviewportref23Itemq1 n = some ()) (c4_0a : Int × Int × Int) (c4_0t : List (Int × Int × Int)) (c4_1 : Nat) (c4_2 : Int) (hc4 : m_viewportlaw23HeapSorts_1 n g1 (([] : List (Int × Int × Int)), 0, 0, 0) = some ((c4_0a :: c4_0t), c4_1, c4_2)) (c5_ : Int) (hc5 : m_viewportkitPickq1 n g1 (w64 ((((Args.A).length : Nat) : Int) + (1 : Int))) = some c5_) (c6_0a : Int × Int × Int) (c6_0t : List (Int × Int × Int)) (c6_1 : Nat) (hc6 : m_viewportlaw23HeapSorts_2 n c5_ c4_2 ((c4_0a :: c4_0t), c4_1, ([] : List (Int × Int)), 0) = some ((c6_0a :: c6_0t), c6_1, [])) (c7_1 : Nat) (c7_2 : Int) (hc7 : m_viewportlaw23HeapSorts_3 n c5_ ((c6_0a :: c6_0t), c6_1, c4_2, ([] : List (Int × Int)), 0) = some ([], c7_1, c7_2)) (c8_1 : Nat) (hc8 : m_viewportlaw23HeapSorts_4 n c5_ c7_2 (([] : List (Int × Int × Int)), 0, mNil, 0, 0, 0) = some ([], c8_1)) (hc9 : m_heapHeapviewportlaw23itemLenq1 n c7_2 = some ()) : G_viewportlaw23HeapSorts g1 () :=
  runF2 hm (L := lT [(20, ⟨⟨[0, 1, 5, 6], [(0, 0, false)], 2, 0⟩, (X_viewportlaw23HeapSorts_1 g1 ((c4_0a :: c4_0t), c4_1, c4_2)).1, (X_viewportlaw23HeapSorts_1 g1 ((c4_0a :: c4_0t), c4_1, c4_2)).2⟩), (34, ⟨⟨[0, 1, 5, 7, 8], [(0, 0, false), (1, 1, true)], 3, 0⟩, (X_viewportlaw23HeapSorts_2 c5_ c4_2 ((c6_0a :: c6_0t), c6_1, ([] : List (Int × Int)))).1, (X_viewportlaw23HeapSorts_2 c5_ c4_2 ((c6_0a :: c6_0t), c6_1, ([] : List (Int × Int)))).2⟩), (39, ⟨⟨[0, 1, 5, 7, 11], [(0, 0, false), (1, 1, true)], 3, 0⟩, (X_viewportlaw23HeapSorts_3 c5_ (([] : List (Int × Int × Int)), c7_1, c7_2)).1, (X_viewportlaw23HeapSorts_3 c5_ (([] : List (Int × Int × Int)), c7_1, c7_2)).2⟩), (51, ⟨⟨[0, 1, 5, 12, 13, 14], [(0, 0, false), (2, 2, true), (3, 3, false)], 4, 0⟩, (X_viewportlaw23HeapSorts_4 c5_ c7_2 (([] : List (Int × Int × Int)), c8_1)).1, (X_viewportlaw23HeapSorts_4 c5_ c7_2 (([] : List (Int × Int × Int)), c8_1)).2⟩)]) ⟨[4], [], 0, 0⟩ (yy 4 (.call ⟨0, [], (Value.bool true), Ax.h0, []⟩) <|
ww (m_viewportlaw23lives_ok n  () hc1) <|
zz 11 (xdF hc2) <|
yy 14 (.call (C_heapNewviewportref23Itemq1  () [] [(0, 0, false)])) <|
ww (m_heapNewviewportref23Itemq1_ok n  () hc3) <|
ww (p := U_viewportlaw23HeapSorts_1 none g1 (([] : List (Int × Int × Int)), 0, 0, 0) ((c4_0a :: c4_0t), c4_1, c4_2)) (m_viewportlaw23HeapSorts_1_ok n g1 (([] : List (Int × Int × Int)), 0, 0, 0) ((c4_0a :: c4_0t), c4_1, c4_2) hc4) <|
yy 26 (.call (C_viewportkitPickq1 g1 (w64 ((((Args.A).length : Nat) : Int) + (1 : Int))) c5_ [] [])) <|
ww (m_viewportkitPickq1_ok n g1 (w64 ((((Args.A).length : Nat) : Int) + (1 : Int))) c5_ hc5) <|
ww (p := U_viewportlaw23HeapSorts_2 none c5_ c4_2 ((c4_0a :: c4_0t), c4_1, ([] : List (Int × Int)), 0) ((c6_0a :: c6_0t), c6_1, ([] : List (Int × Int)))) (m_viewportlaw23HeapSorts_2_ok n c5_ c4_2 ((c4_0a :: c4_0t), c4_1, ([] : List (Int × Int)), 0) ((c6_0a :: c6_0t), c6_1, ([] : List (Int × Int))) hc6) <|
ww (rows_flat rwf_iii (c4_0a :: c4_0t) 44) <|
ww (p := U_viewportlaw23HeapSorts_3 none c5_ ((c6_0a :: c6_0t), c6_1, c4_2, ([] : List (Int × Int)), 0) (([] : List (Int × Int × Int)), c7_1, c7_2)) (m_viewportlaw23HeapSorts_3_ok n c5_ ((c6_0a :: c6_0t), c6_1, c4_2, ([] : List (Int × Int)), 0) (([] : List (Int × Int × Int)), c7_1, c7_2) hc7) <|
ww (rows_flat rwf_iii (c6_0a :: c6_0t) 44) <|
ww (p := U_viewportlaw23HeapSorts_4 none c5_ c7_2 (([] : List (Int × Int × Int)), 0, mNil, 0, 0, 0) (([] : List (Int × Int × Int)), c8_1)) (m_viewportlaw23HeapSorts_4_ok n c5_ c7_2 (([] : List (Int × Int × Int)), 0, mNil, 0, 0, 0) (([] : List (Int × Int × Int)), c8_1) hc8) <|
ww (mflat mvI (fun _ => rfl) (mNil : MapI Int) (mLen (mNil : MapI Int))) <|
yy 54 (.call (C_heapHeapviewportlaw23itemLenq1 c7_2 () [(0, 0, false)] [])) <|
ww (m_heapHeapviewportlaw23itemLenq1_ok n c7_2 () hc9) <|
ee) (by kernel_rfl)
set_option maxRecDepth 100000 in
theorem p_viewportlaw23HeapSorts_26 (n : Nat) (g1 : Int) (hc1 : m_viewportlaw23lives n = some ()) (hc2 : ¬ ((((Args.A).length : Nat) : Int) > (200 : Int))) (hc3 : m_heapNewviewportref23Itemq1 n = some ()) (c4_0a : Int × Int × Int) (c4_0t : List (Int × Int × Int)) (c4_1 : Nat) (c4_2 : Int) (hc4 : m_viewportlaw23HeapSorts_1 n g1 (([] : List (Int × Int × Int)), 0, 0, 0) = some ((c4_0a :: c4_0t), c4_1, c4_2)) (c5_ : Int) (hc5 : m_viewportkitPickq1 n g1 (w64 ((((Args.A).length : Nat) : Int) + (1 : Int))) = some c5_) (c6_0a : Int × Int × Int) (c6_0t : List (Int × Int × Int)) (c6_1 : Nat) (hc6 : m_viewportlaw23HeapSorts_2 n c5_ c4_2 ((c4_0a :: c4_0t), c4_1, ([] : List (Int × Int)), 0) = some ((c6_0a :: c6_0t), c6_1, [])) (c7_1 : Nat) (c7_2 : Int) (hc7 : m_viewportlaw23HeapSorts_3 n c5_ ((c6_0a :: c6_0t), c6_1, c4_2, ([] : List (Int × Int)), 0) = some ([], c7_1, c7_2)) (c8_0a : Int × Int × Int) (c8_0t : List (Int × Int × Int)) (c8_1 : Nat) (hc8 : m_viewportlaw23HeapSorts_4 n c5_ c7_2 (([] : List (Int × Int × Int)), 0, mNil, 0, 0, 0) = some ((c8_0a :: c8_0t), c8_1)) (hc9 : m_heapHeapviewportlaw23itemLenq2 n (c8_0a :: c8_0t) c8_1 c7_2 = some ()) (hc10 : ((c8_1 : Nat) : Int) = (0 : Int)) : G_viewportlaw23HeapSorts g1 () :=
  runF2 hm (L := lT [(20, ⟨⟨[0, 1, 5, 6], [(0, 0, false)], 2, 0⟩, (X_viewportlaw23HeapSorts_1 g1 ((c4_0a :: c4_0t), c4_1, c4_2)).1, (X_viewportlaw23HeapSorts_1 g1 ((c4_0a :: c4_0t), c4_1, c4_2)).2⟩), (34, ⟨⟨[0, 1, 5, 7, 8], [(0, 0, false), (1, 1, true)], 3, 0⟩, (X_viewportlaw23HeapSorts_2 c5_ c4_2 ((c6_0a :: c6_0t), c6_1, ([] : List (Int × Int)))).1, (X_viewportlaw23HeapSorts_2 c5_ c4_2 ((c6_0a :: c6_0t), c6_1, ([] : List (Int × Int)))).2⟩), (39, ⟨⟨[0, 1, 5, 7, 11], [(0, 0, false), (1, 1, true)], 3, 0⟩, (X_viewportlaw23HeapSorts_3 c5_ (([] : List (Int × Int × Int)), c7_1, c7_2)).1, (X_viewportlaw23HeapSorts_3 c5_ (([] : List (Int × Int × Int)), c7_1, c7_2)).2⟩), (51, ⟨⟨[0, 1, 5, 12, 13, 14], [(0, 0, false), (2, 2, true), (3, 3, false)], 4, 0⟩, (X_viewportlaw23HeapSorts_4 c5_ c7_2 ((c8_0a :: c8_0t), c8_1)).1, (X_viewportlaw23HeapSorts_4 c5_ c7_2 ((c8_0a :: c8_0t), c8_1)).2⟩)]) ⟨[4], [], 0, 0⟩ (yy 4 (.call ⟨0, [], (Value.bool true), Ax.h0, []⟩) <|
ww (m_viewportlaw23lives_ok n  () hc1) <|
zz 11 (xdF hc2) <|
yy 14 (.call (C_heapNewviewportref23Itemq1  () [] [(0, 0, false)])) <|
ww (m_heapNewviewportref23Itemq1_ok n  () hc3) <|
ww (p := U_viewportlaw23HeapSorts_1 none g1 (([] : List (Int × Int × Int)), 0, 0, 0) ((c4_0a :: c4_0t), c4_1, c4_2)) (m_viewportlaw23HeapSorts_1_ok n g1 (([] : List (Int × Int × Int)), 0, 0, 0) ((c4_0a :: c4_0t), c4_1, c4_2) hc4) <|
yy 26 (.call (C_viewportkitPickq1 g1 (w64 ((((Args.A).length : Nat) : Int) + (1 : Int))) c5_ [] [])) <|
ww (m_viewportkitPickq1_ok n g1 (w64 ((((Args.A).length : Nat) : Int) + (1 : Int))) c5_ hc5) <|
ww (p := U_viewportlaw23HeapSorts_2 none c5_ c4_2 ((c4_0a :: c4_0t), c4_1, ([] : List (Int × Int)), 0) ((c6_0a :: c6_0t), c6_1, ([] : List (Int × Int)))) (m_viewportlaw23HeapSorts_2_ok n c5_ c4_2 ((c4_0a :: c4_0t), c4_1, ([] : List (Int × Int)), 0) ((c6_0a :: c6_0t), c6_1, ([] : List (Int × Int))) hc6) <|
ww (rows_flat rwf_iii (c4_0a :: c4_0t) 44) <|
ww (p := U_viewportlaw23HeapSorts_3 none c5_ ((c6_0a :: c6_0t), c6_1, c4_2, ([] : List (Int × Int)), 0) (([] : List (Int × Int × Int)), c7_1, c7_2)) (m_viewportlaw23HeapSorts_3_ok n c5_ ((c6_0a :: c6_0t), c6_1, c4_2, ([] : List (Int × Int)), 0) (([] : List (Int × Int × Int)), c7_1, c7_2) hc7) <|
ww (rows_flat rwf_iii (c6_0a :: c6_0t) 44) <|
ww (p := U_viewportlaw23HeapSorts_4 none c5_ c7_2 (([] : List (Int × Int × Int)), 0, mNil, 0, 0, 0) ((c8_0a :: c8_0t), c8_1)) (m_viewportlaw23HeapSorts_4_ok n c5_ c7_2 (([] : List (Int × Int × Int)), 0, mNil, 0, 0, 0) ((c8_0a :: c8_0t), c8_1) hc8) <|
ww (mflat mvI (fun _ => rfl) (mNil : MapI Int) (mLen (mNil : MapI Int))) <|
yy 54 (.call (C_heapHeapviewportlaw23itemLenq2 (c8_0a :: c8_0t) c8_1 c7_2 () [(0, 0, false), (1, 1, true)] [])) <|
ww (m_heapHeapviewportlaw23itemLenq2_ok n (c8_0a :: c8_0t) c8_1 c7_2 () hc9) <|
ww (rows_flat rwf_iii (c8_0a :: c8_0t) 44) <|
zz 55 (xeT hc10) <|
ee) (by kernel_rfl)
set_option maxRecDepth 100000 in
theorem p_viewportlaw23HeapSorts_27 (n : Nat) (g1 : Int) (hc1 : m_viewportlaw23lives n = some ()) (hc2 : ¬ ((((Args.A).length : Nat) : Int) > (200 : Int))) (hc3 : m_heapNewviewportref23Itemq1 n = some ()) (c4_0a : Int × Int × Int) (c4_0t : List (Int × Int × Int)) (c4_1 : Nat) (c4_2 : Int) (hc4 : m_viewportlaw23HeapSorts_1 n g1 (([] : List (Int × Int × Int)), 0, 0, 0) = some ((c4_0a :: c4_0t), c4_1, c4_2)) (c5_ : Int) (hc5 : m_viewportkitPickq1 n g1 (w64 ((((Args.A).length : Nat) : Int) + (1 : Int))) = some c5_) (c6_0a : Int × Int × Int) (c6_0t : List (Int × Int × Int)) (c6_1 : Nat) (hc6 : m_viewportlaw23HeapSorts_2 n c5_ c4_2 ((c4_0a :: c4_0t), c4_1, ([] : List (Int × Int)), 0) = some ((c6_0a :: c6_0t), c6_1, [])) (c7_0a : Int × Int × Int) (c7_0t : List (Int × Int × Int)) (c7_1 : Nat) (c7_2 : Int) (hc7 : m_viewportlaw23HeapSorts_3 n c5_ ((c6_0a :: c6_0t), c6_1, c4_2, ([] : List (Int × Int)), 0) = some ((c7_0a :: c7_0t), c7_1, c7_2)) (c8_1 : Nat) (hc8 : m_viewportlaw23HeapSorts_4 n c5_ c7_2 ((c7_0a :: c7_0t), c7_1, mNil, 0, 0, 0) = some ([], c8_1)) (hc9 : m_heapHeapviewportlaw23itemLenq1 n c7_2 = some ()) : G_viewportlaw23HeapSorts g1 () :=
  runF2 hm (L := lT [(20, ⟨⟨[0, 1, 5, 6], [(0, 0, false)], 2, 0⟩, (X_viewportlaw23HeapSorts_1 g1 ((c4_0a :: c4_0t), c4_1, c4_2)).1, (X_viewportlaw23HeapSorts_1 g1 ((c4_0a :: c4_0t), c4_1, c4_2)).2⟩), (34, ⟨⟨[0, 1, 5, 7, 8], [(0, 0, false), (1, 1, true)], 3, 0⟩, (X_viewportlaw23HeapSorts_2 c5_ c4_2 ((c6_0a :: c6_0t), c6_1, ([] : List (Int × Int)))).1, (X_viewportlaw23HeapSorts_2 c5_ c4_2 ((c6_0a :: c6_0t), c6_1, ([] : List (Int × Int)))).2⟩), (39, ⟨⟨[0, 1, 5, 7, 11], [(0, 0, false), (1, 1, true)], 3, 0⟩, (X_viewportlaw23HeapSorts_3 c5_ ((c7_0a :: c7_0t), c7_1, c7_2)).1, (X_viewportlaw23HeapSorts_3 c5_ ((c7_0a :: c7_0t), c7_1, c7_2)).2⟩), (51, ⟨⟨[0, 1, 5, 12, 13, 14], [(0, 0, false), (1, 1, true), (2, 2, true), (3, 3, false)], 4, 0⟩, (X_viewportlaw23HeapSorts_4 c5_ c7_2 (([] : List (Int × Int × Int)), c8_1)).1, (X_viewportlaw23HeapSorts_4 c5_ c7_2 (([] : List (Int × Int × Int)), c8_1)).2⟩)]) ⟨[4], [], 0, 0⟩ (yy 4 (.call ⟨0, [], (Value.bool true), Ax.h0, []⟩) <|
ww (m_viewportlaw23lives_ok n  () hc1) <|
zz 11 (xdF hc2) <|
yy 14 (.call (C_heapNewviewportref23Itemq1  () [] [(0, 0, false)])) <|
ww (m_heapNewviewportref23Itemq1_ok n  () hc3) <|
ww (p := U_viewportlaw23HeapSorts_1 none g1 (([] : List (Int × Int × Int)), 0, 0, 0) ((c4_0a :: c4_0t), c4_1, c4_2)) (m_viewportlaw23HeapSorts_1_ok n g1 (([] : List (Int × Int × Int)), 0, 0, 0) ((c4_0a :: c4_0t), c4_1, c4_2) hc4) <|
yy 26 (.call (C_viewportkitPickq1 g1 (w64 ((((Args.A).length : Nat) : Int) + (1 : Int))) c5_ [] [])) <|
ww (m_viewportkitPickq1_ok n g1 (w64 ((((Args.A).length : Nat) : Int) + (1 : Int))) c5_ hc5) <|
ww (p := U_viewportlaw23HeapSorts_2 none c5_ c4_2 ((c4_0a :: c4_0t), c4_1, ([] : List (Int × Int)), 0) ((c6_0a :: c6_0t), c6_1, ([] : List (Int × Int)))) (m_viewportlaw23HeapSorts_2_ok n c5_ c4_2 ((c4_0a :: c4_0t), c4_1, ([] : List (Int × Int)), 0) ((c6_0a :: c6_0t), c6_1, ([] : List (Int × Int))) hc6) <|
ww (rows_flat rwf_iii (c4_0a :: c4_0t) 44) <|
ww (p := U_viewportlaw23HeapSorts_3 none c5_ ((c6_0a :: c6_0t), c6_1, c4_2, ([] : List (Int × Int)), 0) ((c7_0a :: c7_0t), c7_1, c7_2)) (m_viewportlaw23HeapSorts_3_ok n c5_ ((c6_0a :: c6_0t), c6_1, c4_2, ([] : List (Int × Int)), 0) ((c7_0a :: c7_0t), c7_1, c7_2) hc7) <|
ww (rows_flat rwf_iii (c6_0a :: c6_0t) 44) <|
ww (p := U_viewportlaw23HeapSorts_4 none c5_ c7_2 ((c7_0a :: c7_0t), c7_1, mNil, 0, 0, 0) (([] : List (Int × Int × Int)), c8_1)) (m_viewportlaw23HeapSorts_4_ok n c5_ c7_2 ((c7_0a :: c7_0t), c7_1, mNil, 0, 0, 0) (([] : List (Int × Int × Int)), c8_1) hc8) <|
ww (rows_flat rwf_iii (c7_0a :: c7_0t) 44) <|
ww (mflat mvI (fun _ => rfl) (mNil : MapI Int) (mLen (mNil : MapI Int))) <|
yy 54 (.call (C_heapHeapviewportlaw23itemLenq1 c7_2 () [(0, 0, false)] [])) <|
ww (m_heapHeapviewportlaw23itemLenq1_ok n c7_2 () hc9) <|
ee) (by kernel_rfl)
set_option maxRecDepth 100000 in
theorem p_viewportlaw23HeapSorts_28 (n : Nat) (g1 : Int) (hc1 : m_viewportlaw23lives n = some ()) (hc2 : ¬ ((((Args.A).length : Nat) : Int) > (200 : Int))) (hc3 : m_heapNewviewportref23Itemq1 n = some ()) (c4_0a : Int × Int × Int) (c4_0t : List (Int × Int × Int)) (c4_1 : Nat) (c4_2 : Int) (hc4 : m_viewportlaw23HeapSorts_1 n g1 (([] : List (Int × Int × Int)), 0, 0, 0) = some ((c4_0a :: c4_0t), c4_1, c4_2)) (c5_ : Int) (hc5 : m_viewportkitPickq1 n g1 (w64 ((((Args.A).length : Nat) : Int) + (1 : Int))) = some c5_) (c6_0a : Int × Int × Int) (c6_0t : List (Int × Int × Int)) (c6_1 : Nat) (hc6 : m_viewportlaw23HeapSorts_2 n c5_ c4_2 ((c4_0a :: c4_0t), c4_1, ([] : List (Int × Int)), 0) = some ((c6_0a :: c6_0t), c6_1, [])) (c7_0a : Int × Int × Int) (c7_0t : List (Int × Int × Int)) (c7_1 : Nat) (c7_2 : Int) (hc7 : m_viewportlaw23HeapSorts_3 n c5_ ((c6_0a :: c6_0t), c6_1, c4_2, ([] : List (Int × Int)), 0) = some ((c7_0a :: c7_0t), c7_1, c7_2)) (c8_0a : Int × Int × Int) (c8_0t : List (Int × Int × Int)) (c8_1 : Nat) (hc8 : m_viewportlaw23HeapSorts_4 n c5_ c7_2 ((c7_0a :: c7_0t), c7_1, mNil, 0, 0, 0) = some ((c8_0a :: c8_0t), c8_1)) (hc9 : m_heapHeapviewportlaw23itemLenq2 n (c8_0a :: c8_0t) c8_1 c7_2 = some ()) (hc10 : ((c8_1 : Nat) : Int) = (0 : Int)) : G_viewportlaw23HeapSorts g1 () :=
  runF2 hm (L := lT [(20, ⟨⟨[0, 1, 5, 6], [(0, 0, false)], 2, 0⟩, (X_viewportlaw23HeapSorts_1 g1 ((c4_0a :: c4_0t), c4_1, c4_2)).1, (X_viewportlaw23HeapSorts_1 g1 ((c4_0a :: c4_0t), c4_1, c4_2)).2⟩), (34, ⟨⟨[0, 1, 5, 7, 8], [(0, 0, false), (1, 1, true)], 3, 0⟩, (X_viewportlaw23HeapSorts_2 c5_ c4_2 ((c6_0a :: c6_0t), c6_1, ([] : List (Int × Int)))).1, (X_viewportlaw23HeapSorts_2 c5_ c4_2 ((c6_0a :: c6_0t), c6_1, ([] : List (Int × Int)))).2⟩), (39, ⟨⟨[0, 1, 5, 7, 11], [(0, 0, false), (1, 1, true)], 3, 0⟩, (X_viewportlaw23HeapSorts_3 c5_ ((c7_0a :: c7_0t), c7_1, c7_2)).1, (X_viewportlaw23HeapSorts_3 c5_ ((c7_0a :: c7_0t), c7_1, c7_2)).2⟩), (51, ⟨⟨[0, 1, 5, 12, 13, 14], [(0, 0, false), (1, 1, true), (2, 2, true), (3, 3, false)], 4, 0⟩, (X_viewportlaw23HeapSorts_4 c5_ c7_2 ((c8_0a :: c8_0t), c8_1)).1, (X_viewportlaw23HeapSorts_4 c5_ c7_2 ((c8_0a :: c8_0t), c8_1)).2⟩)]) ⟨[4], [], 0, 0⟩ (yy 4 (.call ⟨0, [], (Value.bool true), Ax.h0, []⟩) <|
ww (m_viewportlaw23lives_ok n  () hc1) <|
zz 11 (xdF hc2) <|
yy 14 (.call (C_heapNewviewportref23Itemq1  () [] [(0, 0, false)])) <|
ww (m_heapNewviewportref23Itemq1_ok n  () hc3) <|
ww (p := U_viewportlaw23HeapSorts_1 none g1 (([] : List (Int × Int × Int)), 0, 0, 0) ((c4_0a :: c4_0t), c4_1, c4_2)) (m_viewportlaw23HeapSorts_1_ok n g1 (([] : List (Int × Int × Int)), 0, 0, 0) ((c4_0a :: c4_0t), c4_1, c4_2) hc4) <|
yy 26 (.call (C_viewportkitPickq1 g1 (w64 ((((Args.A).length : Nat) : Int) + (1 : Int))) c5_ [] [])) <|
ww (m_viewportkitPickq1_ok n g1 (w64 ((((Args.A).length : Nat) : Int) + (1 : Int))) c5_ hc5) <|
ww (p := U_viewportlaw23HeapSorts_2 none c5_ c4_2 ((c4_0a :: c4_0t), c4_1, ([] : List (Int × Int)), 0) ((c6_0a :: c6_0t), c6_1, ([] : List (Int × Int)))) (m_viewportlaw23HeapSorts_2_ok n c5_ c4_2 ((c4_0a :: c4_0t), c4_1, ([] : List (Int × Int)), 0) ((c6_0a :: c6_0t), c6_1, ([] : List (Int × Int))) hc6) <|
ww (rows_flat rwf_iii (c4_0a :: c4_0t) 44) <|
ww (p := U_viewportlaw23HeapSorts_3 none c5_ ((c6_0a :: c6_0t), c6_1, c4_2, ([] : List (Int × Int)), 0) ((c7_0a :: c7_0t), c7_1, c7_2)) (m_viewportlaw23HeapSorts_3_ok n c5_ ((c6_0a :: c6_0t), c6_1, c4_2, ([] : List (Int × Int)), 0) ((c7_0a :: c7_0t), c7_1, c7_2) hc7) <|
ww (rows_flat rwf_iii (c6_0a :: c6_0t) 44) <|
ww (p := U_viewportlaw23HeapSorts_4 none c5_ c7_2 ((c7_0a :: c7_0t), c7_1, mNil, 0, 0, 0) ((c8_0a :: c8_0t), c8_1)) (m_viewportlaw23HeapSorts_4_ok n c5_ c7_2 ((c7_0a :: c7_0t), c7_1, mNil, 0, 0, 0) ((c8_0a :: c8_0t), c8_1) hc8) <|
ww (rows_flat rwf_iii (c7_0a :: c7_0t) 44) <|
ww (mflat mvI (fun _ => rfl) (mNil : MapI Int) (mLen (mNil : MapI Int))) <|
yy 54 (.call (C_heapHeapviewportlaw23itemLenq2 (c8_0a :: c8_0t) c8_1 c7_2 () [(0, 0, false), (1, 1, true)] [])) <|
ww (m_heapHeapviewportlaw23itemLenq2_ok n (c8_0a :: c8_0t) c8_1 c7_2 () hc9) <|
ww (rows_flat rwf_iii (c8_0a :: c8_0t) 44) <|
zz 55 (xeT hc10) <|
ee) (by kernel_rfl)
set_option maxRecDepth 100000 in
theorem p_viewportlaw23HeapSorts_29 (n : Nat) (g1 : Int) (hc1 : m_viewportlaw23lives n = some ()) (hc2 : ¬ ((((Args.A).length : Nat) : Int) > (200 : Int))) (hc3 : m_heapNewviewportref23Itemq1 n = some ()) (c4_0a : Int × Int × Int) (c4_0t : List (Int × Int × Int)) (c4_1 : Nat) (c4_2 : Int) (hc4 : m_viewportlaw23HeapSorts_1 n g1 (([] : List (Int × Int × Int)), 0, 0, 0) = some ((c4_0a :: c4_0t), c4_1, c4_2)) (c5_ : Int) (hc5 : m_viewportkitPickq1 n g1 (w64 ((((Args.A).length : Nat) : Int) + (1 : Int))) = some c5_) (c6_0a : Int × Int × Int) (c6_0t : List (Int × Int × Int)) (c6_1 : Nat) (c6_2a : Int × Int) (c6_2t : List (Int × Int)) (hc6 : m_viewportlaw23HeapSorts_2 n c5_ c4_2 ((c4_0a :: c4_0t), c4_1, ([] : List (Int × Int)), 0) = some ((c6_0a :: c6_0t), c6_1, (c6_2a :: c6_2t))) (c7_1 : Nat) (c7_2 : Int) (hc7 : m_viewportlaw23HeapSorts_3 n c5_ ((c6_0a :: c6_0t), c6_1, c4_2, (c6_2a :: c6_2t), 0) = some ([], c7_1, c7_2)) (c8_1 : Nat) (hc8 : m_viewportlaw23HeapSorts_4 n c5_ c7_2 (([] : List (Int × Int × Int)), 0, mNil, 0, 0, 0) = some ([], c8_1)) (hc9 : m_heapHeapviewportlaw23itemLenq1 n c7_2 = some ()) : G_viewportlaw23HeapSorts g1 () :=
  runF2 hm (L := lT [(20, ⟨⟨[0, 1, 5, 6], [(0, 0, false)], 2, 0⟩, (X_viewportlaw23HeapSorts_1 g1 ((c4_0a :: c4_0t), c4_1, c4_2)).1, (X_viewportlaw23HeapSorts_1 g1 ((c4_0a :: c4_0t), c4_1, c4_2)).2⟩), (34, ⟨⟨[0, 1, 5, 7, 8], [(0, 0, false), (1, 1, true)], 3, 0⟩, (X_viewportlaw23HeapSorts_2 c5_ c4_2 ((c6_0a :: c6_0t), c6_1, (c6_2a :: c6_2t))).1, (X_viewportlaw23HeapSorts_2 c5_ c4_2 ((c6_0a :: c6_0t), c6_1, (c6_2a :: c6_2t))).2⟩), (39, ⟨⟨[0, 1, 5, 7, 11], [(0, 0, false), (1, 1, true), (2, 2, true)], 3, 0⟩, (X_viewportlaw23HeapSorts_3 c5_ (([] : List (Int × Int × Int)), c7_1, c7_2)).1, (X_viewportlaw23HeapSorts_3 c5_ (([] : List (Int × Int × Int)), c7_1, c7_2)).2⟩), (51, ⟨⟨[0, 1, 5, 12, 13, 14], [(0, 0, false), (2, 2, true), (3, 3, false)], 4, 0⟩, (X_viewportlaw23HeapSorts_4 c5_ c7_2 (([] : List (Int × Int × Int)), c8_1)).1, (X_viewportlaw23HeapSorts_4 c5_ c7_2 (([] : List (Int × Int × Int)), c8_1)).2⟩)]) ⟨[4], [], 0, 0⟩ (yy 4 (.call ⟨0, [], (Value.bool true), Ax.h0, []⟩) <|
ww (m_viewportlaw23lives_ok n  () hc1) <|
zz 11 (xdF hc2) <|
yy 14 (.call (C_heapNewviewportref23Itemq1  () [] [(0, 0, false)])) <|
ww (m_heapNewviewportref23Itemq1_ok n  () hc3) <|
ww (p := U_viewportlaw23HeapSorts_1 none g1 (([] : List (Int × Int × Int)), 0, 0, 0) ((c4_0a :: c4_0t), c4_1, c4_2)) (m_viewportlaw23HeapSorts_1_ok n g1 (([] : List (Int × Int × Int)), 0, 0, 0) ((c4_0a :: c4_0t), c4_1, c4_2) hc4) <|
yy 26 (.call (C_viewportkitPickq1 g1 (w64 ((((Args.A).length : Nat) : Int) + (1 : Int))) c5_ [] [])) <|
ww (m_viewportkitPickq1_ok n g1 (w64 ((((Args.A).length : Nat) : Int) + (1 : Int))) c5_ hc5) <|
ww (p := U_viewportlaw23HeapSorts_2 none c5_ c4_2 ((c4_0a :: c4_0t), c4_1, ([] : List (Int × Int)), 0) ((c6_0a :: c6_0t), c6_1, (c6_2a :: c6_2t))) (m_viewportlaw23HeapSorts_2_ok n c5_ c4_2 ((c4_0a :: c4_0t), c4_1, ([] : List (Int × Int)), 0) ((c6_0a :: c6_0t), c6_1, (c6_2a :: c6_2t)) hc6) <|
ww (rows_flat rwf_iii (c4_0a :: c4_0t) 44) <|
ww (p := U_viewportlaw23HeapSorts_3 none c5_ ((c6_0a :: c6_0t), c6_1, c4_2, (c6_2a :: c6_2t), 0) (([] : List (Int × Int × Int)), c7_1, c7_2)) (m_viewportlaw23HeapSorts_3_ok n c5_ ((c6_0a :: c6_0t), c6_1, c4_2, (c6_2a :: c6_2t), 0) (([] : List (Int × Int × Int)), c7_1, c7_2) hc7) <|
ww (rows_flat rwf_iii (c6_0a :: c6_0t) 44) <|
ww (rows_flat rwf_ii (c6_2a :: c6_2t) 27) <|
ww (p := U_viewportlaw23HeapSorts_4 none c5_ c7_2 (([] : List (Int × Int × Int)), 0, mNil, 0, 0, 0) (([] : List (Int × Int × Int)), c8_1)) (m_viewportlaw23HeapSorts_4_ok n c5_ c7_2 (([] : List (Int × Int × Int)), 0, mNil, 0, 0, 0) (([] : List (Int × Int × Int)), c8_1) hc8) <|
ww (mflat mvI (fun _ => rfl) (mNil : MapI Int) (mLen (mNil : MapI Int))) <|
yy 54 (.call (C_heapHeapviewportlaw23itemLenq1 c7_2 () [(0, 0, false)] [])) <|
ww (m_heapHeapviewportlaw23itemLenq1_ok n c7_2 () hc9) <|
ee) (by kernel_rfl)
set_option maxRecDepth 100000 in
theorem p_viewportlaw23HeapSorts_30 (n : Nat) (g1 : Int) (hc1 : m_viewportlaw23lives n = some ()) (hc2 : ¬ ((((Args.A).length : Nat) : Int) > (200 : Int))) (hc3 : m_heapNewviewportref23Itemq1 n = some ()) (c4_0a : Int × Int × Int) (c4_0t : List (Int × Int × Int)) (c4_1 : Nat) (c4_2 : Int) (hc4 : m_viewportlaw23HeapSorts_1 n g1 (([] : List (Int × Int × Int)), 0, 0, 0) = some ((c4_0a :: c4_0t), c4_1, c4_2)) (c5_ : Int) (hc5 : m_viewportkitPickq1 n g1 (w64 ((((Args.A).length : Nat) : Int) + (1 : Int))) = some c5_) (c6_0a : Int × Int × Int) (c6_0t : List (Int × Int × Int)) (c6_1 : Nat) (c6_2a : Int × Int) (c6_2t : List (Int × Int)) (hc6 : m_viewportlaw23HeapSorts_2 n c5_ c4_2 ((c4_0a :: c4_0t), c4_1, ([] : List (Int × Int)), 0) = some ((c6_0a :: c6_0t), c6_1, (c6_2a :: c6_2t))) (c7_1 : Nat) (c7_2 : Int) (hc7 : m_viewportlaw23HeapSorts_3 n c5_ ((c6_0a :: c6_0t), c6_1, c4_2, (c6_2a :: c6_2t), 0) = some ([], c7_1, c7_2)) (c8_0a : Int × Int × Int) (c8_0t : List (Int × Int × Int)) (c8_1 : Nat) (hc8 : m_viewportlaw23HeapSorts_4 n c5_ c7_2 (([] : List (Int × Int × Int)), 0, mNil, 0, 0, 0) = some ((c8_0a :: c8_0t), c8_1)) (hc9 : m_heapHeapviewportlaw23itemLenq2 n (c8_0a :: c8_0t) c8_1 c7_2 = some ()) (hc10 : ((c8_1 : Nat) : Int) = (0 : Int)) : G_viewportlaw23HeapSorts g1 () :=
  runF2 hm (L := lT [(20, ⟨⟨[0, 1, 5, 6], [(0, 0, false)], 2, 0⟩, (X_viewportlaw23HeapSorts_1 g1 ((c4_0a :: c4_0t), c4_1, c4_2)).1, (X_viewportlaw23HeapSorts_1 g1 ((c4_0a :: c4_0t), c4_1, c4_2)).2⟩), (34, ⟨⟨[0, 1, 5, 7, 8], [(0, 0, false), (1, 1, true)], 3, 0⟩, (X_viewportlaw23HeapSorts_2 c5_ c4_2 ((c6_0a :: c6_0t), c6_1, (c6_2a :: c6_2t))).1, (X_viewportlaw23HeapSorts_2 c5_ c4_2 ((c6_0a :: c6_0t), c6_1, (c6_2a :: c6_2t))).2⟩), (39, ⟨⟨[0, 1, 5, 7, 11], [(0, 0, false), (1, 1, true), (2, 2, true)], 3, 0⟩, (X_viewportlaw23HeapSorts_3 c5_ (([] : List (Int × Int × Int)), c7_1, c7_2)).1, (X_viewportlaw23HeapSorts_3 c5_ (([] : List (Int × Int × Int)), c7_1, c7_2)).2⟩), (51, ⟨⟨[0, 1, 5, 12, 13, 14], [(0, 0, false), (2, 2, true), (3, 3, false)], 4, 0⟩, (X_viewportlaw23HeapSorts_4 c5_ c7_2 ((c8_0a :: c8_0t), c8_1)).1, (X_viewportlaw23HeapSorts_4 c5_ c7_2 ((c8_0a :: c8_0t), c8_1)).2⟩)]) ⟨[4], [], 0, 0⟩ (yy 4 (.call ⟨0, [], (Value.bool true), Ax.h0, []⟩) <|
ww (m_viewportlaw23lives_ok n  () hc1) <|
zz 11 (xdF hc2) <|
yy 14 (.call (C_heapNewviewportref23Itemq1  () [] [(0, 0, false)])) <|
ww (m_heapNewviewportref23Itemq1_ok n  () hc3) <|
ww (p := U_viewportlaw23HeapSorts_1 none g1 (([] : List (Int × Int × Int)), 0, 0, 0) ((c4_0a :: c4_0t), c4_1, c4_2)) (m_viewportlaw23HeapSorts_1_ok n g1 (([] : List (Int × Int × Int)), 0, 0, 0) ((c4_0a :: c4_0t), c4_1, c4_2) hc4) <|
yy 26 (.call (C_viewportkitPickq1 g1 (w64 ((((Args.A).length : Nat) : Int) + (1 : Int))) c5_ [] [])) <|
ww (m_viewportkitPickq1_ok n g1 (w64 ((((Args.A).length : Nat) : Int) + (1 : Int))) c5_ hc5) <|
ww (p := U_viewportlaw23HeapSorts_2 none c5_ c4_2 ((c4_0a :: c4_0t), c4_1, ([] : List (Int × Int)), 0) ((c6_0a :: c6_0t), c6_1, (c6_2a :: c6_2t))) (m_viewportlaw23HeapSorts_2_ok n c5_ c4_2 ((c4_0a :: c4_0t), c4_1, ([] : List (Int × Int)), 0) ((c6_0a :: c6_0t), c6_1, (c6_2a :: c6_2t)) hc6) <|
ww (rows_flat rwf_iii (c4_0a :: c4_0t) 44) <|
ww (p := U_viewportlaw23HeapSorts_3 none c5_ ((c6_0a :: c6_0t), c6_1, c4_2, (c6_2a :: c6_2t), 0) (([] : List (Int × Int × Int)), c7_1, c7_2)) (m_viewportlaw23HeapSorts_3_ok n c5_ ((c6_0a :: c6_0t), c6_1, c4_2, (c6_2a :: c6_2t), 0) (([] : List (Int × Int × Int)), c7_1, c7_2) hc7) <|
ww (rows_flat rwf_iii (c6_0a :: c6_0t) 44) <|
ww (rows_flat rwf_ii (c6_2a :: c6_2t) 27) <|
ww (p := U_viewportlaw23HeapSorts_4 none c5_ c7_2 (([] : List (Int × Int × Int)), 0, mNil, 0, 0, 0) ((c8_0a :: c8_0t), c8_1)) (m_viewportlaw23HeapSorts_4_ok n c5_ c7_2 (([] : List (Int × Int × Int)), 0, mNil, 0, 0, 0) ((c8_0a :: c8_0t), c8_1) hc8) <|
ww (mflat mvI (fun _ => rfl) (mNil : MapI Int) (mLen (mNil : MapI Int))) <|
yy 54 (.call (C_heapHeapviewportlaw23itemLenq2 (c8_0a :: c8_0t) c8_1 c7_2 () [(0, 0, false), (1, 1, true)] [])) <|
ww (m_heapHeapviewportlaw23itemLenq2_ok n (c8_0a :: c8_0t) c8_1 c7_2 () hc9) <|
ww (rows_flat rwf_iii (c8_0a :: c8_0t) 44) <|
zz 55 (xeT hc10) <|
ee) (by kernel_rfl)
set_option maxRecDepth 100000 in
theorem p_viewportlaw23HeapSorts_31 (n : Nat) (g1 : Int) (hc1 : m_viewportlaw23lives n = some ()) (hc2 : ¬ ((((Args.A).length : Nat) : Int) > (200 : Int))) (hc3 : m_heapNewviewportref23Itemq1 n = some ()) (c4_0a : Int × Int × Int) (c4_0t : List (Int × Int × Int)) (c4_1 : Nat) (c4_2 : Int) (hc4 : m_viewportlaw23HeapSorts_1 n g1 (([] : List (Int × Int × Int)), 0, 0, 0) = some ((c4_0a :: c4_0t), c4_1, c4_2)) (c5_ : Int) (hc5 : m_viewportkitPickq1 n g1 (w64 ((((Args.A).length : Nat) : Int) + (1 : Int))) = some c5_) (c6_0a : Int × Int × Int) (c6_0t : List (Int × Int × Int)) (c6_1 : Nat) (c6_2a : Int × Int) (c6_2t : List (Int × Int)) (hc6 : m_viewportlaw23HeapSorts_2 n c5_ c4_2 ((c4_0a :: c4_0t), c4_1, ([] : List (Int × Int)), 0) = some ((c6_0a :: c6_0t), c6_1, (c6_2a :: c6_2t))) (c7_0a : Int × Int × Int) (c7_0t : List (Int × Int × Int)) (c7_1 : Nat) (c7_2 : Int) (hc7 : m_viewportlaw23HeapSorts_3 n c5_ ((c6_0a :: c6_0t), c6_1, c4_2, (c6_2a :: c6_2t), 0) = some ((c7_0a :: c7_0t), c7_1, c7_2)) (c8_1 : Nat) (hc8 : m_viewportlaw23HeapSorts_4 n c5_ c7_2 ((c7_0a :: c7_0t), c7_1, mNil, 0, 0, 0) = some ([], c8_1)) (hc9 : m_heapHeapviewportlaw23itemLenq1 n c7_2 = some ()) : G_viewportlaw23HeapSorts g1 () :=
  runF2 hm (L := lT [(20, ⟨⟨[0, 1, 5, 6], [(0, 0, false)], 2, 0⟩, (X_viewportlaw23HeapSorts_1 g1 ((c4_0a :: c4_0t), c4_1, c4_2)).1, (X_viewportlaw23HeapSorts_1 g1 ((c4_0a :: c4_0t), c4_1, c4_2)).2⟩), (34, ⟨⟨[0, 1, 5, 7, 8], [(0, 0, false), (1, 1, true)], 3, 0⟩, (X_viewportlaw23HeapSorts_2 c5_ c4_2 ((c6_0a :: c6_0t), c6_1, (c6_2a :: c6_2t))).1, (X_viewportlaw23HeapSorts_2 c5_ c4_2 ((c6_0a :: c6_0t), c6_1, (c6_2a :: c6_2t))).2⟩), (39, ⟨⟨[0, 1, 5, 7, 11], [(0, 0, false), (1, 1, true), (2, 2, true)], 3, 0⟩, (X_viewportlaw23HeapSorts_3 c5_ ((c7_0a :: c7_0t), c7_1, c7_2)).1, (X_viewportlaw23HeapSorts_3 c5_ ((c7_0a :: c7_0t), c7_1, c7_2)).2⟩), (51, ⟨⟨[0, 1, 5, 12, 13, 14], [(0, 0, false), (1, 1, true), (2, 2, true), (3, 3, false)], 4, 0⟩, (X_viewportlaw23HeapSorts_4 c5_ c7_2 (([] : List (Int × Int × Int)), c8_1)).1, (X_viewportlaw23HeapSorts_4 c5_ c7_2 (([] : List (Int × Int × Int)), c8_1)).2⟩)]) ⟨[4], [], 0, 0⟩ (yy 4 (.call ⟨0, [], (Value.bool true), Ax.h0, []⟩) <|
ww (m_viewportlaw23lives_ok n  () hc1) <|
zz 11 (xdF hc2) <|
yy 14 (.call (C_heapNewviewportref23Itemq1  () [] [(0, 0, false)])) <|
ww (m_heapNewviewportref23Itemq1_ok n  () hc3) <|
ww (p := U_viewportlaw23HeapSorts_1 none g1 (([] : List (Int × Int × Int)), 0, 0, 0) ((c4_0a :: c4_0t), c4_1, c4_2)) (m_viewportlaw23HeapSorts_1_ok n g1 (([] : List (Int × Int × Int)), 0, 0, 0) ((c4_0a :: c4_0t), c4_1, c4_2) hc4) <|
yy 26 (.call (C_viewportkitPickq1 g1 (w64 ((((Args.A).length : Nat) : Int) + (1 : Int))) c5_ [] [])) <|
ww (m_viewportkitPickq1_ok n g1 (w64 ((((Args.A).length : Nat) : Int) + (1 : Int))) c5_ hc5) <|
ww (p := U_viewportlaw23HeapSorts_2 none c5_ c4_2 ((c4_0a :: c4_0t), c4_1, ([] : List (Int × Int)), 0) ((c6_0a :: c6_0t), c6_1, (c6_2a :: c6_2t))) (m_viewportlaw23HeapSorts_2_ok n c5_ c4_2 ((c4_0a :: c4_0t), c4_1, ([] : List (Int × Int)), 0) ((c6_0a :: c6_0t), c6_1, (c6_2a :: c6_2t)) hc6) <|
ww (rows_flat rwf_iii (c4_0a :: c4_0t) 44) <|
ww (p := U_viewportlaw23HeapSorts_3 none c5_ ((c6_0a :: c6_0t), c6_1, c4_2, (c6_2a :: c6_2t), 0) ((c7_0a :: c7_0t), c7_1, c7_2)) (m_viewportlaw23HeapSorts_3_ok n c5_ ((c6_0a :: c6_0t), c6_1, c4_2, (c6_2a :: c6_2t), 0) ((c7_0a :: c7_0t), c7_1, c7_2) hc7) <|
ww (rows_flat rwf_iii (c6_0a :: c6_0t) 44) <|
ww (rows_flat rwf_ii (c6_2a :: c6_2t) 27) <|
ww (p := U_viewportlaw23HeapSorts_4 none c5_ c7_2 ((c7_0a :: c7_0t), c7_1, mNil, 0, 0, 0) (([] : List (Int × Int × Int)), c8_1)) (m_viewportlaw23HeapSorts_4_ok n c5_ c7_2 ((c7_0a :: c7_0t), c7_1, mNil, 0, 0, 0) (([] : List (Int × Int × Int)), c8_1) hc8) <|
ww (rows_flat rwf_iii (c7_0a :: c7_0t) 44) <|
ww (mflat mvI (fun _ => rfl) (mNil : MapI Int) (mLen (mNil : MapI Int))) <|
yy 54 (.call (C_heapHeapviewportlaw23itemLenq1 c7_2 () [(0, 0, false)] [])) <|
ww (m_heapHeapviewportlaw23itemLenq1_ok n c7_2 () hc9) <|
ee) (by kernel_rfl)
set_option maxRecDepth 100000 in
theorem p_viewportlaw23HeapSorts_32 (n : Nat) (g1 : Int) (hc1 : m_viewportlaw23lives n = some ()) (hc2 : ¬ ((((Args.A).length : Nat) : Int) > (200 : Int))) (hc3 : m_heapNewviewportref23Itemq1 n = some ()) (c4_0a : Int × Int × Int) (c4_0t : List (Int × Int × Int)) (c4_1 : Nat) (c4_2 : Int) (hc4 : m_viewportlaw23HeapSorts_1 n g1 (([] : List (Int × Int × Int)), 0, 0, 0) = some ((c4_0a :: c4_0t), c4_1, c4_2)) (c5_ : Int) (hc5 : m_viewportkitPickq1 n g1 (w64 ((((Args.A).length : Nat) : Int) + (1 : Int))) = some c5_) (c6_0a : Int × Int × Int) (c6_0t : List (Int × Int × Int)) (c6_1 : Nat) (c6_2a : Int × Int) (c6_2t : List (Int × Int)) (hc6 : m_viewportlaw23HeapSorts_2 n c5_ c4_2 ((c4_0a :: c4_0t), c4_1, ([] : List (Int × Int)), 0) = some ((c6_0a :: c6_0t), c6_1, (c6_2a :: c6_2t))) (c7_0a : Int × Int × Int) (c7_0t : List (Int × Int × Int)) (c7_1 : Nat) (c7_2 : Int) (hc7 : m_viewportlaw23HeapSorts_3 n c5_ ((c6_0a :: c6_0t), c6_1, c4_2, (c6_2a :: c6_2t), 0) = some ((c7_0a :: c7_0t), c7_1, c7_2)) (c8_0a : Int × Int × Int) (c8_0t : List (Int × Int × Int)) (c8_1 : Nat) (hc8 : m_viewportlaw23HeapSorts_4 n c5_ c7_2 ((c7_0a :: c7_0t), c7_1, mNil, 0, 0, 0) = some ((c8_0a :: c8_0t), c8_1)) (hc9 : m_heapHeapviewportlaw23itemLenq2 n (c8_0a :: c8_0t) c8_1 c7_2 = some ()) (hc10 : ((c8_1 : Nat) : Int) = (0 : Int)) : G_viewportlaw23HeapSorts g1 () :=
  runF2 hm (L := lT [(20, ⟨⟨[0, 1, 5, 6], [(0, 0, false)], 2, 0⟩, (X_viewportlaw23HeapSorts_1 g1 ((c4_0a :: c4_0t), c4_1, c4_2)).1, (X_viewportlaw23HeapSorts_1 g1 ((c4_0a :: c4_0t), c4_1, c4_2)).2⟩), (34, ⟨⟨[0, 1, 5, 7, 8], [(0, 0, false), (1, 1, true)], 3, 0⟩, (X_viewportlaw23HeapSorts_2 c5_ c4_2 ((c6_0a :: c6_0t), c6_1, (c6_2a :: c6_2t))).1, (X_viewportlaw23HeapSorts_2 c5_ c4_2 ((c6_0a :: c6_0t), c6_1, (c6_2a :: c6_2t))).2⟩), (39, ⟨⟨[0, 1, 5, 7, 11], [(0, 0, false), (1, 1, true), (2, 2, true)], 3, 0⟩, (X_viewportlaw23HeapSorts_3 c5_ ((c7_0a :: c7_0t), c7_1, c7_2)).1, (X_viewportlaw23HeapSorts_3 c5_ ((c7_0a :: c7_0t), c7_1, c7_2)).2⟩), (51, ⟨⟨[0, 1, 5, 12, 13, 14], [(0, 0, false), (1, 1, true), (2, 2, true), (3, 3, false)], 4, 0⟩, (X_viewportlaw23HeapSorts_4 c5_ c7_2 ((c8_0a :: c8_0t), c8_1)).1, (X_viewportlaw23HeapSorts_4 c5_ c7_2 ((c8_0a :: c8_0t), c8_1)).2⟩)]) ⟨[4], [], 0, 0⟩ (yy 4 (.call ⟨0, [], (Value.bool true), Ax.h0, []⟩) <|
ww (m_viewportlaw23lives_ok n  () hc1) <|
zz 11 (xdF hc2) <|
yy 14 (.call (C_heapNewviewportref23Itemq1  () [] [(0, 0, false)])) <|
ww (m_heapNewviewportref23Itemq1_ok n  () hc3) <|
ww (p := U_viewportlaw23HeapSorts_1 none g1 (([] : List (Int × Int × Int)), 0, 0, 0) ((c4_0a :: c4_0t), c4_1, c4_2)) (m_viewportlaw23HeapSorts_1_ok n g1 (([] : List (Int × Int × Int)), 0, 0, 0) ((c4_0a :: c4_0t), c4_1, c4_2) hc4) <|
yy 26 (.call (C_viewportkitPickq1 g1 (w64 ((((Args.A).length : Nat) : Int) + (1 : Int))) c5_ [] [])) <|
ww (m_viewportkitPickq1_ok n g1 (w64 ((((Args.A).length : Nat) : Int) + (1 : Int))) c5_ hc5) <|
ww (p := U_viewportlaw23HeapSorts_2 none c5_ c4_2 ((c4_0a :: c4_0t), c4_1, ([] : List (Int × Int)), 0) ((c6_0a :: c6_0t), c6_1, (c6_2a :: c6_2t))) (m_viewportlaw23HeapSorts_2_ok n c5_ c4_2 ((c4_0a :: c4_0t), c4_1, ([] : List (Int × Int)), 0) ((c6_0a :: c6_0t), c6_1, (c6_2a :: c6_2t)) hc6) <|
ww (rows_flat rwf_iii (c4_0a :: c4_0t) 44) <|
ww (p := U_viewportlaw23HeapSorts_3 none c5_ ((c6_0a :: c6_0t), c6_1, c4_2, (c6_2a :: c6_2t), 0) ((c7_0a :: c7_0t), c7_1, c7_2)) (m_viewportlaw23HeapSorts_3_ok n c5_ ((c6_0a :: c6_0t), c6_1, c4_2, (c6_2a :: c6_2t), 0) ((c7_0a :: c7_0t), c7_1, c7_2) hc7) <|
ww (rows_flat rwf_iii (c6_0a :: c6_0t) 44) <|
ww (rows_flat rwf_ii (c6_2a :: c6_2t) 27) <|
ww (p := U_viewportlaw23HeapSorts_4 none c5_ c7_2 ((c7_0a :: c7_0t), c7_1, mNil, 0, 0, 0) ((c8_0a :: c8_0t), c8_1)) (m_viewportlaw23HeapSorts_4_ok n c5_ c7_2 ((c7_0a :: c7_0t), c7_1, mNil, 0, 0, 0) ((c8_0a :: c8_0t), c8_1) hc8) <|
ww (rows_flat rwf_iii (c7_0a :: c7_0t) 44) <|
ww (mflat mvI (fun _ => rfl) (mNil : MapI Int) (mLen (mNil : MapI Int))) <|
yy 54 (.call (C_heapHeapviewportlaw23itemLenq2 (c8_0a :: c8_0t) c8_1 c7_2 () [(0, 0, false), (1, 1, true)] [])) <|
ww (m_heapHeapviewportlaw23itemLenq2_ok n (c8_0a :: c8_0t) c8_1 c7_2 () hc9) <|
ww (rows_flat rwf_iii (c8_0a :: c8_0t) 44) <|
zz 55 (xeT hc10) <|
ee) (by kernel_rfl)
theorem m_viewportlaw23HeapSorts_ok (n : Nat) (g1 : Int) (r : Unit) (h : m_viewportlaw23HeapSorts n g1 = some r) : Gv P (.func 3) (A_viewportlaw23HeapSorts g1) (H_viewportlaw23HeapSorts g1) (V_viewportlaw23HeapSorts g1 r) (R_viewportlaw23HeapSorts g1 r) := by
  unfold m_viewportlaw23HeapSorts at h
  obtain ⟨_, hc1, h⟩ := Option.bind_eq_some_iff.1 h
  by_cases hc2 : (((Args.A).length : Nat) : Int) > (200 : Int)
  · rw [if_pos hc2] at h
    obtain rfl := Option.some.inj h; exact p_viewportlaw23HeapSorts_0 n g1 hc1 hc2
  · rw [if_neg hc2] at h
    obtain ⟨_, hc3, h⟩ := Option.bind_eq_some_iff.1 h
    obtain ⟨⟨c4_0, c4_1, c4_2⟩, hc4, h⟩ := Option.bind_eq_some_iff.1 h
    dsimp only at h
    cases c4_0 with
    | nil =>
      dsimp only at h
      obtain ⟨c5_, hc5, h⟩ := Option.bind_eq_some_iff.1 h
      obtain ⟨⟨c6_0, c6_1, c6_2⟩, hc6, h⟩ := Option.bind_eq_some_iff.1 h
      dsimp only at h
      cases c6_0 with
      | nil =>
        dsimp only at h
        cases c6_2 with
        | nil =>
          dsimp only at h
          obtain ⟨⟨c7_0, c7_1, c7_2⟩, hc7, h⟩ := Option.bind_eq_some_iff.1 h
          dsimp only at h
          cases c7_0 with
          | nil =>
            dsimp only at h
            obtain ⟨⟨c8_0, c8_1⟩, hc8, h⟩ := Option.bind_eq_some_iff.1 h
            dsimp only at h
            cases c8_0 with
            | nil =>
              dsimp only at h
              obtain ⟨_, hc9, h⟩ := Option.bind_eq_some_iff.1 h
              obtain rfl := Option.some.inj h; exact p_viewportlaw23HeapSorts_1 n g1 hc1 hc2 hc3 c4_1 c4_2 hc4 c5_ hc5 c6_1 hc6 c7_1 c7_2 hc7 c8_1 hc8 hc9
            | cons c8_0a c8_0t =>
              dsimp only at h
              obtain ⟨_, hc9, h⟩ := Option.bind_eq_some_iff.1 h
              by_cases hc10 : ((c8_1 : Nat) : Int) = (0 : Int)
              · rw [if_pos hc10] at h
                obtain rfl := Option.some.inj h; exact p_viewportlaw23HeapSorts_2 n g1 hc1 hc2 hc3 c4_1 c4_2 hc4 c5_ hc5 c6_1 hc6 c7_1 c7_2 hc7 c8_0a c8_0t c8_1 hc8 hc9 hc10
              · rw [if_neg hc10] at h
                cases h
          | cons c7_0a c7_0t =>
            dsimp only at h
            obtain ⟨⟨c8_0, c8_1⟩, hc8, h⟩ := Option.bind_eq_some_iff.1 h
            dsimp only at h
            cases c8_0 with
            | nil =>
              dsimp only at h
              obtain ⟨_, hc9, h⟩ := Option.bind_eq_some_iff.1 h
              obtain rfl := Option.some.inj h; exact p_viewportlaw23HeapSorts_3 n g1 hc1 hc2 hc3 c4_1 c4_2 hc4 c5_ hc5 c6_1 hc6 c7_0a c7_0t c7_1 c7_2 hc7 c8_1 hc8 hc9
            | cons c8_0a c8_0t =>
              dsimp only at h
              obtain ⟨_, hc9, h⟩ := Option.bind_eq_some_iff.1 h
              by_cases hc10 : ((c8_1 : Nat) : Int) = (0 : Int)
              · rw [if_pos hc10] at h
                obtain rfl := Option.some.inj h; exact p_viewportlaw23HeapSorts_4 n g1 hc1 hc2 hc3 c4_1 c4_2 hc4 c5_ hc5 c6_1 hc6 c7_0a c7_0t c7_1 c7_2 hc7 c8_0a c8_0t c8_1 hc8 hc9 hc10
              · rw [if_neg hc10] at h
                cases h
        | cons c6_2a c6_2t =>
          dsimp only at h
          obtain ⟨⟨c7_0, c7_1, c7_2⟩, hc7, h⟩ := Option.bind_eq_some_iff.1 h
          dsimp only at h
          cases c7_0 with
          | nil =>
            dsimp only at h
            obtain ⟨⟨c8_0, c8_1⟩, hc8, h⟩ := Option.bind_eq_some_iff.1 h
            dsimp only at h
            cases c8_0 with
            | nil =>
              dsimp only at h
              obtain ⟨_, hc9, h⟩ := Option.bind_eq_some_iff.1 h
              obtain rfl := Option.some.inj h; exact p_viewportlaw23HeapSorts_5 n g1 hc1 hc2 hc3 c4_1 c4_2 hc4 c5_ hc5 c6_1 c6_2a c6_2t hc6 c7_1 c7_2 hc7 c8_1 hc8 hc9
            | cons c8_0a c8_0t =>
              dsimp only at h
              obtain ⟨_, hc9, h⟩ := Option.bind_eq_some_iff.1 h
              by_cases hc10 : ((c8_1 : Nat) : Int) = (0 : Int)
              · rw [if_pos hc10] at h
                obtain rfl := Option.some.inj h; exact p_viewportlaw23HeapSorts_6 n g1 hc1 hc2 hc3 c4_1 c4_2 hc4 c5_ hc5 c6_1 c6_2a c6_2t hc6 c7_1 c7_2 hc7 c8_0a c8_0t c8_1 hc8 hc9 hc10
              · rw [if_neg hc10] at h
                cases h
          | cons c7_0a c7_0t =>
            dsimp only at h
            obtain ⟨⟨c8_0, c8_1⟩, hc8, h⟩ := Option.bind_eq_some_iff.1 h
            dsimp only at h
            cases c8_0 with
            | nil =>
              dsimp only at h
              obtain ⟨_, hc9, h⟩ := Option.bind_eq_some_iff.1 h
              obtain rfl := Option.some.inj h; exact p_viewportlaw23HeapSorts_7 n g1 hc1 hc2 hc3 c4_1 c4_2 hc4 c5_ hc5 c6_1 c6_2a c6_2t hc6 c7_0a c7_0t c7_1 c7_2 hc7 c8_1 hc8 hc9
            | cons c8_0a c8_0t =>
              dsimp only at h
              obtain ⟨_, hc9, h⟩ := Option.bind_eq_some_iff.1 h
              by_cases hc10 : ((c8_1 : Nat) : Int) = (0 : Int)
              · rw [if_pos hc10] at h
                obtain rfl := Option.some.inj h; exact p_viewportlaw23HeapSorts_8 n g1 hc1 hc2 hc3 c4_1 c4_2 hc4 c5_ hc5 c6_1 c6_2a c6_2t hc6 c7_0a c7_0t c7_1 c7_2 hc7 c8_0a c8_0t c8_1 hc8 hc9 hc10
              · rw [if_neg hc10] at h
                cases h
      | cons c6_0a c6_0t =>
        dsimp only at h
        cases c6_2 with
        | nil =>
          dsimp only at h
          obtain ⟨⟨c7_0, c7_1, c7_2⟩, hc7, h⟩ := Option.bind_eq_some_iff.1 h
          dsimp only at h
          cases c7_0 with
          | nil =>
            dsimp only at h
            obtain ⟨⟨c8_0, c8_1⟩, hc8, h⟩ := Option.bind_eq_some_iff.1 h
            dsimp only at h
            cases c8_0 with
            | nil =>
              dsimp only at h
              obtain ⟨_, hc9, h⟩ := Option.bind_eq_some_iff.1 h
              obtain rfl := Option.some.inj h; exact p_viewportlaw23HeapSorts_9 n g1 hc1 hc2 hc3 c4_1 c4_2 hc4 c5_ hc5 c6_0a c6_0t c6_1 hc6 c7_1 c7_2 hc7 c8_1 hc8 hc9
            | cons c8_0a c8_0t =>
              dsimp only at h
              obtain ⟨_, hc9, h⟩ := Option.bind_eq_some_iff.1 h
              by_cases hc10 : ((c8_1 : Nat) : Int) = (0 : Int)
              · rw [if_pos hc10] at h
                obtain rfl := Option.some.inj h; exact p_viewportlaw23HeapSorts_10 n g1 hc1 hc2 hc3 c4_1 c4_2 hc4 c5_ hc5 c6_0a c6_0t c6_1 hc6 c7_1 c7_2 hc7 c8_0a c8_0t c8_1 hc8 hc9 hc10
              · rw [if_neg hc10] at h
                cases h
          | cons c7_0a c7_0t =>
            dsimp only at h
            obtain ⟨⟨c8_0, c8_1⟩, hc8, h⟩ := Option.bind_eq_some_iff.1 h
            dsimp only at h
            cases c8_0 with
            | nil =>
              dsimp only at h
              obtain ⟨_, hc9, h⟩ := Option.bind_eq_some_iff.1 h
              obtain rfl := Option.some.inj h; exact p_viewportlaw23HeapSorts_11 n g1 hc1 hc2 hc3 c4_1 c4_2 hc4 c5_ hc5 c6_0a c6_0t c6_1 hc6 c7_0a c7_0t c7_1 c7_2 hc7 c8_1 hc8 hc9
            | cons c8_0a c8_0t =>
              dsimp only at h
              obtain ⟨_, hc9, h⟩ := Option.bind_eq_some_iff.1 h
              by_cases hc10 : ((c8_1 : Nat) : Int) = (0 : Int)
              · rw [if_pos hc10] at h
                obtain rfl := Option.some.inj h; exact p_viewportlaw23HeapSorts_12 n g1 hc1 hc2 hc3 c4_1 c4_2 hc4 c5_ hc5 c6_0a c6_0t c6_1 hc6 c7_0a c7_0t c7_1 c7_2 hc7 c8_0a c8_0t c8_1 hc8 hc9 hc10
              · rw [if_neg hc10] at h
                cases h
        | cons c6_2a c6_2t =>
          dsimp only at h
          obtain ⟨⟨c7_0, c7_1, c7_2⟩, hc7, h⟩ := Option.bind_eq_some_iff.1 h
          dsimp only at h
          cases c7_0 with
          | nil =>
            dsimp only at h
            obtain ⟨⟨c8_0, c8_1⟩, hc8, h⟩ := Option.bind_eq_some_iff.1 h
            dsimp only at h
            cases c8_0 with
            | nil =>
              dsimp only at h
              obtain ⟨_, hc9, h⟩ := Option.bind_eq_some_iff.1 h
              obtain rfl := Option.some.inj h; exact p_viewportlaw23HeapSorts_13 n g1 hc1 hc2 hc3 c4_1 c4_2 hc4 c5_ hc5 c6_0a c6_0t c6_1 c6_2a c6_2t hc6 c7_1 c7_2 hc7 c8_1 hc8 hc9
            | cons c8_0a c8_0t =>
              dsimp only at h
              obtain ⟨_, hc9, h⟩ := Option.bind_eq_some_iff.1 h
              by_cases hc10 : ((c8_1 : Nat) : Int) = (0 : Int)
              · rw [if_pos hc10] at h
                obtain rfl := Option.some.inj h; exact p_viewportlaw23HeapSorts_14 n g1 hc1 hc2 hc3 c4_1 c4_2 hc4 c5_ hc5 c6_0a c6_0t c6_1 c6_2a c6_2t hc6 c7_1 c7_2 hc7 c8_0a c8_0t c8_1 hc8 hc9 hc10
              · rw [if_neg hc10] at h
                cases h
          | cons c7_0a c7_0t =>
            dsimp only at h
            obtain ⟨⟨c8_0, c8_1⟩, hc8, h⟩ := Option.bind_eq_some_iff.1 h
            dsimp only at h
            cases c8_0 with
            | nil =>
              dsimp only at h
              obtain ⟨_, hc9, h⟩ := Option.bind_eq_some_iff.1 h
              obtain rfl := Option.some.inj h; exact p_viewportlaw23HeapSorts_15 n g1 hc1 hc2 hc3 c4_1 c4_2 hc4 c5_ hc5 c6_0a c6_0t c6_1 c6_2a c6_2t hc6 c7_0a c7_0t c7_1 c7_2 hc7 c8_1 hc8 hc9
            | cons c8_0a c8_0t =>
              dsimp only at h
              obtain ⟨_, hc9, h⟩ := Option.bind_eq_some_iff.1 h
              by_cases hc10 : ((c8_1 : Nat) : Int) = (0 : Int)
              · rw [if_pos hc10] at h
                obtain rfl := Option.some.inj h; exact p_viewportlaw23HeapSorts_16 n g1 hc1 hc2 hc3 c4_1 c4_2 hc4 c5_ hc5 c6_0a c6_0t c6_1 c6_2a c6_2t hc6 c7_0a c7_0t c7_1 c7_2 hc7 c8_0a c8_0t c8_1 hc8 hc9 hc10
              · rw [if_neg hc10] at h
                cases h
    | cons c4_0a c4_0t =>
      dsimp only at h
      obtain ⟨c5_, hc5, h⟩ := Option.bind_eq_some_iff.1 h
      obtain ⟨⟨c6_0, c6_1, c6_2⟩, hc6, h⟩ := Option.bind_eq_some_iff.1 h
      dsimp only at h
      cases c6_0 with
      | nil =>
        dsimp only at h
        cases c6_2 with
        | nil =>
          dsimp only at h
          obtain ⟨⟨c7_0, c7_1, c7_2⟩, hc7, h⟩ := Option.bind_eq_some_iff.1 h
          dsimp only at h
          cases c7_0 with
          | nil =>
            dsimp only at h
            obtain ⟨⟨c8_0, c8_1⟩, hc8, h⟩ := Option.bind_eq_some_iff.1 h
            dsimp only at h
            cases c8_0 with
            | nil =>
              dsimp only at h
              obtain ⟨_, hc9, h⟩ := Option.bind_eq_some_iff.1 h
              obtain rfl := Option.some.inj h; exact p_viewportlaw23HeapSorts_17 n g1 hc1 hc2 hc3 c4_0a c4_0t c4_1 c4_2 hc4 c5_ hc5 c6_1 hc6 c7_1 c7_2 hc7 c8_1 hc8 hc9
            | cons c8_0a c8_0t =>
              dsimp only at h
              obtain ⟨_, hc9, h⟩ := Option.bind_eq_some_iff.1 h
              by_cases hc10 : ((c8_1 : Nat) : Int) = (0 : Int)
              · rw [if_pos hc10] at h
                obtain rfl := Option.some.inj h; exact p_viewportlaw23HeapSorts_18 n g1 hc1 hc2 hc3 c4_0a c4_0t c4_1 c4_2 hc4 c5_ hc5 c6_1 hc6 c7_1 c7_2 hc7 c8_0a c8_0t c8_1 hc8 hc9 hc10
              · rw [if_neg hc10] at h
                cases h
          | cons c7_0a c7_0t =>
            dsimp only at h
            obtain ⟨⟨c8_0, c8_1⟩, hc8, h⟩ := Option.bind_eq_some_iff.1 h
            dsimp only at h
            cases c8_0 with
            | nil =>
              dsimp only at h
              obtain ⟨_, hc9, h⟩ := Option.bind_eq_some_iff.1 h
              obtain rfl := Option.some.inj h; exact p_viewportlaw23HeapSorts_19 n g1 hc1 hc2 hc3 c4_0a c4_0t c4_1 c4_2 hc4 c5_ hc5 c6_1 hc6 c7_0a c7_0t c7_1 c7_2 hc7 c8_1 hc8 hc9
            | cons c8_0a c8_0t =>
              dsimp only at h
              obtain ⟨_, hc9, h⟩ := Option.bind_eq_some_iff.1 h
              by_cases hc10 : ((c8_1 : Nat) : Int) = (0 : Int)
              · rw [if_pos hc10] at h
                obtain rfl := Option.some.inj h; exact p_viewportlaw23HeapSorts_20 n g1 hc1 hc2 hc3 c4_0a c4_0t c4_1 c4_2 hc4 c5_ hc5 c6_1 hc6 c7_0a c7_0t c7_1 c7_2 hc7 c8_0a c8_0t c8_1 hc8 hc9 hc10
              · rw [if_neg hc10] at h
                cases h
        | cons c6_2a c6_2t =>
          dsimp only at h
          obtain ⟨⟨c7_0, c7_1, c7_2⟩, hc7, h⟩ := Option.bind_eq_some_iff.1 h
          dsimp only at h
          cases c7_0 with
          | nil =>
            dsimp only at h
            obtain ⟨⟨c8_0, c8_1⟩, hc8, h⟩ := Option.bind_eq_some_iff.1 h
            dsimp only at h
            cases c8_0 with
            | nil =>
              dsimp only at h
              obtain ⟨_, hc9, h⟩ := Option.bind_eq_some_iff.1 h
              obtain rfl := Option.some.inj h; exact p_viewportlaw23HeapSorts_21 n g1 hc1 hc2 hc3 c4_0a c4_0t c4_1 c4_2 hc4 c5_ hc5 c6_1 c6_2a c6_2t hc6 c7_1 c7_2 hc7 c8_1 hc8 hc9
            | cons c8_0a c8_0t =>
              dsimp only at h
              obtain ⟨_, hc9, h⟩ := Option.bind_eq_some_iff.1 h
              by_cases hc10 : ((c8_1 : Nat) : Int) = (0 : Int)
              · rw [if_pos hc10] at h
                obtain rfl := Option.some.inj h; exact p_viewportlaw23HeapSorts_22 n g1 hc1 hc2 hc3 c4_0a c4_0t c4_1 c4_2 hc4 c5_ hc5 c6_1 c6_2a c6_2t hc6 c7_1 c7_2 hc7 c8_0a c8_0t c8_1 hc8 hc9 hc10
              · rw [if_neg hc10] at h
                cases h
          | cons c7_0a c7_0t =>
            dsimp only at h
            obtain ⟨⟨c8_0, c8_1⟩, hc8, h⟩ := Option.bind_eq_some_iff.1 h
            dsimp only at h
            cases c8_0 with
            | nil =>
              dsimp only at h
              obtain ⟨_, hc9, h⟩ := Option.bind_eq_some_iff.1 h
              obtain rfl := Option.some.inj h; exact p_viewportlaw23HeapSorts_23 n g1 hc1 hc2 hc3 c4_0a c4_0t c4_1 c4_2 hc4 c5_ hc5 c6_1 c6_2a c6_2t hc6 c7_0a c7_0t c7_1 c7_2 hc7 c8_1 hc8 hc9
            | cons c8_0a c8_0t =>
              dsimp only at h
              obtain ⟨_, hc9, h⟩ := Option.bind_eq_some_iff.1 h
              by_cases hc10 : ((c8_1 : Nat) : Int) = (0 : Int)
              · rw [if_pos hc10] at h
                obtain rfl := Option.some.inj h; exact p_viewportlaw23HeapSorts_24 n g1 hc1 hc2 hc3 c4_0a c4_0t c4_1 c4_2 hc4 c5_ hc5 c6_1 c6_2a c6_2t hc6 c7_0a c7_0t c7_1 c7_2 hc7 c8_0a c8_0t c8_1 hc8 hc9 hc10
              · rw [if_neg hc10] at h
                cases h
      | cons c6_0a c6_0t =>
        dsimp only at h
        cases c6_2 with
        | nil =>
          dsimp only at h
          obtain ⟨⟨c7_0, c7_1, c7_2⟩, hc7, h⟩ := Option.bind_eq_some_iff.1 h
          dsimp only at h
          cases c7_0 with
          | nil =>
            dsimp only at h
            obtain ⟨⟨c8_0, c8_1⟩, hc8, h⟩ := Option.bind_eq_some_iff.1 h
            dsimp only at h
            cases c8_0 with
            | nil =>
              dsimp only at h
              obtain ⟨_, hc9, h⟩ := Option.bind_eq_some_iff.1 h
              obtain rfl := Option.some.inj h; exact p_viewportlaw23HeapSorts_25 n g1 hc1 hc2 hc3 c4_0a c4_0t c4_1 c4_2 hc4 c5_ hc5 c6_0a c6_0t c6_1 hc6 c7_1 c7_2 hc7 c8_1 hc8 hc9
            | cons c8_0a c8_0t =>
              dsimp only at h
              obtain ⟨_, hc9, h⟩ := Option.bind_eq_some_iff.1 h
              by_cases hc10 : ((c8_1 : Nat) : Int) = (0 : Int)
              · rw [if_pos hc10] at h
                obtain rfl := Option.some.inj h; exact p_viewportlaw23HeapSorts_26 n g1 hc1 hc2 hc3 c4_0a c4_0t c4_1 c4_2 hc4 c5_ hc5 c6_0a c6_0t c6_1 hc6 c7_1 c7_2 hc7 c8_0a c8_0t c8_1 hc8 hc9 hc10
              · rw [if_neg hc10] at h
                cases h
          | cons c7_0a c7_0t =>
            dsimp only at h
            obtain ⟨⟨c8_0, c8_1⟩, hc8, h⟩ := Option.bind_eq_some_iff.1 h
            dsimp only at h
            cases c8_0 with
            | nil =>
              dsimp only at h
              obtain ⟨_, hc9, h⟩ := Option.bind_eq_some_iff.1 h
              obtain rfl := Option.some.inj h; exact p_viewportlaw23HeapSorts_27 n g1 hc1 hc2 hc3 c4_0a c4_0t c4_1 c4_2 hc4 c5_ hc5 c6_0a c6_0t c6_1 hc6 c7_0a c7_0t c7_1 c7_2 hc7 c8_1 hc8 hc9
            | cons c8_0a c8_0t =>
              dsimp only at h
              obtain ⟨_, hc9, h⟩ := Option.bind_eq_some_iff.1 h
              by_cases hc10 : ((c8_1 : Nat) : Int) = (0 : Int)
              · rw [if_pos hc10] at h
                obtain rfl := Option.some.inj h; exact p_viewportlaw23HeapSorts_28 n g1 hc1 hc2 hc3 c4_0a c4_0t c4_1 c4_2 hc4 c5_ hc5 c6_0a c6_0t c6_1 hc6 c7_0a c7_0t c7_1 c7_2 hc7 c8_0a c8_0t c8_1 hc8 hc9 hc10
              · rw [if_neg hc10] at h
                cases h
        | cons c6_2a c6_2t =>
          dsimp only at h
          obtain ⟨⟨c7_0, c7_1, c7_2⟩, hc7, h⟩ := Option.bind_eq_some_iff.1 h
          dsimp only at h
          cases c7_0 with
          | nil =>
            dsimp only at h
            obtain ⟨⟨c8_0, c8_1⟩, hc8, h⟩ := Option.bind_eq_some_iff.1 h
            dsimp only at h
            cases c8_0 with
            | nil =>
              dsimp only at h
              obtain ⟨_, hc9, h⟩ := Option.bind_eq_some_iff.1 h
              obtain rfl := Option.some.inj h; exact p_viewportlaw23HeapSorts_29 n g1 hc1 hc2 hc3 c4_0a c4_0t c4_1 c4_2 hc4 c5_ hc5 c6_0a c6_0t c6_1 c6_2a c6_2t hc6 c7_1 c7_2 hc7 c8_1 hc8 hc9
            | cons c8_0a c8_0t =>
              dsimp only at h
              obtain ⟨_, hc9, h⟩ := Option.bind_eq_some_iff.1 h
              by_cases hc10 : ((c8_1 : Nat) : Int) = (0 : Int)
              · rw [if_pos hc10] at h
                obtain rfl := Option.some.inj h; exact p_viewportlaw23HeapSorts_30 n g1 hc1 hc2 hc3 c4_0a c4_0t c4_1 c4_2 hc4 c5_ hc5 c6_0a c6_0t c6_1 c6_2a c6_2t hc6 c7_1 c7_2 hc7 c8_0a c8_0t c8_1 hc8 hc9 hc10
              · rw [if_neg hc10] at h
                cases h
          | cons c7_0a c7_0t =>
            dsimp only at h
            obtain ⟨⟨c8_0, c8_1⟩, hc8, h⟩ := Option.bind_eq_some_iff.1 h
            dsimp only at h
            cases c8_0 with
            | nil =>
              dsimp only at h
              obtain ⟨_, hc9, h⟩ := Option.bind_eq_some_iff.1 h
              obtain rfl := Option.some.inj h; exact p_viewportlaw23HeapSorts_31 n g1 hc1 hc2 hc3 c4_0a c4_0t c4_1 c4_2 hc4 c5_ hc5 c6_0a c6_0t c6_1 c6_2a c6_2t hc6 c7_0a c7_0t c7_1 c7_2 hc7 c8_1 hc8 hc9
            | cons c8_0a c8_0t =>
              dsimp only at h
              obtain ⟨_, hc9, h⟩ := Option.bind_eq_some_iff.1 h
              by_cases hc10 : ((c8_1 : Nat) : Int) = (0 : Int)
              · rw [if_pos hc10] at h
                obtain rfl := Option.some.inj h; exact p_viewportlaw23HeapSorts_32 n g1 hc1 hc2 hc3 c4_0a c4_0t c4_1 c4_2 hc4 c5_ hc5 c6_0a c6_0t c6_1 c6_2a c6_2t hc6 c7_0a c7_0t c7_1 c7_2 hc7 c8_0a c8_0t c8_1 hc8 hc9 hc10
              · rw [if_neg hc10] at h
                cases h

end Go.Proofs.Ytpbcnplpaibjnaa.hsow
