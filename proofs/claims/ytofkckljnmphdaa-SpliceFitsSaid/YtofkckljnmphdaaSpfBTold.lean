/-
  What functions do, told by pure functions. No condition.
-/
import Derived.Test.YtofkckljnmphdaaSpfATold
set_option linter.unusedSimpArgs false
set_option linter.unusedVariables false
set_option linter.unusedSectionVars false
set_option linter.unnecessarySimpa false
set_option maxRecDepth 100000
noncomputable section
namespace Go.Proofs.Ytofkckljnmphdaa.spf20
open Go Go.Proofs.Ytofkckljnmphdaa Ax
variable [Args]
def A_treeeachintintq1 (a0 : NL) (a1 : Int) (a2 : Int) : List Value := [(nlV a0), (Value.func (.func 55) #[] #[(pN 0 0), (pN 1 0)])]
def H_treeeachintintq1 (a0 : NL) (a1 : Int) (a2 : Int) : AH := ⟨sB [(0, (some (.cells (layT [(i6 a1)]) 3))), (1, (some (.cells (layT [(i6 a2)]) 3)))], 2, 2⟩
def V_treeeachintintq1 (a0 : NL) (a1 : Int) (a2 : Int) (r : NL) : Value := match r with
 | o0 => (nlV o0)
def R_treeeachintintq1 (a0 : NL) (a1 : Int) (a2 : Int) (r : NL) : AH := match r with
 | o0 => ⟨sB [], 2, 2⟩
abbrev G_treeeachintintq1 (a0 : NL) (a1 : Int) (a2 : Int) (r : NL) : Prop := Gv P (.func 66) (A_treeeachintintq1 a0 a1 a2) (H_treeeachintintq1 a0 a1 a2) (V_treeeachintintq1 a0 a1 a2 r) (R_treeeachintintq1 a0 a1 a2 r)
abbrev C_treeeachintintq1 (a0 : NL) (a1 : Int) (a2 : Int) (r : NL) (ins outs : BL) : CallA := ⟨2, ins, V_treeeachintintq1 a0 a1 a2 r, R_treeeachintintq1 a0 a1 a2 r, outs⟩
def S_treeeachintintq1_1 (x1_0 : List Int) (x1_1 : List Int) (x1_3 : Nat) (x1_4 : NL) (x1_5 : Int) (st : List Int × Int) : XSt := match st with
 | (x1_2, x1_6) => (sT 29 [(1, (Value.func (.func 55) #[] #[(pN 0 0), (pN 1 0)])), (5, (sN 2 0 x1_3 x1_3)), (14, (nlV x1_4)), (15, (i6 x1_5)), (16, (i6 x1_6))], [], ⟨sB [(0, (some (.cells (layT (iv x1_0)) 3))), (1, (some (.cells (layT (iv x1_1)) 3))), (2, (some (.cells (layT (iv x1_2)) 3)))], 3, 2⟩)
def X_treeeachintintq1_1 (x1_0 : List Int) (x1_1 : List Int) (x1_3 : Nat) (x1_4 : NL) (x1_5 : Int) (r : List Int) : Ex × XSt := match r with
 | z1_0 => (.exit 0, (sT 29 [(5, (sN 2 0 x1_3 x1_3))], [], ⟨sB [(0, (some (.cells (layT (iv x1_0)) 3))), (1, (some (.cells (layT (iv x1_1)) 3))), (2, (some (.cells (layT (iv z1_0)) 3)))], 3, 2⟩))
abbrev Q_treeeachintintq1_1 (rnd : Option Nat) (x1_0 : List Int) (x1_1 : List Int) (x1_3 : Nat) (x1_4 : NL) (x1_5 : Int) (st : List Int × Int) (c : Ex × XSt) : Prop := CG P rnd (fnN P 66) 2 (codeOf P 66 [false, false, true, false, true, true, true]) (S_treeeachintintq1_1 x1_0 x1_1 x1_3 x1_4 x1_5 st) c
abbrev U_treeeachintintq1_1 (rd : Option Nat) (x1_0 : List Int) (x1_1 : List Int) (x1_3 : Nat) (x1_4 : NL) (x1_5 : Int) (st : List Int × Int) (r : List Int) : Prop := CG P rd (fnN P 66) 2 (codeOf P 66 [false, true, false, true, true, true]) (S_treeeachintintq1_1 x1_0 x1_1 x1_3 x1_4 x1_5 st) (X_treeeachintintq1_1 x1_0 x1_1 x1_3 x1_4 x1_5 r)
def B_treeeachintintq1_1 (n : Nat) (x1_0 : List Int) (x1_1 : List Int) (x1_3 : Nat) (x1_4 : NL) (x1_5 : Int) (st : List Int × Int) : Option ((List Int × Int) ⊕ (List Int)) := match st with
 | (x1_2, x1_6) =>
  if x1_6 < x1_5 then
   if 0 ≤ x1_6 ∧ x1_6 < (((x1_4).l.length : Nat) : Int) then
    if (x1_6).toNat < ((x1_4).l).length then
     ((some (((x1_4).l).getD (x1_6).toNat 0))).bind fun y1_4_ =>
     (m_treePut1q2 n y1_4_ x1_0 x1_1).bind fun y1_5_ =>
     if 0 ≤ x1_6 ∧ x1_6 < ((x1_3 : Nat) : Int) then
      if (x1_6).toNat < (x1_2).length then
       some (.inl (((x1_2).set (x1_6).toNat y1_5_), (w64 (x1_6 + (1 : Int)))))
      else none
     else none
    else none
   else none
  else
   some (.inr x1_2)
def m_treeeachintintq1_1 (n : Nat) (x1_0 : List Int) (x1_1 : List Int) (x1_3 : Nat) (x1_4 : NL) (x1_5 : Int) (st : List Int × Int) : Option (List Int) := iterM (B_treeeachintintq1_1 n x1_0 x1_1 x1_3 x1_4 x1_5) n st
theorem b_treeeachintintq1_1 (n : Nat) {rnd : Option Nat} (x1_0 : List Int) (x1_1 : List Int) (x1_3 : Nat) (x1_4 : NL) (x1_5 : Int) (st : List Int × Int) (o : (List Int × Int) ⊕ (List Int)) (h : B_treeeachintintq1_1 n x1_0 x1_1 x1_3 x1_4 x1_5 st = some o) : CG P rnd (fnN P 66) 2 (codeOf P 66 [false, false, true, false, true, true, true]) (S_treeeachintintq1_1 x1_0 x1_1 x1_3 x1_4 x1_5 st) (Sum.elim (fun s => (.normal, S_treeeachintintq1_1 x1_0 x1_1 x1_3 x1_4 x1_5 s)) (fun r => X_treeeachintintq1_1 x1_0 x1_1 x1_3 x1_4 x1_5 r) o) := by
 obtain ⟨x1_2, x1_6⟩ := st
 unfold B_treeeachintintq1_1 at h
 dsimp only at h
 by_cases hy1_1 : x1_6 < x1_5
 ·rw [if_pos hy1_1] at h
  obtain ⟨hy1_2, h⟩ := gd h
  obtain ⟨hy1_3, h⟩ := gd h
  obtain ⟨y1_4_, hy1_4, h⟩ := oB h
  obtain ⟨y1_5_, hy1_5, h⟩ := oB h
  obtain ⟨hy1_6, h⟩ := gd h
  obtain ⟨hy1_7, h⟩ := gd h
  obtain rfl := oI h
  exact runC2 hm ⟨[1, 5, 14, 15, 16], [(0, 0, true), (1, 1, true), (2, 2, true)], 3, 2, [], false, [], [], []⟩ (zz 1 (xdT hy1_1) <|
   zz 8 (xk9 (Nat.add (x1_4).num 64) (x1_4).off (x1_4).cap hy1_2) <|
   zz 9 (nk10 hy1_4 hy1_3) <|
   yy 16 (.call (C_treePut1q2 y1_4_ x1_0 x1_1 y1_5_ [(0, 0, true), (1, 1, true)] [])) <|
   ww (m_treePut1q2_ok n y1_4_ x1_0 x1_1 y1_5_ hy1_5) <|
   ww (iv_flat x1_0 3) <|
   ww (iv_flat x1_1 3) <|
   zz 17 (xk17 2 x1_3 hy1_6) <|
   yy 18 (.sto (layT (iv ((x1_2).set (x1_6).toNat y1_5_)))) <|
   ww (p := ∃ old, rdT (layT (iv x1_2)) 1 (x1_6).toNat = some old) (Exists.elim (iv_st (x1_2) ((x1_6).toNat) (y1_5_) hy1_7) fun o h => ⟨o, h.1⟩) <|
   ww (p := layL [(i6 y1_5_)] (x1_6).toNat (layT (iv x1_2)) = layT (iv ((x1_2).set (x1_6).toNat y1_5_))) (Exists.elim (iv_st (x1_2) ((x1_6).toNat) (y1_5_) hy1_7) fun o h => h.2) <|
   ww (iv_flat x1_0 3) <|
   ww (iv_flat x1_1 3) <|
   ww (iv_flat ((x1_2).set (x1_6).toNat y1_5_) 3) <|
   ee) (by kernel_rfl)
 ·rw [if_neg hy1_1] at h
  obtain rfl := oI h
  exact runC2 hm ⟨[5], [(0, 0, true), (1, 1, true), (2, 2, true)], 3, 2, [], false, [], [], []⟩ (zz 1 (xdF hy1_1) <|
   ww (iv_flat x1_0 3) <|
   ww (iv_flat x1_1 3) <|
   ww (iv_flat x1_2 3) <|
   ee) (by kernel_rfl)
theorem m_treeeachintintq1_1_ok (n : Nat) {rnd : Option Nat} (x1_0 : List Int) (x1_1 : List Int) (x1_3 : Nat) (x1_4 : NL) (x1_5 : Int) (st : List Int × Int) (r : List Int) (h : m_treeeachintintq1_1 n x1_0 x1_1 x1_3 x1_4 x1_5 st = some r) : CG P rnd (fnN P 66) 2 (codeOf P 66 [false, true, false, true, true, true]) (S_treeeachintintq1_1 x1_0 x1_1 x1_3 x1_4 x1_5 st) (X_treeeachintintq1_1 x1_0 x1_1 x1_3 x1_4 x1_5 r) :=
 CG.iter (b := codeOf P 66 [false, false, true, false, true, true, true]) (by kernel_rfl) (body := B_treeeachintintq1_1 n x1_0 x1_1 x1_3 x1_4 x1_5) (S := S_treeeachintintq1_1 x1_0 x1_1 x1_3 x1_4 x1_5) (X := X_treeeachintintq1_1 x1_0 x1_1 x1_3 x1_4 x1_5)
  (fun s s' h => b_treeeachintintq1_1 n x1_0 x1_1 x1_3 x1_4 x1_5 s (.inl s') h)
  (fun s r h => b_treeeachintintq1_1 n x1_0 x1_1 x1_3 x1_4 x1_5 s (.inr r) h)
  (fun r => by intro hx; cases hx) h
def m_treeeachintintq1 (n : Nat) (a0 : NL) (a1 : Int) (a2 : Int) : Option (NL) :=
 if (((a0).l.length : Nat) : Int) = (0 : Int) then
  some nl0
 else
  if 0 ≤ (((a0).l.length : Nat) : Int) then
   if ((((a0).l.length : Nat) : Int)).toNat * 8 ≤ 140737488355328 then
    (m_treeeachintintq1_1 n [a1] [a2] (((((a0).l.length : Nat) : Int)).toNat) a0 (((a0).l.length : Nat) : Int) ((List.replicate ((((a0).l.length : Nat) : Int)).toNat (0 : Int)), 0)).bind fun c4_ =>
    if (((((a0).l.length : Nat) : Int)).toNat) = c4_.length then
     if hc6 : c4_.length ≤ 9223372036854775807 then
      some (frzL c4_ hc6)
     else none
    else none
   else none
  else none
theorem m_treeeachintintq1_ok (n : Nat) (a0 : NL) (a1 : Int) (a2 : Int) (r : NL) (h : m_treeeachintintq1 n a0 a1 a2 = some r) : Gv P (.func 66) (A_treeeachintintq1 a0 a1 a2) (H_treeeachintintq1 a0 a1 a2) (V_treeeachintintq1 a0 a1 a2 r) (R_treeeachintintq1 a0 a1 a2 r) := by
 unfold m_treeeachintintq1 at h
 by_cases hc1 : (((a0).l.length : Nat) : Int) = (0 : Int)
 ·rw [if_pos hc1] at h
  obtain rfl := oI h
  exact runF2 hm ⟨[4], [], 2, 2, [], true, [], [], [4]⟩ (zz 6 (xeT hc1) <|
   ee) (by kernel_rfl)
 ·rw [if_neg hc1] at h
  obtain ⟨hc2, h⟩ := gd h
  obtain ⟨hc3, h⟩ := gd h
  obtain ⟨c4_, hc4, h⟩ := oB h
  obtain ⟨hc5, h⟩ := gd h
  obtain ⟨hc6, h⟩ := gdD h
  obtain rfl := oI h
  have k0_ : Gv P (.func 66) (A_treeeachintintq1 a0 a1 a2) (H_treeeachintintq1 a0 a1 a2) (Value.slice (some ⟨Nat.add (2 * cod c4_ + 1) 64, 0, some 1⟩) (((((a0).l.length : Nat) : Int)).toNat) (Nat.add big (((((a0).l.length : Nat) : Int)).toNat))) (R_treeeachintintq1 a0 a1 a2 (frzL c4_ hc6)) := runF2 hm ⟨[4], [], 2, 2, [(2, Nat.add (2 * cod c4_ + 1) 64)], true, [], [], []⟩ (zz 6 (xeF hc1) <|
  yy 11 (.mk ((((a0).l.length : Nat) : Int)).toNat (iv (List.replicate ((((a0).l.length : Nat) : Int)).toNat (0 : Int)))) <|
  ww (p := natOf (i6 (((a0).l.length : Nat) : Int)) = some ((((a0).l.length : Nat) : Int)).toNat) (natOf_toNat hc2) <|
  ww (p := natOf (i6 (((a0).l.length : Nat) : Int)) = some ((((a0).l.length : Nat) : Int)).toNat) (natOf_toNat hc2) <|
  ww (p := fits ((((a0).l.length : Nat) : Int)).toNat 8 = true) (fits_ok hc3 (by omega)) <|
  ww (p := isZ8 [(i6 (0 : Int))] = false) (rfl) <|
  ww (p := reps [(i6 (0 : Int))] ((((a0).l.length : Nat) : Int)).toNat = (iv (List.replicate ((((a0).l.length : Nat) : Int)).toNat (0 : Int)))) (reps_iv _) <|
  ww (p := U_treeeachintintq1_1 none [a1] [a2] (((((a0).l.length : Nat) : Int)).toNat) a0 (((a0).l.length : Nat) : Int) ((List.replicate ((((a0).l.length : Nat) : Int)).toNat (0 : Int)), 0) c4_) (m_treeeachintintq1_1_ok n [a1] [a2] (((((a0).l.length : Nat) : Int)).toNat) a0 (((a0).l.length : Nat) : Int) ((List.replicate ((((a0).l.length : Nat) : Int)).toNat (0 : Int)), 0) c4_ hc4) <|
  ww (iv_flat (List.replicate ((((a0).l.length : Nat) : Int)).toNat (0 : Int)) 3) <|
  ll 19 ⟨⟨[1, 5, 14, 15, 16], [(0, 0, false), (1, 1, false), (2, 2, true)], 3, 2, [], false, [], [], []⟩, (X_treeeachintintq1_1 [a1] [a2] (((((a0).l.length : Nat) : Int)).toNat) a0 (((a0).l.length : Nat) : Int) c4_).1, (X_treeeachintintq1_1 [a1] [a2] (((((a0).l.length : Nat) : Int)).toNat) a0 (((a0).l.length : Nat) : Int) c4_).2⟩ <|
  ww (frz_ok wins_nest wins_odd c4_) <|
  ee) (by kernel_rfl)
  have k1_ := gvLen (fn := fun m_ => (Value.slice (some ⟨Nat.add (2 * cod c4_ + 1) 64, 0, some 1⟩) m_ (Nat.add big m_))) hc5 k0_
  exact k1_

def A_treemovedq1 (a0 : Int) (a1 : Int) (a2 : Int) (a3 : Int) (a4 : Int) (a5 : Int) (a6 : NL) (a7 : Int) (a8 : Int) (a9 : Int) : List Value := [(Value.agg #[(i6 a0), (i6 a1), (i6 a2), (i6 a3), (i6 a4), (i6 a5), (nlV a6), (Value.int .u64 a7)]), (Value.func (.func 55) #[] #[(pN 0 0), (pN 1 0)])]
def H_treemovedq1 (a0 : Int) (a1 : Int) (a2 : Int) (a3 : Int) (a4 : Int) (a5 : Int) (a6 : NL) (a7 : Int) (a8 : Int) (a9 : Int) : AH := ⟨sB [(0, (some (.cells (layT [(i6 a8)]) 3))), (1, (some (.cells (layT [(i6 a9)]) 3)))], 2, 2⟩
def V_treemovedq1 (a0 : Int) (a1 : Int) (a2 : Int) (a3 : Int) (a4 : Int) (a5 : Int) (a6 : NL) (a7 : Int) (a8 : Int) (a9 : Int) (r : NL) : Value := match r with
 | o0 => (Value.agg #[(i6 a0), (i6 a1), (i6 a2), (i6 a3), (i6 a4), (i6 a5), (nlV o0), (Value.int .u64 a7)])
def R_treemovedq1 (a0 : Int) (a1 : Int) (a2 : Int) (a3 : Int) (a4 : Int) (a5 : Int) (a6 : NL) (a7 : Int) (a8 : Int) (a9 : Int) (r : NL) : AH := match r with
 | o0 => ⟨sB [(2, (some (.cells (layT [(i6 a0), (i6 a1), (i6 a2), (i6 a3), (i6 a4), (i6 a5), (nlV o0), (Value.int .u64 a7)]) 49)))], 3, 2⟩
abbrev G_treemovedq1 (a0 : Int) (a1 : Int) (a2 : Int) (a3 : Int) (a4 : Int) (a5 : Int) (a6 : NL) (a7 : Int) (a8 : Int) (a9 : Int) (r : NL) : Prop := Gv P (.func 57) (A_treemovedq1 a0 a1 a2 a3 a4 a5 a6 a7 a8 a9) (H_treemovedq1 a0 a1 a2 a3 a4 a5 a6 a7 a8 a9) (V_treemovedq1 a0 a1 a2 a3 a4 a5 a6 a7 a8 a9 r) (R_treemovedq1 a0 a1 a2 a3 a4 a5 a6 a7 a8 a9 r)
abbrev C_treemovedq1 (a0 : Int) (a1 : Int) (a2 : Int) (a3 : Int) (a4 : Int) (a5 : Int) (a6 : NL) (a7 : Int) (a8 : Int) (a9 : Int) (r : NL) (ins outs : BL) : CallA := ⟨2, ins, V_treemovedq1 a0 a1 a2 a3 a4 a5 a6 a7 a8 a9 r, R_treemovedq1 a0 a1 a2 a3 a4 a5 a6 a7 a8 a9 r, outs⟩
def m_treemovedq1 (n : Nat) (a0 : Int) (a1 : Int) (a2 : Int) (a3 : Int) (a4 : Int) (a5 : Int) (a6 : NL) (a7 : Int) (a8 : Int) (a9 : Int) : Option (NL) :=
 (m_treeeachintintq1 n a6 a8 a9).bind fun c1_ =>
 some c1_
theorem m_treemovedq1_ok (n : Nat) (a0 : Int) (a1 : Int) (a2 : Int) (a3 : Int) (a4 : Int) (a5 : Int) (a6 : NL) (a7 : Int) (a8 : Int) (a9 : Int) (r : NL) (h : m_treemovedq1 n a0 a1 a2 a3 a4 a5 a6 a7 a8 a9 = some r) : Gv P (.func 57) (A_treemovedq1 a0 a1 a2 a3 a4 a5 a6 a7 a8 a9) (H_treemovedq1 a0 a1 a2 a3 a4 a5 a6 a7 a8 a9) (V_treemovedq1 a0 a1 a2 a3 a4 a5 a6 a7 a8 a9 r) (R_treemovedq1 a0 a1 a2 a3 a4 a5 a6 a7 a8 a9 r) := by
 unfold m_treemovedq1 at h
 obtain ⟨c1_, hc1, h⟩ := oB h
 obtain rfl := oI h
 exact runF2 hm ⟨[4], [(2, 3, false)], 3, 2, [], false, [], [], []⟩ (yy 7 (.call (C_treeeachintintq1 a6 a8 a9 c1_ [(0, 0, false), (1, 1, false)] [])) <|
  ww (m_treeeachintintq1_ok n a6 a8 a9 c1_ hc1) <|
  ee) (by kernel_rfl)

def A_treePut2q1 (a0 : Int) (a1 : Int) : List Value := [(i6 a0), (pN 0 0)]
def H_treePut2q1 (a0 : Int) (a1 : Int) : AH := ⟨sB [(0, (some (.cells (layT [(i6 a1)]) 3)))], 1, 1⟩
def V_treePut2q1 (a0 : Int) (a1 : Int) (r : Unit) : Value := match r with
 | _ => (i6 (w64 (a0 + a1)))
def R_treePut2q1 (a0 : Int) (a1 : Int) (r : Unit) : AH := match r with
 | _ => ⟨sB [], 1, 1⟩
abbrev G_treePut2q1 (a0 : Int) (a1 : Int) (r : Unit) : Prop := Gv P (.func 56) (A_treePut2q1 a0 a1) (H_treePut2q1 a0 a1) (V_treePut2q1 a0 a1 r) (R_treePut2q1 a0 a1 r)
abbrev C_treePut2q1 (a0 : Int) (a1 : Int) (r : Unit) (ins outs : BL) : CallA := ⟨1, ins, V_treePut2q1 a0 a1 r, R_treePut2q1 a0 a1 r, outs⟩
def m_treePut2q1 (n : Nat) (a0 : Int) (a1 : Int) : Option (Unit) :=
 some ()
theorem m_treePut2q1_ok (n : Nat) (a0 : Int) (a1 : Int) (r : Unit) (h : m_treePut2q1 n a0 a1 = some r) : Gv P (.func 56) (A_treePut2q1 a0 a1) (H_treePut2q1 a0 a1) (V_treePut2q1 a0 a1 r) (R_treePut2q1 a0 a1 r) := by
 unfold m_treePut2q1 at h
 obtain rfl := oI h
 exact runF2 hm ⟨[3], [], 1, 1, [], false, [], [], []⟩ (ee) (by kernel_rfl)

def A_treePut2q2 (a0 : Int) (a1 : List Int) : List Value := [(i6 a0), (pN 0 0)]
def H_treePut2q2 (a0 : Int) (a1 : List Int) : AH := ⟨sB [(0, (some (.cells (layT (iv a1)) 3)))], 1, 1⟩
def V_treePut2q2 (a0 : Int) (a1 : List Int) (r : Int) : Value := match r with
 | o0 => (i6 o0)
def R_treePut2q2 (a0 : Int) (a1 : List Int) (r : Int) : AH := match r with
 | o0 => ⟨sB [], 1, 1⟩
abbrev G_treePut2q2 (a0 : Int) (a1 : List Int) (r : Int) : Prop := Gv P (.func 56) (A_treePut2q2 a0 a1) (H_treePut2q2 a0 a1) (V_treePut2q2 a0 a1 r) (R_treePut2q2 a0 a1 r)
abbrev C_treePut2q2 (a0 : Int) (a1 : List Int) (r : Int) (ins outs : BL) : CallA := ⟨1, ins, V_treePut2q2 a0 a1 r, R_treePut2q2 a0 a1 r, outs⟩
def m_treePut2q2 (n : Nat) (a0 : Int) (a1 : List Int) : Option (Int) :=
 if 0 < (a1).length then
  ((some ((a1).getD 0 0))).bind fun c2_ =>
  some (w64 (a0 + c2_))
 else none
theorem m_treePut2q2_ok (n : Nat) (a0 : Int) (a1 : List Int) (r : Int) (h : m_treePut2q2 n a0 a1 = some r) : Gv P (.func 56) (A_treePut2q2 a0 a1) (H_treePut2q2 a0 a1) (V_treePut2q2 a0 a1 r) (R_treePut2q2 a0 a1 r) := by
 unfold m_treePut2q2 at h
 obtain ⟨hc1, h⟩ := gd h
 obtain ⟨c2_, hc2, h⟩ := oB h
 obtain rfl := oI h
 exact runF2 hm ⟨[3], [], 1, 1, [], false, [], [], []⟩ (zz 4 (xivN hc2 (hc1)) <|
  ee) (by kernel_rfl)

def A_treeeachintintq2 (a0 : NL) (a1 : Int) : List Value := [(nlV a0), (Value.func (.func 56) #[] #[(pN 0 0)])]
def H_treeeachintintq2 (a0 : NL) (a1 : Int) : AH := ⟨sB [(0, (some (.cells (layT [(i6 a1)]) 3)))], 1, 1⟩
def V_treeeachintintq2 (a0 : NL) (a1 : Int) (r : NL) : Value := match r with
 | o0 => (nlV o0)
def R_treeeachintintq2 (a0 : NL) (a1 : Int) (r : NL) : AH := match r with
 | o0 => ⟨sB [], 1, 1⟩
abbrev G_treeeachintintq2 (a0 : NL) (a1 : Int) (r : NL) : Prop := Gv P (.func 66) (A_treeeachintintq2 a0 a1) (H_treeeachintintq2 a0 a1) (V_treeeachintintq2 a0 a1 r) (R_treeeachintintq2 a0 a1 r)
abbrev C_treeeachintintq2 (a0 : NL) (a1 : Int) (r : NL) (ins outs : BL) : CallA := ⟨1, ins, V_treeeachintintq2 a0 a1 r, R_treeeachintintq2 a0 a1 r, outs⟩
def S_treeeachintintq2_1 (x1_0 : List Int) (x1_2 : Nat) (x1_3 : NL) (x1_4 : Int) (st : List Int × Int) : XSt := match st with
 | (x1_1, x1_5) => (sT 29 [(1, (Value.func (.func 56) #[] #[(pN 0 0)])), (5, (sN 1 0 x1_2 x1_2)), (14, (nlV x1_3)), (15, (i6 x1_4)), (16, (i6 x1_5))], [], ⟨sB [(0, (some (.cells (layT (iv x1_0)) 3))), (1, (some (.cells (layT (iv x1_1)) 3)))], 2, 1⟩)
def X_treeeachintintq2_1 (x1_0 : List Int) (x1_2 : Nat) (x1_3 : NL) (x1_4 : Int) (r : List Int) : Ex × XSt := match r with
 | z1_0 => (.exit 0, (sT 29 [(5, (sN 1 0 x1_2 x1_2))], [], ⟨sB [(0, (some (.cells (layT (iv x1_0)) 3))), (1, (some (.cells (layT (iv z1_0)) 3)))], 2, 1⟩))
abbrev Q_treeeachintintq2_1 (rnd : Option Nat) (x1_0 : List Int) (x1_2 : Nat) (x1_3 : NL) (x1_4 : Int) (st : List Int × Int) (c : Ex × XSt) : Prop := CG P rnd (fnN P 66) 1 (codeOf P 66 [false, false, true, false, true, true, true]) (S_treeeachintintq2_1 x1_0 x1_2 x1_3 x1_4 st) c
abbrev U_treeeachintintq2_1 (rd : Option Nat) (x1_0 : List Int) (x1_2 : Nat) (x1_3 : NL) (x1_4 : Int) (st : List Int × Int) (r : List Int) : Prop := CG P rd (fnN P 66) 1 (codeOf P 66 [false, true, false, true, true, true]) (S_treeeachintintq2_1 x1_0 x1_2 x1_3 x1_4 st) (X_treeeachintintq2_1 x1_0 x1_2 x1_3 x1_4 r)
def B_treeeachintintq2_1 (n : Nat) (x1_0 : List Int) (x1_2 : Nat) (x1_3 : NL) (x1_4 : Int) (st : List Int × Int) : Option ((List Int × Int) ⊕ (List Int)) := match st with
 | (x1_1, x1_5) =>
  if x1_5 < x1_4 then
   if 0 ≤ x1_5 ∧ x1_5 < (((x1_3).l.length : Nat) : Int) then
    if (x1_5).toNat < ((x1_3).l).length then
     ((some (((x1_3).l).getD (x1_5).toNat 0))).bind fun y1_4_ =>
     (m_treePut2q2 n y1_4_ x1_0).bind fun y1_5_ =>
     if 0 ≤ x1_5 ∧ x1_5 < ((x1_2 : Nat) : Int) then
      if (x1_5).toNat < (x1_1).length then
       some (.inl (((x1_1).set (x1_5).toNat y1_5_), (w64 (x1_5 + (1 : Int)))))
      else none
     else none
    else none
   else none
  else
   some (.inr x1_1)
def m_treeeachintintq2_1 (n : Nat) (x1_0 : List Int) (x1_2 : Nat) (x1_3 : NL) (x1_4 : Int) (st : List Int × Int) : Option (List Int) := iterM (B_treeeachintintq2_1 n x1_0 x1_2 x1_3 x1_4) n st
theorem b_treeeachintintq2_1 (n : Nat) {rnd : Option Nat} (x1_0 : List Int) (x1_2 : Nat) (x1_3 : NL) (x1_4 : Int) (st : List Int × Int) (o : (List Int × Int) ⊕ (List Int)) (h : B_treeeachintintq2_1 n x1_0 x1_2 x1_3 x1_4 st = some o) : CG P rnd (fnN P 66) 1 (codeOf P 66 [false, false, true, false, true, true, true]) (S_treeeachintintq2_1 x1_0 x1_2 x1_3 x1_4 st) (Sum.elim (fun s => (.normal, S_treeeachintintq2_1 x1_0 x1_2 x1_3 x1_4 s)) (fun r => X_treeeachintintq2_1 x1_0 x1_2 x1_3 x1_4 r) o) := by
 obtain ⟨x1_1, x1_5⟩ := st
 unfold B_treeeachintintq2_1 at h
 dsimp only at h
 by_cases hy1_1 : x1_5 < x1_4
 ·rw [if_pos hy1_1] at h
  obtain ⟨hy1_2, h⟩ := gd h
  obtain ⟨hy1_3, h⟩ := gd h
  obtain ⟨y1_4_, hy1_4, h⟩ := oB h
  obtain ⟨y1_5_, hy1_5, h⟩ := oB h
  obtain ⟨hy1_6, h⟩ := gd h
  obtain ⟨hy1_7, h⟩ := gd h
  obtain rfl := oI h
  exact runC2 hm ⟨[1, 5, 14, 15, 16], [(0, 0, true), (1, 1, true)], 2, 1, [], false, [], [], []⟩ (zz 1 (xdT hy1_1) <|
   zz 8 (xk9 (Nat.add (x1_3).num 64) (x1_3).off (x1_3).cap hy1_2) <|
   zz 9 (nk10 hy1_4 hy1_3) <|
   yy 16 (.call (C_treePut2q2 y1_4_ x1_0 y1_5_ [(0, 0, true)] [])) <|
   ww (m_treePut2q2_ok n y1_4_ x1_0 y1_5_ hy1_5) <|
   ww (iv_flat x1_0 3) <|
   zz 17 (xk17 1 x1_2 hy1_6) <|
   yy 18 (.sto (layT (iv ((x1_1).set (x1_5).toNat y1_5_)))) <|
   ww (p := ∃ old, rdT (layT (iv x1_1)) 1 (x1_5).toNat = some old) (Exists.elim (iv_st (x1_1) ((x1_5).toNat) (y1_5_) hy1_7) fun o h => ⟨o, h.1⟩) <|
   ww (p := layL [(i6 y1_5_)] (x1_5).toNat (layT (iv x1_1)) = layT (iv ((x1_1).set (x1_5).toNat y1_5_))) (Exists.elim (iv_st (x1_1) ((x1_5).toNat) (y1_5_) hy1_7) fun o h => h.2) <|
   ww (iv_flat x1_0 3) <|
   ww (iv_flat ((x1_1).set (x1_5).toNat y1_5_) 3) <|
   ee) (by kernel_rfl)
 ·rw [if_neg hy1_1] at h
  obtain rfl := oI h
  exact runC2 hm ⟨[5], [(0, 0, true), (1, 1, true)], 2, 1, [], false, [], [], []⟩ (zz 1 (xdF hy1_1) <|
   ww (iv_flat x1_0 3) <|
   ww (iv_flat x1_1 3) <|
   ee) (by kernel_rfl)
theorem m_treeeachintintq2_1_ok (n : Nat) {rnd : Option Nat} (x1_0 : List Int) (x1_2 : Nat) (x1_3 : NL) (x1_4 : Int) (st : List Int × Int) (r : List Int) (h : m_treeeachintintq2_1 n x1_0 x1_2 x1_3 x1_4 st = some r) : CG P rnd (fnN P 66) 1 (codeOf P 66 [false, true, false, true, true, true]) (S_treeeachintintq2_1 x1_0 x1_2 x1_3 x1_4 st) (X_treeeachintintq2_1 x1_0 x1_2 x1_3 x1_4 r) :=
 CG.iter (b := codeOf P 66 [false, false, true, false, true, true, true]) (by kernel_rfl) (body := B_treeeachintintq2_1 n x1_0 x1_2 x1_3 x1_4) (S := S_treeeachintintq2_1 x1_0 x1_2 x1_3 x1_4) (X := X_treeeachintintq2_1 x1_0 x1_2 x1_3 x1_4)
  (fun s s' h => b_treeeachintintq2_1 n x1_0 x1_2 x1_3 x1_4 s (.inl s') h)
  (fun s r h => b_treeeachintintq2_1 n x1_0 x1_2 x1_3 x1_4 s (.inr r) h)
  (fun r => by intro hx; cases hx) h
def m_treeeachintintq2 (n : Nat) (a0 : NL) (a1 : Int) : Option (NL) :=
 if (((a0).l.length : Nat) : Int) = (0 : Int) then
  some nl0
 else
  if 0 ≤ (((a0).l.length : Nat) : Int) then
   if ((((a0).l.length : Nat) : Int)).toNat * 8 ≤ 140737488355328 then
    (m_treeeachintintq2_1 n [a1] (((((a0).l.length : Nat) : Int)).toNat) a0 (((a0).l.length : Nat) : Int) ((List.replicate ((((a0).l.length : Nat) : Int)).toNat (0 : Int)), 0)).bind fun c4_ =>
    if (((((a0).l.length : Nat) : Int)).toNat) = c4_.length then
     if hc6 : c4_.length ≤ 9223372036854775807 then
      some (frzL c4_ hc6)
     else none
    else none
   else none
  else none
theorem m_treeeachintintq2_ok (n : Nat) (a0 : NL) (a1 : Int) (r : NL) (h : m_treeeachintintq2 n a0 a1 = some r) : Gv P (.func 66) (A_treeeachintintq2 a0 a1) (H_treeeachintintq2 a0 a1) (V_treeeachintintq2 a0 a1 r) (R_treeeachintintq2 a0 a1 r) := by
 unfold m_treeeachintintq2 at h
 by_cases hc1 : (((a0).l.length : Nat) : Int) = (0 : Int)
 ·rw [if_pos hc1] at h
  obtain rfl := oI h
  exact runF2 hm ⟨[4], [], 1, 1, [], true, [], [], [4]⟩ (zz 6 (xeT hc1) <|
   ee) (by kernel_rfl)
 ·rw [if_neg hc1] at h
  obtain ⟨hc2, h⟩ := gd h
  obtain ⟨hc3, h⟩ := gd h
  obtain ⟨c4_, hc4, h⟩ := oB h
  obtain ⟨hc5, h⟩ := gd h
  obtain ⟨hc6, h⟩ := gdD h
  obtain rfl := oI h
  have k0_ : Gv P (.func 66) (A_treeeachintintq2 a0 a1) (H_treeeachintintq2 a0 a1) (Value.slice (some ⟨Nat.add (2 * cod c4_ + 1) 64, 0, some 1⟩) (((((a0).l.length : Nat) : Int)).toNat) (Nat.add big (((((a0).l.length : Nat) : Int)).toNat))) (R_treeeachintintq2 a0 a1 (frzL c4_ hc6)) := runF2 hm ⟨[4], [], 1, 1, [(1, Nat.add (2 * cod c4_ + 1) 64)], true, [], [], []⟩ (zz 6 (xeF hc1) <|
  yy 11 (.mk ((((a0).l.length : Nat) : Int)).toNat (iv (List.replicate ((((a0).l.length : Nat) : Int)).toNat (0 : Int)))) <|
  ww (p := natOf (i6 (((a0).l.length : Nat) : Int)) = some ((((a0).l.length : Nat) : Int)).toNat) (natOf_toNat hc2) <|
  ww (p := natOf (i6 (((a0).l.length : Nat) : Int)) = some ((((a0).l.length : Nat) : Int)).toNat) (natOf_toNat hc2) <|
  ww (p := fits ((((a0).l.length : Nat) : Int)).toNat 8 = true) (fits_ok hc3 (by omega)) <|
  ww (p := isZ8 [(i6 (0 : Int))] = false) (rfl) <|
  ww (p := reps [(i6 (0 : Int))] ((((a0).l.length : Nat) : Int)).toNat = (iv (List.replicate ((((a0).l.length : Nat) : Int)).toNat (0 : Int)))) (reps_iv _) <|
  ww (p := U_treeeachintintq2_1 none [a1] (((((a0).l.length : Nat) : Int)).toNat) a0 (((a0).l.length : Nat) : Int) ((List.replicate ((((a0).l.length : Nat) : Int)).toNat (0 : Int)), 0) c4_) (m_treeeachintintq2_1_ok n [a1] (((((a0).l.length : Nat) : Int)).toNat) a0 (((a0).l.length : Nat) : Int) ((List.replicate ((((a0).l.length : Nat) : Int)).toNat (0 : Int)), 0) c4_ hc4) <|
  ww (iv_flat (List.replicate ((((a0).l.length : Nat) : Int)).toNat (0 : Int)) 3) <|
  ll 19 ⟨⟨[1, 5, 14, 15, 16], [(0, 0, false), (1, 1, true)], 2, 1, [], false, [], [], []⟩, (X_treeeachintintq2_1 [a1] (((((a0).l.length : Nat) : Int)).toNat) a0 (((a0).l.length : Nat) : Int) c4_).1, (X_treeeachintintq2_1 [a1] (((((a0).l.length : Nat) : Int)).toNat) a0 (((a0).l.length : Nat) : Int) c4_).2⟩ <|
  ww (frz_ok wins_nest wins_odd c4_) <|
  ee) (by kernel_rfl)
  have k1_ := gvLen (fn := fun m_ => (Value.slice (some ⟨Nat.add (2 * cod c4_ + 1) 64, 0, some 1⟩) m_ (Nat.add big m_))) hc5 k0_
  exact k1_

def A_treemovedq2 (a0 : Int) (a1 : Int) (a2 : Int) (a3 : Int) (a4 : Int) (a5 : Int) (a6 : NL) (a7 : Int) (a8 : Int) : List Value := [(Value.agg #[(i6 a0), (i6 a1), (i6 a2), (i6 a3), (i6 a4), (i6 a5), (nlV a6), (Value.int .u64 a7)]), (Value.func (.func 56) #[] #[(pN 0 0)])]
def H_treemovedq2 (a0 : Int) (a1 : Int) (a2 : Int) (a3 : Int) (a4 : Int) (a5 : Int) (a6 : NL) (a7 : Int) (a8 : Int) : AH := ⟨sB [(0, (some (.cells (layT [(i6 a8)]) 3)))], 1, 1⟩
def V_treemovedq2 (a0 : Int) (a1 : Int) (a2 : Int) (a3 : Int) (a4 : Int) (a5 : Int) (a6 : NL) (a7 : Int) (a8 : Int) (r : NL) : Value := match r with
 | o0 => (Value.agg #[(i6 a0), (i6 a1), (i6 a2), (i6 a3), (i6 a4), (i6 a5), (nlV o0), (Value.int .u64 a7)])
def R_treemovedq2 (a0 : Int) (a1 : Int) (a2 : Int) (a3 : Int) (a4 : Int) (a5 : Int) (a6 : NL) (a7 : Int) (a8 : Int) (r : NL) : AH := match r with
 | o0 => ⟨sB [(1, (some (.cells (layT [(i6 a0), (i6 a1), (i6 a2), (i6 a3), (i6 a4), (i6 a5), (nlV o0), (Value.int .u64 a7)]) 49)))], 2, 1⟩
abbrev G_treemovedq2 (a0 : Int) (a1 : Int) (a2 : Int) (a3 : Int) (a4 : Int) (a5 : Int) (a6 : NL) (a7 : Int) (a8 : Int) (r : NL) : Prop := Gv P (.func 57) (A_treemovedq2 a0 a1 a2 a3 a4 a5 a6 a7 a8) (H_treemovedq2 a0 a1 a2 a3 a4 a5 a6 a7 a8) (V_treemovedq2 a0 a1 a2 a3 a4 a5 a6 a7 a8 r) (R_treemovedq2 a0 a1 a2 a3 a4 a5 a6 a7 a8 r)
abbrev C_treemovedq2 (a0 : Int) (a1 : Int) (a2 : Int) (a3 : Int) (a4 : Int) (a5 : Int) (a6 : NL) (a7 : Int) (a8 : Int) (r : NL) (ins outs : BL) : CallA := ⟨1, ins, V_treemovedq2 a0 a1 a2 a3 a4 a5 a6 a7 a8 r, R_treemovedq2 a0 a1 a2 a3 a4 a5 a6 a7 a8 r, outs⟩
def m_treemovedq2 (n : Nat) (a0 : Int) (a1 : Int) (a2 : Int) (a3 : Int) (a4 : Int) (a5 : Int) (a6 : NL) (a7 : Int) (a8 : Int) : Option (NL) :=
 (m_treeeachintintq2 n a6 a8).bind fun c1_ =>
 some c1_
theorem m_treemovedq2_ok (n : Nat) (a0 : Int) (a1 : Int) (a2 : Int) (a3 : Int) (a4 : Int) (a5 : Int) (a6 : NL) (a7 : Int) (a8 : Int) (r : NL) (h : m_treemovedq2 n a0 a1 a2 a3 a4 a5 a6 a7 a8 = some r) : Gv P (.func 57) (A_treemovedq2 a0 a1 a2 a3 a4 a5 a6 a7 a8) (H_treemovedq2 a0 a1 a2 a3 a4 a5 a6 a7 a8) (V_treemovedq2 a0 a1 a2 a3 a4 a5 a6 a7 a8 r) (R_treemovedq2 a0 a1 a2 a3 a4 a5 a6 a7 a8 r) := by
 unfold m_treemovedq2 at h
 obtain ⟨c1_, hc1, h⟩ := oB h
 obtain rfl := oI h
 exact runF2 hm ⟨[4], [(1, 2, false)], 2, 1, [], false, [], [], []⟩ (yy 7 (.call (C_treeeachintintq2 a6 a8 c1_ [(0, 0, false)] [])) <|
  ww (m_treeeachintintq2_ok n a6 a8 c1_ hc1) <|
  ee) (by kernel_rfl)

def A_treePutq1 (a0 : WL rw_iiiiiiLu) (a1 : Int) (a2 : WL rw_iiiiiiLu) : List Value := [(wlV a0), (i6 a1), (wlV a2)]
def H_treePutq1 (a0 : WL rw_iiiiiiLu) (a1 : Int) (a2 : WL rw_iiiiiiLu) : AH := ⟨sB [], 0, 0⟩
def V_treePutq1 (a0 : WL rw_iiiiiiLu) (a1 : Int) (a2 : WL rw_iiiiiiLu) (r : (Int) ⊕ (List R8)) : Value := match r with
 | .inl o0 => (Value.tuple #[(Value.slice none 0 0), (i6 o0)])
 | .inr o0 => (Value.tuple #[(sN 0 0 (o0).length (Nat.add big 8)), (i6 (0 : Int))])
def R_treePutq1 (a0 : WL rw_iiiiiiLu) (a1 : Int) (a2 : WL rw_iiiiiiLu) (r : (Int) ⊕ (List R8)) : AH := match r with
 | .inl o0 => ⟨sB [], 0, 0⟩
 | .inr o0 => ⟨sB [(0, (some (.cells (layT (rows rw_iiiiiiLu o0)) 49)))], 1, 0⟩
abbrev G_treePutq1 (a0 : WL rw_iiiiiiLu) (a1 : Int) (a2 : WL rw_iiiiiiLu) (r : (Int) ⊕ (List R8)) : Prop := Gv P (.func 33) (A_treePutq1 a0 a1 a2) (H_treePutq1 a0 a1 a2) (V_treePutq1 a0 a1 a2 r) (R_treePutq1 a0 a1 a2 r)
abbrev C_treePutq1 (a0 : WL rw_iiiiiiLu) (a1 : Int) (a2 : WL rw_iiiiiiLu) (r : (Int) ⊕ (List R8)) (ins outs : BL) : CallA := ⟨0, ins, V_treePutq1 a0 a1 a2 r, R_treePutq1 a0 a1 a2 r, outs⟩
def S_treePutq1_3 (x3_0 : Int) (x3_1 : Int) (x3_3 : WL rw_iiiiiiLu) (x3_4 : Int) (st : List R8 × Int) : XSt := match st with
 | (x3_2, x3_5) => (sT 115 [(12, (Value.func (.func 55) #[] #[(pN 0 0), (pN 1 0)])), (14, (sN 2 0 (x3_2).length (Nat.add big 8))), (101, (wlV x3_3)), (102, (i6 x3_4)), (103, (i6 x3_5))], [], ⟨sB [(0, (some (.cells (layT [(i6 x3_0)]) 3))), (1, (some (.cells (layT [(i6 x3_1)]) 3))), (2, (some (.cells (layT (rows rw_iiiiiiLu x3_2)) 49)))], 3, 0⟩)
def X_treePutq1_3 (x3_0 : Int) (x3_1 : Int) (x3_3 : WL rw_iiiiiiLu) (x3_4 : Int) (r : List R8) : Ex × XSt := match r with
 | z3_0 => (.exit 4, (sT 115 [(14, (sN 0 0 (z3_0).length (Nat.add big 8)))], [], ⟨sB [(0, (some (.cells (layT (rows rw_iiiiiiLu z3_0)) 49)))], 1, 0⟩))
abbrev Q_treePutq1_3 (rnd : Option Nat) (x3_0 : Int) (x3_1 : Int) (x3_3 : WL rw_iiiiiiLu) (x3_4 : Int) (st : List R8 × Int) (c : Ex × XSt) : Prop := CG P rnd (fnN P 33) 0 (codeOf P 33 [false, false, true, false, true, true, true, true, true, true, true, true, true, true, true, true]) (S_treePutq1_3 x3_0 x3_1 x3_3 x3_4 st) c
abbrev U_treePutq1_3 (rd : Option Nat) (x3_0 : Int) (x3_1 : Int) (x3_3 : WL rw_iiiiiiLu) (x3_4 : Int) (st : List R8 × Int) (r : List R8) : Prop := CG P rd (fnN P 33) 0 (codeOf P 33 [false, true, false, true, true, true, true, true, true, true, true, true, true, true, true]) (S_treePutq1_3 x3_0 x3_1 x3_3 x3_4 st) (X_treePutq1_3 x3_0 x3_1 x3_3 x3_4 r)
def B_treePutq1_3 (n : Nat) (x3_0 : Int) (x3_1 : Int) (x3_3 : WL rw_iiiiiiLu) (x3_4 : Int) (st : List R8 × Int) : Option ((List R8 × Int) ⊕ (List R8)) := match st with
 | (x3_2, x3_5) =>
  if x3_5 < x3_4 then
   if 0 ≤ x3_5 ∧ x3_5 < (((x3_3).l.length : Nat) : Int) then
    ((some (((x3_3).l).getD (x3_5).toNat (0, 0, 0, 0, 0, 0, nl0, 0)))).bind fun y3_3_ =>
    (m_treemovedq1 n (y3_3_.1) (y3_3_.2.1) (y3_3_.2.2.1) (y3_3_.2.2.2.1) (y3_3_.2.2.2.2.1) (y3_3_.2.2.2.2.2.1) (y3_3_.2.2.2.2.2.2.1) (y3_3_.2.2.2.2.2.2.2) x3_0 x3_1).bind fun y3_4_ =>
    if ((x3_2).length + 1) * 80 ≤ 140737488355328 then
     some (.inl ((x3_2 ++ [((y3_3_.1), (y3_3_.2.1), (y3_3_.2.2.1), (y3_3_.2.2.2.1), (y3_3_.2.2.2.2.1), (y3_3_.2.2.2.2.2.1), y3_4_, (y3_3_.2.2.2.2.2.2.2))]), (w64 (x3_5 + (1 : Int)))))
    else none
   else none
  else
   some (.inr x3_2)
def m_treePutq1_3 (n : Nat) (x3_0 : Int) (x3_1 : Int) (x3_3 : WL rw_iiiiiiLu) (x3_4 : Int) (st : List R8 × Int) : Option (List R8) := iterM (B_treePutq1_3 n x3_0 x3_1 x3_3 x3_4) n st
theorem b_treePutq1_3 (n : Nat) {rnd : Option Nat} (x3_0 : Int) (x3_1 : Int) (x3_3 : WL rw_iiiiiiLu) (x3_4 : Int) (st : List R8 × Int) (o : (List R8 × Int) ⊕ (List R8)) (h : B_treePutq1_3 n x3_0 x3_1 x3_3 x3_4 st = some o) : CG P rnd (fnN P 33) 0 (codeOf P 33 [false, false, true, false, true, true, true, true, true, true, true, true, true, true, true, true]) (S_treePutq1_3 x3_0 x3_1 x3_3 x3_4 st) (Sum.elim (fun s => (.normal, S_treePutq1_3 x3_0 x3_1 x3_3 x3_4 s)) (fun r => X_treePutq1_3 x3_0 x3_1 x3_3 x3_4 r) o) := by
 obtain ⟨x3_2, x3_5⟩ := st
 unfold B_treePutq1_3 at h
 dsimp only at h
 by_cases hy3_1 : x3_5 < x3_4
 ·rw [if_pos hy3_1] at h
  obtain ⟨hy3_2, h⟩ := gd h
  obtain ⟨y3_3_, hy3_3, h⟩ := oB h
  obtain ⟨y3_4_, hy3_4, h⟩ := oB h
  obtain ⟨hy3_5, h⟩ := gd h
  obtain rfl := oI h
  exact runC2 hm ⟨[12, 14, 101, 102, 103], [(0, 0, false), (1, 1, false), (2, 6, true)], 3, 0, [], false, [], [], []⟩ (zz 1 (xdT hy3_1) <|
   zz 7 (xk1 (x3_3).num (x3_3).off (x3_3).cap hy3_2) <|
   zz 8 (lk2 hy3_3 (toNatLt hy3_2)) <|
   yy 14 (.call (C_treemovedq1 (y3_3_.1) (y3_3_.2.1) (y3_3_.2.2.1) (y3_3_.2.2.2.1) (y3_3_.2.2.2.2.1) (y3_3_.2.2.2.2.2.1) (y3_3_.2.2.2.2.2.2.1) (y3_3_.2.2.2.2.2.2.2) x3_0 x3_1 y3_4_ [(0, 0, false), (1, 1, false)] [(4, 2, false)])) <|
   ww (m_treemovedq1_ok n (y3_3_.1) (y3_3_.2.1) (y3_3_.2.2.1) (y3_3_.2.2.2.1) (y3_3_.2.2.2.2.1) (y3_3_.2.2.2.2.2.1) (y3_3_.2.2.2.2.2.2.1) (y3_3_.2.2.2.2.2.2.2) x3_0 x3_1 y3_4_ hy3_4) <|
   yy 16 (.app ⟨none, rows rw_iiiiiiLu x3_2, (rows rw_iiiiiiLu (x3_2 ++ [((y3_3_.1), (y3_3_.2.1), (y3_3_.2.2.1), (y3_3_.2.2.2.1), (y3_3_.2.2.2.2.1), (y3_3_.2.2.2.2.2.1), y3_4_, (y3_3_.2.2.2.2.2.2.2))])), ((x3_2 ++ [((y3_3_.1), (y3_3_.2.1), (y3_3_.2.2.1), (y3_3_.2.2.2.1), (y3_3_.2.2.2.2.1), (y3_3_.2.2.2.2.2.1), y3_4_, (y3_3_.2.2.2.2.2.2.2))])).length, false⟩) <|
   ww (p := 0 < 1) ((by decide)) <|
   ww (p := rdT (layT (rows rw_iiiiiiLu x3_2)) (Nat.mul (x3_2).length 8) 0 = some (rows rw_iiiiiiLu x3_2)) (rows_rd rwf_iiiiiiLu _ _ rfl) <|
   ww (p := fits (Nat.add (x3_2).length 1) 80 = true) (fits_ok hy3_5 (by have := hy3_5; show (_ : Nat) + _ ≤ _; omega)) <|
   ww (p := allCells [(i6 (y3_3_.1)), (i6 (y3_3_.2.1)), (i6 (y3_3_.2.2.1)), (i6 (y3_3_.2.2.2.1)), (i6 (y3_3_.2.2.2.2.1)), (i6 (y3_3_.2.2.2.2.2.1)), (nlV y3_4_), (Value.int .u64 (y3_3_.2.2.2.2.2.2.2))] = true) (rfl) <|
   ww (p := allCells (rows rw_iiiiiiLu x3_2) = true) (rows_cells rwf_iiiiiiLu _) <|
   ww (p := rows rw_iiiiiiLu x3_2 ++ [(i6 (y3_3_.1)), (i6 (y3_3_.2.1)), (i6 (y3_3_.2.2.1)), (i6 (y3_3_.2.2.2.1)), (i6 (y3_3_.2.2.2.2.1)), (i6 (y3_3_.2.2.2.2.2.1)), (nlV y3_4_), (Value.int .u64 (y3_3_.2.2.2.2.2.2.2))] = (rows rw_iiiiiiLu (x3_2 ++ [((y3_3_.1), (y3_3_.2.1), (y3_3_.2.2.1), (y3_3_.2.2.2.1), (y3_3_.2.2.2.2.1), (y3_3_.2.2.2.2.2.1), y3_4_, (y3_3_.2.2.2.2.2.2.2))]))) (rows_app rw_iiiiiiLu x3_2 [((y3_3_.1), (y3_3_.2.1), (y3_3_.2.2.1), (y3_3_.2.2.2.1), (y3_3_.2.2.2.2.1), (y3_3_.2.2.2.2.2.1), y3_4_, (y3_3_.2.2.2.2.2.2.2))]) <|
   ww (p := Nat.add (x3_2).length 1 = ((x3_2 ++ [((y3_3_.1), (y3_3_.2.1), (y3_3_.2.2.1), (y3_3_.2.2.2.1), (y3_3_.2.2.2.2.1), (y3_3_.2.2.2.2.2.1), y3_4_, (y3_3_.2.2.2.2.2.2.2))])).length) (by simp) <|
   ww (rows_flat rwf_iiiiiiLu (x3_2 ++ [((y3_3_.1), (y3_3_.2.1), (y3_3_.2.2.1), (y3_3_.2.2.2.1), (y3_3_.2.2.2.2.1), (y3_3_.2.2.2.2.2.1), y3_4_, (y3_3_.2.2.2.2.2.2.2))]) 49) <|
   ee) (by kernel_rfl)
 ·rw [if_neg hy3_1] at h
  obtain rfl := oI h
  exact runC2 hm ⟨[14], [(0, 2, true)], 1, 0, [], false, [], [], []⟩ (zz 1 (xdF hy3_1) <|
   ww (rows_flat rwf_iiiiiiLu x3_2 49) <|
   ee) (by kernel_rfl)
theorem m_treePutq1_3_ok (n : Nat) {rnd : Option Nat} (x3_0 : Int) (x3_1 : Int) (x3_3 : WL rw_iiiiiiLu) (x3_4 : Int) (st : List R8 × Int) (r : List R8) (h : m_treePutq1_3 n x3_0 x3_1 x3_3 x3_4 st = some r) : CG P rnd (fnN P 33) 0 (codeOf P 33 [false, true, false, true, true, true, true, true, true, true, true, true, true, true, true]) (S_treePutq1_3 x3_0 x3_1 x3_3 x3_4 st) (X_treePutq1_3 x3_0 x3_1 x3_3 x3_4 r) :=
 CG.iter (b := codeOf P 33 [false, false, true, false, true, true, true, true, true, true, true, true, true, true, true, true]) (by kernel_rfl) (body := B_treePutq1_3 n x3_0 x3_1 x3_3 x3_4) (S := S_treePutq1_3 x3_0 x3_1 x3_3 x3_4) (X := X_treePutq1_3 x3_0 x3_1 x3_3 x3_4)
  (fun s s' h => b_treePutq1_3 n x3_0 x3_1 x3_3 x3_4 s (.inl s') h)
  (fun s r h => b_treePutq1_3 n x3_0 x3_1 x3_3 x3_4 s (.inr r) h)
  (fun r => by intro hx; cases hx) h
def S_treePutq1_2 (x2_0 : WL rw_iiiiiiLu) (x2_1 : Int) (x2_2 : Int) (x2_3 : Int) (x2_5 : WL rw_iiiiiiLu) (x2_6 : Int) (st : List R8 × Int) : XSt := match st with
 | (x2_4, x2_7) => (sT 115 [(0, (wlV x2_0)), (10, (pN 0 0)), (12, (Value.func (.func 55) #[] #[(pN 0 0), (pN 1 0)])), (13, (Value.func (.func 56) #[] #[(pN 2 0)])), (14, (sN 3 0 (x2_4).length (Nat.add big 8))), (86, (wlV x2_5)), (87, (i6 x2_6)), (88, (i6 x2_7))], [], ⟨sB [(0, (some (.cells (layT [(i6 x2_1)]) 3))), (1, (some (.cells (layT [(i6 x2_2)]) 3))), (2, (some (.cells (layT [(i6 x2_3)]) 3))), (3, (some (.cells (layT (rows rw_iiiiiiLu x2_4)) 49)))], 4, 0⟩)
def X_treePutq1_2 (x2_0 : WL rw_iiiiiiLu) (x2_1 : Int) (x2_2 : Int) (x2_3 : Int) (x2_5 : WL rw_iiiiiiLu) (x2_6 : Int) (r : List R8) : Ex × XSt := match r with
 | z2_0 => (.exit 2, (sT 115 [(0, (wlV x2_0)), (10, (pN 0 0)), (12, (Value.func (.func 55) #[] #[(pN 0 0), (pN 1 0)])), (14, (sN 2 0 (z2_0).length (Nat.add big 8)))], [], ⟨sB [(0, (some (.cells (layT [(i6 x2_1)]) 3))), (1, (some (.cells (layT [(i6 x2_2)]) 3))), (2, (some (.cells (layT (rows rw_iiiiiiLu z2_0)) 49)))], 3, 0⟩))
abbrev Q_treePutq1_2 (rnd : Option Nat) (x2_0 : WL rw_iiiiiiLu) (x2_1 : Int) (x2_2 : Int) (x2_3 : Int) (x2_5 : WL rw_iiiiiiLu) (x2_6 : Int) (st : List R8 × Int) (c : Ex × XSt) : Prop := CG P rnd (fnN P 33) 0 (codeOf P 33 [false, false, true, false, true, true, true, true, true, true, true, true, true, true, true]) (S_treePutq1_2 x2_0 x2_1 x2_2 x2_3 x2_5 x2_6 st) c
abbrev U_treePutq1_2 (rd : Option Nat) (x2_0 : WL rw_iiiiiiLu) (x2_1 : Int) (x2_2 : Int) (x2_3 : Int) (x2_5 : WL rw_iiiiiiLu) (x2_6 : Int) (st : List R8 × Int) (r : List R8) : Prop := CG P rd (fnN P 33) 0 (codeOf P 33 [false, true, false, true, true, true, true, true, true, true, true, true, true, true]) (S_treePutq1_2 x2_0 x2_1 x2_2 x2_3 x2_5 x2_6 st) (X_treePutq1_2 x2_0 x2_1 x2_2 x2_3 x2_5 x2_6 r)
def B_treePutq1_2 (n : Nat) (x2_0 : WL rw_iiiiiiLu) (x2_1 : Int) (x2_2 : Int) (x2_3 : Int) (x2_5 : WL rw_iiiiiiLu) (x2_6 : Int) (st : List R8 × Int) : Option ((List R8 × Int) ⊕ (List R8)) := match st with
 | (x2_4, x2_7) =>
  if x2_7 < x2_6 then
   if 0 ≤ x2_7 ∧ x2_7 < (((x2_5).l.length : Nat) : Int) then
    ((some (((x2_5).l).getD (x2_7).toNat (0, 0, 0, 0, 0, 0, nl0, 0)))).bind fun y2_3_ =>
    (m_treemovedq2 n (y2_3_.1) (y2_3_.2.1) (y2_3_.2.2.1) (y2_3_.2.2.2.1) (y2_3_.2.2.2.2.1) (y2_3_.2.2.2.2.2.1) (y2_3_.2.2.2.2.2.2.1) (y2_3_.2.2.2.2.2.2.2) x2_3).bind fun y2_4_ =>
    if ((x2_4).length + 1) * 80 ≤ 140737488355328 then
     some (.inl ((x2_4 ++ [((y2_3_.1), (y2_3_.2.1), (y2_3_.2.2.1), (y2_3_.2.2.2.1), (y2_3_.2.2.2.2.1), (y2_3_.2.2.2.2.2.1), y2_4_, (y2_3_.2.2.2.2.2.2.2))]), (w64 (x2_7 + (1 : Int)))))
    else none
   else none
  else
   some (.inr x2_4)
def m_treePutq1_2 (n : Nat) (x2_0 : WL rw_iiiiiiLu) (x2_1 : Int) (x2_2 : Int) (x2_3 : Int) (x2_5 : WL rw_iiiiiiLu) (x2_6 : Int) (st : List R8 × Int) : Option (List R8) := iterM (B_treePutq1_2 n x2_0 x2_1 x2_2 x2_3 x2_5 x2_6) n st
theorem b_treePutq1_2 (n : Nat) {rnd : Option Nat} (x2_0 : WL rw_iiiiiiLu) (x2_1 : Int) (x2_2 : Int) (x2_3 : Int) (x2_5 : WL rw_iiiiiiLu) (x2_6 : Int) (st : List R8 × Int) (o : (List R8 × Int) ⊕ (List R8)) (h : B_treePutq1_2 n x2_0 x2_1 x2_2 x2_3 x2_5 x2_6 st = some o) : CG P rnd (fnN P 33) 0 (codeOf P 33 [false, false, true, false, true, true, true, true, true, true, true, true, true, true, true]) (S_treePutq1_2 x2_0 x2_1 x2_2 x2_3 x2_5 x2_6 st) (Sum.elim (fun s => (.normal, S_treePutq1_2 x2_0 x2_1 x2_2 x2_3 x2_5 x2_6 s)) (fun r => X_treePutq1_2 x2_0 x2_1 x2_2 x2_3 x2_5 x2_6 r) o) := by
 obtain ⟨x2_4, x2_7⟩ := st
 unfold B_treePutq1_2 at h
 dsimp only at h
 by_cases hy2_1 : x2_7 < x2_6
 ·rw [if_pos hy2_1] at h
  obtain ⟨hy2_2, h⟩ := gd h
  obtain ⟨y2_3_, hy2_3, h⟩ := oB h
  obtain ⟨y2_4_, hy2_4, h⟩ := oB h
  obtain ⟨hy2_5, h⟩ := gd h
  obtain rfl := oI h
  exact runC2 hm ⟨[0, 10, 12, 13, 14, 86, 87, 88], [(0, 0, false), (1, 1, false), (2, 2, false), (3, 7, true)], 4, 0, [], false, [], [], []⟩ (zz 1 (xdT hy2_1) <|
   zz 7 (xk1 (x2_5).num (x2_5).off (x2_5).cap hy2_2) <|
   zz 8 (lk2 hy2_3 (toNatLt hy2_2)) <|
   yy 14 (.call (C_treemovedq2 (y2_3_.1) (y2_3_.2.1) (y2_3_.2.2.1) (y2_3_.2.2.2.1) (y2_3_.2.2.2.2.1) (y2_3_.2.2.2.2.2.1) (y2_3_.2.2.2.2.2.2.1) (y2_3_.2.2.2.2.2.2.2) x2_3 y2_4_ [(0, 2, false)] [(5, 1, false)])) <|
   ww (m_treemovedq2_ok n (y2_3_.1) (y2_3_.2.1) (y2_3_.2.2.1) (y2_3_.2.2.2.1) (y2_3_.2.2.2.2.1) (y2_3_.2.2.2.2.2.1) (y2_3_.2.2.2.2.2.2.1) (y2_3_.2.2.2.2.2.2.2) x2_3 y2_4_ hy2_4) <|
   yy 16 (.app ⟨none, rows rw_iiiiiiLu x2_4, (rows rw_iiiiiiLu (x2_4 ++ [((y2_3_.1), (y2_3_.2.1), (y2_3_.2.2.1), (y2_3_.2.2.2.1), (y2_3_.2.2.2.2.1), (y2_3_.2.2.2.2.2.1), y2_4_, (y2_3_.2.2.2.2.2.2.2))])), ((x2_4 ++ [((y2_3_.1), (y2_3_.2.1), (y2_3_.2.2.1), (y2_3_.2.2.2.1), (y2_3_.2.2.2.2.1), (y2_3_.2.2.2.2.2.1), y2_4_, (y2_3_.2.2.2.2.2.2.2))])).length, false⟩) <|
   ww (p := 0 < 1) ((by decide)) <|
   ww (p := rdT (layT (rows rw_iiiiiiLu x2_4)) (Nat.mul (x2_4).length 8) 0 = some (rows rw_iiiiiiLu x2_4)) (rows_rd rwf_iiiiiiLu _ _ rfl) <|
   ww (p := fits (Nat.add (x2_4).length 1) 80 = true) (fits_ok hy2_5 (by have := hy2_5; show (_ : Nat) + _ ≤ _; omega)) <|
   ww (p := allCells [(i6 (y2_3_.1)), (i6 (y2_3_.2.1)), (i6 (y2_3_.2.2.1)), (i6 (y2_3_.2.2.2.1)), (i6 (y2_3_.2.2.2.2.1)), (i6 (y2_3_.2.2.2.2.2.1)), (nlV y2_4_), (Value.int .u64 (y2_3_.2.2.2.2.2.2.2))] = true) (rfl) <|
   ww (p := allCells (rows rw_iiiiiiLu x2_4) = true) (rows_cells rwf_iiiiiiLu _) <|
   ww (p := rows rw_iiiiiiLu x2_4 ++ [(i6 (y2_3_.1)), (i6 (y2_3_.2.1)), (i6 (y2_3_.2.2.1)), (i6 (y2_3_.2.2.2.1)), (i6 (y2_3_.2.2.2.2.1)), (i6 (y2_3_.2.2.2.2.2.1)), (nlV y2_4_), (Value.int .u64 (y2_3_.2.2.2.2.2.2.2))] = (rows rw_iiiiiiLu (x2_4 ++ [((y2_3_.1), (y2_3_.2.1), (y2_3_.2.2.1), (y2_3_.2.2.2.1), (y2_3_.2.2.2.2.1), (y2_3_.2.2.2.2.2.1), y2_4_, (y2_3_.2.2.2.2.2.2.2))]))) (rows_app rw_iiiiiiLu x2_4 [((y2_3_.1), (y2_3_.2.1), (y2_3_.2.2.1), (y2_3_.2.2.2.1), (y2_3_.2.2.2.2.1), (y2_3_.2.2.2.2.2.1), y2_4_, (y2_3_.2.2.2.2.2.2.2))]) <|
   ww (p := Nat.add (x2_4).length 1 = ((x2_4 ++ [((y2_3_.1), (y2_3_.2.1), (y2_3_.2.2.1), (y2_3_.2.2.2.1), (y2_3_.2.2.2.2.1), (y2_3_.2.2.2.2.2.1), y2_4_, (y2_3_.2.2.2.2.2.2.2))])).length) (by simp) <|
   ww (rows_flat rwf_iiiiiiLu (x2_4 ++ [((y2_3_.1), (y2_3_.2.1), (y2_3_.2.2.1), (y2_3_.2.2.2.1), (y2_3_.2.2.2.2.1), (y2_3_.2.2.2.2.2.1), y2_4_, (y2_3_.2.2.2.2.2.2.2))]) 49) <|
   ee) (by kernel_rfl)
 ·rw [if_neg hy2_1] at h
  obtain rfl := oI h
  exact runC2 hm ⟨[0, 10, 12, 14], [(0, 0, false), (1, 1, false), (2, 3, true)], 3, 0, [], false, [], [], []⟩ (zz 1 (xdF hy2_1) <|
   ww (rows_flat rwf_iiiiiiLu x2_4 49) <|
   ee) (by kernel_rfl)
theorem m_treePutq1_2_ok (n : Nat) {rnd : Option Nat} (x2_0 : WL rw_iiiiiiLu) (x2_1 : Int) (x2_2 : Int) (x2_3 : Int) (x2_5 : WL rw_iiiiiiLu) (x2_6 : Int) (st : List R8 × Int) (r : List R8) (h : m_treePutq1_2 n x2_0 x2_1 x2_2 x2_3 x2_5 x2_6 st = some r) : CG P rnd (fnN P 33) 0 (codeOf P 33 [false, true, false, true, true, true, true, true, true, true, true, true, true, true]) (S_treePutq1_2 x2_0 x2_1 x2_2 x2_3 x2_5 x2_6 st) (X_treePutq1_2 x2_0 x2_1 x2_2 x2_3 x2_5 x2_6 r) :=
 CG.iter (b := codeOf P 33 [false, false, true, false, true, true, true, true, true, true, true, true, true, true, true]) (by kernel_rfl) (body := B_treePutq1_2 n x2_0 x2_1 x2_2 x2_3 x2_5 x2_6) (S := S_treePutq1_2 x2_0 x2_1 x2_2 x2_3 x2_5 x2_6) (X := X_treePutq1_2 x2_0 x2_1 x2_2 x2_3 x2_5 x2_6)
  (fun s s' h => b_treePutq1_2 n x2_0 x2_1 x2_2 x2_3 x2_5 x2_6 s (.inl s') h)
  (fun s r h => b_treePutq1_2 n x2_0 x2_1 x2_2 x2_3 x2_5 x2_6 s (.inr r) h)
  (fun r => by intro hx; cases hx) h
def S_treePutq1_1 (x1_0 : WL rw_iiiiiiLu) (x1_1 : WL rw_iiiiiiLu) (x1_2 : Int) (x1_3 : Int) (x1_4 : Int) (x1_6 : WL rw_iiiiiiLu) (x1_7 : Int) (st : List R8 × Int) : XSt := match st with
 | (x1_5, x1_8) => (sT 115 [(0, (wlV x1_0)), (2, (wlV x1_1)), (10, (pN 0 0)), (12, (Value.func (.func 55) #[] #[(pN 0 0), (pN 1 0)])), (13, (Value.func (.func 56) #[] #[(pN 2 0)])), (14, (sN 3 0 (x1_5).length (Nat.add big 8))), (73, (wlV x1_6)), (74, (i6 x1_7)), (75, (i6 x1_8))], [], ⟨sB [(0, (some (.cells (layT [(i6 x1_2)]) 3))), (1, (some (.cells (layT [(i6 x1_3)]) 3))), (2, (some (.cells (layT [(i6 x1_4)]) 3))), (3, (some (.cells (layT (rows rw_iiiiiiLu x1_5)) 49)))], 4, 0⟩)
def X_treePutq1_1 (x1_0 : WL rw_iiiiiiLu) (x1_1 : WL rw_iiiiiiLu) (x1_2 : Int) (x1_3 : Int) (x1_4 : Int) (x1_6 : WL rw_iiiiiiLu) (x1_7 : Int) (r : List R8) : Ex × XSt := match r with
 | z1_0 => (.exit 0, (sT 115 [(0, (wlV x1_0)), (2, (wlV x1_1)), (10, (pN 0 0)), (12, (Value.func (.func 55) #[] #[(pN 0 0), (pN 1 0)])), (13, (Value.func (.func 56) #[] #[(pN 2 0)])), (14, (sN 3 0 (z1_0).length (Nat.add big 8)))], [], ⟨sB [(0, (some (.cells (layT [(i6 x1_2)]) 3))), (1, (some (.cells (layT [(i6 x1_3)]) 3))), (2, (some (.cells (layT [(i6 x1_4)]) 3))), (3, (some (.cells (layT (rows rw_iiiiiiLu z1_0)) 49)))], 4, 0⟩))
abbrev Q_treePutq1_1 (rnd : Option Nat) (x1_0 : WL rw_iiiiiiLu) (x1_1 : WL rw_iiiiiiLu) (x1_2 : Int) (x1_3 : Int) (x1_4 : Int) (x1_6 : WL rw_iiiiiiLu) (x1_7 : Int) (st : List R8 × Int) (c : Ex × XSt) : Prop := CG P rnd (fnN P 33) 0 (codeOf P 33 [false, false, true, false, true, true, true, true, true, true, true, true, true, true]) (S_treePutq1_1 x1_0 x1_1 x1_2 x1_3 x1_4 x1_6 x1_7 st) c
abbrev U_treePutq1_1 (rd : Option Nat) (x1_0 : WL rw_iiiiiiLu) (x1_1 : WL rw_iiiiiiLu) (x1_2 : Int) (x1_3 : Int) (x1_4 : Int) (x1_6 : WL rw_iiiiiiLu) (x1_7 : Int) (st : List R8 × Int) (r : List R8) : Prop := CG P rd (fnN P 33) 0 (codeOf P 33 [false, true, false, true, true, true, true, true, true, true, true, true, true]) (S_treePutq1_1 x1_0 x1_1 x1_2 x1_3 x1_4 x1_6 x1_7 st) (X_treePutq1_1 x1_0 x1_1 x1_2 x1_3 x1_4 x1_6 x1_7 r)
def B_treePutq1_1 (n : Nat) (x1_0 : WL rw_iiiiiiLu) (x1_1 : WL rw_iiiiiiLu) (x1_2 : Int) (x1_3 : Int) (x1_4 : Int) (x1_6 : WL rw_iiiiiiLu) (x1_7 : Int) (st : List R8 × Int) : Option ((List R8 × Int) ⊕ (List R8)) := match st with
 | (x1_5, x1_8) =>
  if x1_8 < x1_7 then
   if 0 ≤ x1_8 ∧ x1_8 < (((x1_6).l.length : Nat) : Int) then
    ((some (((x1_6).l).getD (x1_8).toNat (0, 0, 0, 0, 0, 0, nl0, 0)))).bind fun y1_3_ =>
    (m_treemovedq1 n (y1_3_.1) (y1_3_.2.1) (y1_3_.2.2.1) (y1_3_.2.2.2.1) (y1_3_.2.2.2.2.1) (y1_3_.2.2.2.2.2.1) (y1_3_.2.2.2.2.2.2.1) (y1_3_.2.2.2.2.2.2.2) x1_2 x1_3).bind fun y1_4_ =>
    if ((x1_5).length + 1) * 80 ≤ 140737488355328 then
     some (.inl ((x1_5 ++ [((y1_3_.1), (y1_3_.2.1), (y1_3_.2.2.1), (y1_3_.2.2.2.1), (y1_3_.2.2.2.2.1), (y1_3_.2.2.2.2.2.1), y1_4_, (y1_3_.2.2.2.2.2.2.2))]), (w64 (x1_8 + (1 : Int)))))
    else none
   else none
  else
   some (.inr x1_5)
def m_treePutq1_1 (n : Nat) (x1_0 : WL rw_iiiiiiLu) (x1_1 : WL rw_iiiiiiLu) (x1_2 : Int) (x1_3 : Int) (x1_4 : Int) (x1_6 : WL rw_iiiiiiLu) (x1_7 : Int) (st : List R8 × Int) : Option (List R8) := iterM (B_treePutq1_1 n x1_0 x1_1 x1_2 x1_3 x1_4 x1_6 x1_7) n st
theorem b_treePutq1_1 (n : Nat) {rnd : Option Nat} (x1_0 : WL rw_iiiiiiLu) (x1_1 : WL rw_iiiiiiLu) (x1_2 : Int) (x1_3 : Int) (x1_4 : Int) (x1_6 : WL rw_iiiiiiLu) (x1_7 : Int) (st : List R8 × Int) (o : (List R8 × Int) ⊕ (List R8)) (h : B_treePutq1_1 n x1_0 x1_1 x1_2 x1_3 x1_4 x1_6 x1_7 st = some o) : CG P rnd (fnN P 33) 0 (codeOf P 33 [false, false, true, false, true, true, true, true, true, true, true, true, true, true]) (S_treePutq1_1 x1_0 x1_1 x1_2 x1_3 x1_4 x1_6 x1_7 st) (Sum.elim (fun s => (.normal, S_treePutq1_1 x1_0 x1_1 x1_2 x1_3 x1_4 x1_6 x1_7 s)) (fun r => X_treePutq1_1 x1_0 x1_1 x1_2 x1_3 x1_4 x1_6 x1_7 r) o) := by
 obtain ⟨x1_5, x1_8⟩ := st
 unfold B_treePutq1_1 at h
 dsimp only at h
 by_cases hy1_1 : x1_8 < x1_7
 ·rw [if_pos hy1_1] at h
  obtain ⟨hy1_2, h⟩ := gd h
  obtain ⟨y1_3_, hy1_3, h⟩ := oB h
  obtain ⟨y1_4_, hy1_4, h⟩ := oB h
  obtain ⟨hy1_5, h⟩ := gd h
  obtain rfl := oI h
  exact runC2 hm ⟨[0, 2, 10, 12, 13, 14, 73, 74, 75], [(0, 0, false), (1, 1, false), (2, 2, false), (3, 7, true)], 4, 0, [], false, [], [], []⟩ (zz 1 (xdT hy1_1) <|
   zz 7 (xk1 (x1_6).num (x1_6).off (x1_6).cap hy1_2) <|
   zz 8 (lk2 hy1_3 (toNatLt hy1_2)) <|
   yy 14 (.call (C_treemovedq1 (y1_3_.1) (y1_3_.2.1) (y1_3_.2.2.1) (y1_3_.2.2.2.1) (y1_3_.2.2.2.2.1) (y1_3_.2.2.2.2.2.1) (y1_3_.2.2.2.2.2.2.1) (y1_3_.2.2.2.2.2.2.2) x1_2 x1_3 y1_4_ [(0, 0, false), (1, 1, false)] [(5, 2, false)])) <|
   ww (m_treemovedq1_ok n (y1_3_.1) (y1_3_.2.1) (y1_3_.2.2.1) (y1_3_.2.2.2.1) (y1_3_.2.2.2.2.1) (y1_3_.2.2.2.2.2.1) (y1_3_.2.2.2.2.2.2.1) (y1_3_.2.2.2.2.2.2.2) x1_2 x1_3 y1_4_ hy1_4) <|
   yy 16 (.app ⟨none, rows rw_iiiiiiLu x1_5, (rows rw_iiiiiiLu (x1_5 ++ [((y1_3_.1), (y1_3_.2.1), (y1_3_.2.2.1), (y1_3_.2.2.2.1), (y1_3_.2.2.2.2.1), (y1_3_.2.2.2.2.2.1), y1_4_, (y1_3_.2.2.2.2.2.2.2))])), ((x1_5 ++ [((y1_3_.1), (y1_3_.2.1), (y1_3_.2.2.1), (y1_3_.2.2.2.1), (y1_3_.2.2.2.2.1), (y1_3_.2.2.2.2.2.1), y1_4_, (y1_3_.2.2.2.2.2.2.2))])).length, false⟩) <|
   ww (p := 0 < 1) ((by decide)) <|
   ww (p := rdT (layT (rows rw_iiiiiiLu x1_5)) (Nat.mul (x1_5).length 8) 0 = some (rows rw_iiiiiiLu x1_5)) (rows_rd rwf_iiiiiiLu _ _ rfl) <|
   ww (p := fits (Nat.add (x1_5).length 1) 80 = true) (fits_ok hy1_5 (by have := hy1_5; show (_ : Nat) + _ ≤ _; omega)) <|
   ww (p := allCells [(i6 (y1_3_.1)), (i6 (y1_3_.2.1)), (i6 (y1_3_.2.2.1)), (i6 (y1_3_.2.2.2.1)), (i6 (y1_3_.2.2.2.2.1)), (i6 (y1_3_.2.2.2.2.2.1)), (nlV y1_4_), (Value.int .u64 (y1_3_.2.2.2.2.2.2.2))] = true) (rfl) <|
   ww (p := allCells (rows rw_iiiiiiLu x1_5) = true) (rows_cells rwf_iiiiiiLu _) <|
   ww (p := rows rw_iiiiiiLu x1_5 ++ [(i6 (y1_3_.1)), (i6 (y1_3_.2.1)), (i6 (y1_3_.2.2.1)), (i6 (y1_3_.2.2.2.1)), (i6 (y1_3_.2.2.2.2.1)), (i6 (y1_3_.2.2.2.2.2.1)), (nlV y1_4_), (Value.int .u64 (y1_3_.2.2.2.2.2.2.2))] = (rows rw_iiiiiiLu (x1_5 ++ [((y1_3_.1), (y1_3_.2.1), (y1_3_.2.2.1), (y1_3_.2.2.2.1), (y1_3_.2.2.2.2.1), (y1_3_.2.2.2.2.2.1), y1_4_, (y1_3_.2.2.2.2.2.2.2))]))) (rows_app rw_iiiiiiLu x1_5 [((y1_3_.1), (y1_3_.2.1), (y1_3_.2.2.1), (y1_3_.2.2.2.1), (y1_3_.2.2.2.2.1), (y1_3_.2.2.2.2.2.1), y1_4_, (y1_3_.2.2.2.2.2.2.2))]) <|
   ww (p := Nat.add (x1_5).length 1 = ((x1_5 ++ [((y1_3_.1), (y1_3_.2.1), (y1_3_.2.2.1), (y1_3_.2.2.2.1), (y1_3_.2.2.2.2.1), (y1_3_.2.2.2.2.2.1), y1_4_, (y1_3_.2.2.2.2.2.2.2))])).length) (by simp) <|
   ww (rows_flat rwf_iiiiiiLu (x1_5 ++ [((y1_3_.1), (y1_3_.2.1), (y1_3_.2.2.1), (y1_3_.2.2.2.1), (y1_3_.2.2.2.2.1), (y1_3_.2.2.2.2.2.1), y1_4_, (y1_3_.2.2.2.2.2.2.2))]) 49) <|
   ee) (by kernel_rfl)
 ·rw [if_neg hy1_1] at h
  obtain rfl := oI h
  exact runC2 hm ⟨[0, 2, 10, 12, 13, 14], [(0, 0, false), (1, 1, false), (2, 2, false), (3, 3, true)], 4, 0, [], false, [], [], []⟩ (zz 1 (xdF hy1_1) <|
   ww (rows_flat rwf_iiiiiiLu x1_5 49) <|
   ee) (by kernel_rfl)
theorem m_treePutq1_1_ok (n : Nat) {rnd : Option Nat} (x1_0 : WL rw_iiiiiiLu) (x1_1 : WL rw_iiiiiiLu) (x1_2 : Int) (x1_3 : Int) (x1_4 : Int) (x1_6 : WL rw_iiiiiiLu) (x1_7 : Int) (st : List R8 × Int) (r : List R8) (h : m_treePutq1_1 n x1_0 x1_1 x1_2 x1_3 x1_4 x1_6 x1_7 st = some r) : CG P rnd (fnN P 33) 0 (codeOf P 33 [false, true, false, true, true, true, true, true, true, true, true, true, true]) (S_treePutq1_1 x1_0 x1_1 x1_2 x1_3 x1_4 x1_6 x1_7 st) (X_treePutq1_1 x1_0 x1_1 x1_2 x1_3 x1_4 x1_6 x1_7 r) :=
 CG.iter (b := codeOf P 33 [false, false, true, false, true, true, true, true, true, true, true, true, true, true]) (by kernel_rfl) (body := B_treePutq1_1 n x1_0 x1_1 x1_2 x1_3 x1_4 x1_6 x1_7) (S := S_treePutq1_1 x1_0 x1_1 x1_2 x1_3 x1_4 x1_6 x1_7) (X := X_treePutq1_1 x1_0 x1_1 x1_2 x1_3 x1_4 x1_6 x1_7)
  (fun s s' h => b_treePutq1_1 n x1_0 x1_1 x1_2 x1_3 x1_4 x1_6 x1_7 s (.inl s') h)
  (fun s r h => b_treePutq1_1 n x1_0 x1_1 x1_2 x1_3 x1_4 x1_6 x1_7 s (.inr r) h)
  (fun r => by intro hx; cases hx) h
def m_treePutq1 (n : Nat) (a0 : WL rw_iiiiiiLu) (a1 : Int) (a2 : WL rw_iiiiiiLu) : Option ((Int) ⊕ (List R8)) :=
 (m_treeCheckq1 n a0).bind fun c1_ =>
 if c1_ = (0 : Int) then
  (m_treeCheckq1 n a2).bind fun c3_ =>
  if c3_ = (0 : Int) then
   if a1 < (0 : Int) then
    some (.inl 2)
   else
    if a1 ≥ (((a0).l.length : Nat) : Int) then
     some (.inl 2)
    else
     if 0 ≤ a1 ∧ a1 < (((a0).l.length : Nat) : Int) then
      ((some (((a0).l).getD (a1).toNat (0, 0, 0, 0, 0, 0, nl0, 0)))).bind fun c8_ =>
      if 0 ≤ (0 : Int) ∧ (0 : Int) < (((a2).l.length : Nat) : Int) then
       ((some (((a2).l).getD ((0 : Int)).toNat (0, 0, 0, 0, 0, 0, nl0, 0)))).bind fun c10_ =>
       (m_partsFitsq1 n (c8_.1) (c8_.2.1) (c8_.2.2.1) (c8_.2.2.2.1) (c8_.2.2.2.2.1) (c8_.2.2.2.2.2.1) (c8_.2.2.2.2.2.2.1) (c8_.2.2.2.2.2.2.2) (c10_.1) (c10_.2.1) (c10_.2.2.1) (c10_.2.2.2.1) (c10_.2.2.2.2.1) (c10_.2.2.2.2.2.1) (c10_.2.2.2.2.2.2.1) (c10_.2.2.2.2.2.2.2)).bind fun c11_ =>
       if c11_ = true then
        (m_partsEndq1 n a0 a1).bind fun c13_ =>
        ((some (w64 ((((a2).l.length : Nat) : Int) - (w64 (c13_ - a1)))))).bind fun c14_ =>
        ((some (w64 ((((a0).l.length : Nat) : Int) + c14_)))).bind fun c15_ =>
        if c15_ > (524288 : Int) then
         some (.inl 3)
        else
         if 0 ≤ c15_ then
          if (c15_).toNat * 80 ≤ 140737488355328 then
           if 0 ≤ a1 then
            if hc20 : 0 ≤ (a1).toNat ∧ (a1).toNat ≤ (a0).l.length then
             (m_treePutq1_1 n a0 a2 c13_ c14_ a1 (wlSub rwf_iiiiiiLu a0 0 (a1).toNat hc20) ((((wlSub rwf_iiiiiiLu a0 0 (a1).toNat hc20)).l.length : Nat) : Int) ([], 0)).bind fun c21_ =>
             (m_treePutq1_2 n a0 c13_ c14_ a1 a2 (((a2).l.length : Nat) : Int) (c21_, 0)).bind fun c22_ =>
             if 0 ≤ c13_ then
              if hc24 : (c13_).toNat ≤ (a0).l.length ∧ (a0).l.length ≤ (a0).l.length then
               (m_treePutq1_3 n c13_ c14_ (wlSub rwf_iiiiiiLu a0 (c13_).toNat (a0).l.length hc24) ((((wlSub rwf_iiiiiiLu a0 (c13_).toNat (a0).l.length hc24)).l.length : Nat) : Int) (c22_, 0)).bind fun c25_ =>
               some (.inr c25_)
              else none
             else none
            else none
           else none
          else none
         else none
       else
        some (.inl 2)
      else none
     else none
  else
   some (.inl c3_)
 else
  some (.inl c1_)
theorem m_treePutq1_ok (n : Nat) (a0 : WL rw_iiiiiiLu) (a1 : Int) (a2 : WL rw_iiiiiiLu) (r : (Int) ⊕ (List R8)) (h : m_treePutq1 n a0 a1 a2 = some r) : Gv P (.func 33) (A_treePutq1 a0 a1 a2) (H_treePutq1 a0 a1 a2) (V_treePutq1 a0 a1 a2 r) (R_treePutq1 a0 a1 a2 r) := by
 unfold m_treePutq1 at h
 obtain ⟨c1_, hc1, h⟩ := oB h
 have k0 := fun {A L l} (k : PL A L l) => yy 7 (.call (C_treeCheckq1 a0 c1_ [] [])) <|
  ww (m_treeCheckq1_ok n a0 c1_ hc1) <|
  k
 by_cases hc2 : c1_ = (0 : Int)
 ·rw [if_pos hc2] at h
  obtain ⟨c3_, hc3, h⟩ := oB h
  have k2 := fun {A L l} (k : PL A L l) => zz 11 (xnF hc2) <|
   yy 16 (.call (C_treeCheckq1 a2 c3_ [] [])) <|
   ww (m_treeCheckq1_ok n a2 c3_ hc3) <|
   k
  by_cases hc4 : c3_ = (0 : Int)
  ·rw [if_pos hc4] at h
   have k5 := fun {A L l} (k : PL A L l) => zz 20 (xnF hc4) <|
    k
   by_cases hc5 : a1 < (0 : Int)
   ·rw [if_pos hc5] at h
    obtain rfl := oI h
    exact runF2 hm ⟨[6, 7], [], 0, 0, [], false, [], [], []⟩ (k0 <|
     k2 <|
     k5 <|
     zz 25 (xdT hc5) <|
     ee) (by kernel_rfl)
   ·rw [if_neg hc5] at h
    have k6 := fun {A L l} (k : PL A L l) => zz 25 (xdF hc5) <|
     k
    by_cases hc6 : a1 ≥ (((a0).l.length : Nat) : Int)
    ·rw [if_pos hc6] at h
     obtain rfl := oI h
     exact runF2 hm ⟨[6, 7], [], 0, 0, [], false, [], [], []⟩ (k0 <|
      k2 <|
      k5 <|
      k6 <|
      zz 30 (xdT hc6) <|
      ee) (by kernel_rfl)
    ·rw [if_neg hc6] at h
     obtain ⟨hc7, h⟩ := gd h
     obtain ⟨c8_, hc8, h⟩ := oB h
     obtain ⟨hc9, h⟩ := gd h
     obtain ⟨c10_, hc10, h⟩ := oB h
     obtain ⟨c11_, hc11, h⟩ := oB h
     have k7 := fun {A L l} (k : PL A L l) => zz 30 (xdF hc6) <|
      zz 35 (xk1 (a0).num (a0).off (a0).cap hc7) <|
      zz 36 (lk2 hc8 (toNatLt hc7)) <|
      zz 38 (xk1 (a2).num (a2).off (a2).cap hc9) <|
      zz 39 (lk2 hc10 (toNatLt hc9)) <|
      yy 40 (.call (C_partsFitsq1 (c8_.1) (c8_.2.1) (c8_.2.2.1) (c8_.2.2.2.1) (c8_.2.2.2.2.1) (c8_.2.2.2.2.2.1) (c8_.2.2.2.2.2.2.1) (c8_.2.2.2.2.2.2.2) (c10_.1) (c10_.2.1) (c10_.2.2.1) (c10_.2.2.2.1) (c10_.2.2.2.2.1) (c10_.2.2.2.2.2.1) (c10_.2.2.2.2.2.2.1) (c10_.2.2.2.2.2.2.2) c11_ [] [])) <|
      ww (m_partsFitsq1_ok n (c8_.1) (c8_.2.1) (c8_.2.2.1) (c8_.2.2.2.1) (c8_.2.2.2.2.1) (c8_.2.2.2.2.2.1) (c8_.2.2.2.2.2.2.1) (c8_.2.2.2.2.2.2.2) (c10_.1) (c10_.2.1) (c10_.2.2.1) (c10_.2.2.2.1) (c10_.2.2.2.2.1) (c10_.2.2.2.2.2.1) (c10_.2.2.2.2.2.2.1) (c10_.2.2.2.2.2.2.2) c11_ hc11) <|
      k
     by_cases hc12 : c11_ = true
     ·rw [if_pos hc12] at h
      obtain ⟨c13_, hc13, h⟩ := oB h
      obtain ⟨c14_, hc14, h⟩ := oB h
      obtain ⟨c15_, hc15, h⟩ := oB h
      have k14 := fun {A L l} (k : PL A L l) => yy 41 (vf) <|
       ww (p := (Value.bool (!c11_)) = (Value.bool false)) (vBn hc12) <|
       yy 47 (.call (C_partsEndq1 a0 a1 c13_ [] [])) <|
       ww (m_partsEndq1_ok n a0 a1 c13_ hc13) <|
       zz 56 (xnm hc14) <|
       zz 64 (xnm hc15) <|
       k
      by_cases hc16 : c15_ > (524288 : Int)
      ·rw [if_pos hc16] at h
       obtain rfl := oI h
       exact runF2 hm ⟨[6, 7], [], 0, 0, [], false, [], [], []⟩ (k0 <|
        k2 <|
        k5 <|
        k6 <|
        k7 <|
        k14 <|
        zz 65 (xdT hc16) <|
        ee) (by kernel_rfl)
      ·rw [if_neg hc16] at h
       obtain ⟨hc17, h⟩ := gd h
       obtain ⟨hc18, h⟩ := gd h
       obtain ⟨hc19, h⟩ := gd h
       obtain ⟨hc20, h⟩ := gdD h
       replace h := oB h
       obtain ⟨c21_, hc21, h⟩ := h
       replace h := oB h
       obtain ⟨c22_, hc22, h⟩ := h
       replace h := gd h
       obtain ⟨hc23, h⟩ := h
       replace h := gdD h
       obtain ⟨hc24, h⟩ := h
       replace h := oB h
       obtain ⟨c25_, hc25, h⟩ := h
       obtain rfl := oI h
       exact runF2 hm ⟨[6, 7], [(0, 0, true)], 1, 0, [], false, [], [], []⟩ (k0 <|
        k2 <|
        k5 <|
        k6 <|
        k7 <|
        k14 <|
        zz 65 (xdF hc16) <|
        zz 77 (xnm hc15) <|
        yy 78 (.mk (c15_).toNat []) <|
        ww (p := natOf (i6 c15_) = some (c15_).toNat) (natOf_toNat hc17) <|
        ww (p := fits (c15_).toNat 80 = true) (fits_ok hc18 (by omega)) <|
        yy 84 (.pur (wlV (wlSub rwf_iiiiiiLu a0 0 (a1).toNat hc20))) <|
        ww (p := opSlice P 22 (wlV a0) none (some (i6 a1)) none Ax.h0 = some ((wlV (wlSub rwf_iiiiiiLu a0 0 (a1).toNat hc20)), Ax.h0)) (slWL (e := 49) rwf_iiiiiiLu a0 (by kernel_rfl) (by kernel_rfl) rfl (bnd_int hc19) hc20) <|
        ww (p := U_treePutq1_1 none a0 a2 c13_ c14_ a1 (wlSub rwf_iiiiiiLu a0 0 (a1).toNat hc20) ((((wlSub rwf_iiiiiiLu a0 0 (a1).toNat hc20)).l.length : Nat) : Int) ([], 0) c21_) (m_treePutq1_1_ok n a0 a2 c13_ c14_ a1 (wlSub rwf_iiiiiiLu a0 0 (a1).toNat hc20) ((((wlSub rwf_iiiiiiLu a0 0 (a1).toNat hc20)).l.length : Nat) : Int) ([], 0) c21_ hc21) <|
        ll 88 ⟨⟨[0, 2, 10, 12, 13, 14, 73, 74, 75], [(0, 1, false), (1, 2, false), (2, 0, false), (3, 3, false)], 4, 0, [], false, [], [], []⟩, (X_treePutq1_1 a0 a2 c13_ c14_ a1 (wlSub rwf_iiiiiiLu a0 0 (a1).toNat hc20) ((((wlSub rwf_iiiiiiLu a0 0 (a1).toNat hc20)).l.length : Nat) : Int) c21_).1, (X_treePutq1_1 a0 a2 c13_ c14_ a1 (wlSub rwf_iiiiiiLu a0 0 (a1).toNat hc20) ((((wlSub rwf_iiiiiiLu a0 0 (a1).toNat hc20)).l.length : Nat) : Int) c21_).2⟩ <|
        ww (p := U_treePutq1_2 none a0 c13_ c14_ a1 a2 (((a2).l.length : Nat) : Int) (c21_, 0) c22_) (m_treePutq1_2_ok n a0 c13_ c14_ a1 a2 (((a2).l.length : Nat) : Int) (c21_, 0) c22_ hc22) <|
        ww (rows_flat rwf_iiiiiiLu c21_ 49) <|
        ll 95 ⟨⟨[0, 10, 12, 13, 14, 86, 87, 88], [(0, 0, false), (1, 1, false), (2, 2, false), (3, 3, true)], 4, 0, [], false, [], [], []⟩, (X_treePutq1_2 a0 c13_ c14_ a1 a2 (((a2).l.length : Nat) : Int) c22_).1, (X_treePutq1_2 a0 c13_ c14_ a1 a2 (((a2).l.length : Nat) : Int) c22_).2⟩ <|
        yy 100 (.pur (wlV (wlSub rwf_iiiiiiLu a0 (c13_).toNat (a0).l.length hc24))) <|
        ww (p := opSlice P 22 (wlV a0) (some (i6 c13_)) none none Ax.h0 = some ((wlV (wlSub rwf_iiiiiiLu a0 (c13_).toNat (a0).l.length hc24)), Ax.h0)) (slWL (e := 49) rwf_iiiiiiLu a0 (by kernel_rfl) (by kernel_rfl) (bnd_int hc23) rfl hc24) <|
        ww (p := U_treePutq1_3 none c13_ c14_ (wlSub rwf_iiiiiiLu a0 (c13_).toNat (a0).l.length hc24) ((((wlSub rwf_iiiiiiLu a0 (c13_).toNat (a0).l.length hc24)).l.length : Nat) : Int) (c22_, 0) c25_) (m_treePutq1_3_ok n c13_ c14_ (wlSub rwf_iiiiiiLu a0 (c13_).toNat (a0).l.length hc24) ((((wlSub rwf_iiiiiiLu a0 (c13_).toNat (a0).l.length hc24)).l.length : Nat) : Int) (c22_, 0) c25_ hc25) <|
        ww (rows_flat rwf_iiiiiiLu c22_ 49) <|
        ll 104 ⟨⟨[12, 14, 101, 102, 103], [(0, 0, false), (1, 1, false), (2, 2, true)], 3, 0, [], false, [], [], []⟩, (X_treePutq1_3 c13_ c14_ (wlSub rwf_iiiiiiLu a0 (c13_).toNat (a0).l.length hc24) ((((wlSub rwf_iiiiiiLu a0 (c13_).toNat (a0).l.length hc24)).l.length : Nat) : Int) c25_).1, (X_treePutq1_3 c13_ c14_ (wlSub rwf_iiiiiiLu a0 (c13_).toNat (a0).l.length hc24) ((((wlSub rwf_iiiiiiLu a0 (c13_).toNat (a0).l.length hc24)).l.length : Nat) : Int) c25_).2⟩ <|
        ww (rows_flat rwf_iiiiiiLu c25_ 49) <|
        ee) (by kernel_rfl)
     ·rw [if_neg hc12] at h
      obtain rfl := oI h
      exact runF2 hm ⟨[6, 7], [], 0, 0, [], false, [], [], []⟩ (k0 <|
       k2 <|
       k5 <|
       k6 <|
       k7 <|
       yy 41 (vt) <|
       ww (p := (Value.bool (!c11_)) = (Value.bool true)) (vBn (Bool.eq_false_iff.2 hc12)) <|
       ee) (by kernel_rfl)
  ·rw [if_neg hc4] at h
   obtain rfl := oI h
   exact runF2 hm ⟨[6, 7], [], 0, 0, [], false, [], [], []⟩ (k0 <|
    k2 <|
    zz 20 (xnT hc4) <|
    ee) (by kernel_rfl)
 ·rw [if_neg hc2] at h
  obtain rfl := oI h
  exact runF2 hm ⟨[6, 7], [], 0, 0, [], false, [], [], []⟩ (k0 <|
   zz 11 (xnT hc2) <|
   ee) (by kernel_rfl)

def A_treehasq1 (a0 : WL rw_iiiiiiLu) (a1 : Int) : List Value := [(wlV a0), (i6 a1)]
def H_treehasq1 (a0 : WL rw_iiiiiiLu) (a1 : Int) : AH := ⟨sB [], 0, 0⟩
def V_treehasq1 (a0 : WL rw_iiiiiiLu) (a1 : Int) (r : Bool) : Value := match r with
 | o0 => (bO o0)
def R_treehasq1 (a0 : WL rw_iiiiiiLu) (a1 : Int) (r : Bool) : AH := match r with
 | o0 => ⟨sB [], 0, 0⟩
abbrev G_treehasq1 (a0 : WL rw_iiiiiiLu) (a1 : Int) (r : Bool) : Prop := Gv P (.func 61) (A_treehasq1 a0 a1) (H_treehasq1 a0 a1) (V_treehasq1 a0 a1 r) (R_treehasq1 a0 a1 r)
abbrev C_treehasq1 (a0 : WL rw_iiiiiiLu) (a1 : Int) (r : Bool) (ins outs : BL) : CallA := ⟨0, ins, V_treehasq1 a0 a1 r, R_treehasq1 a0 a1 r, outs⟩
def m_treehasq1 (n : Nat) (a0 : WL rw_iiiiiiLu) (a1 : Int) : Option (Bool) :=
 if a1 ≥ (0 : Int) then
  if a1 < (((a0).l.length : Nat) : Int) then
   (m_treeCheckq1 n a0).bind fun c3_ =>
   if c3_ = (0 : Int) then
    some true
   else
    some false
  else
   some false
 else
  some false
theorem m_treehasq1_ok (n : Nat) (a0 : WL rw_iiiiiiLu) (a1 : Int) (r : Bool) (h : m_treehasq1 n a0 a1 = some r) : Gv P (.func 61) (A_treehasq1 a0 a1) (H_treehasq1 a0 a1) (V_treehasq1 a0 a1 r) (R_treehasq1 a0 a1 r) := by
 unfold m_treehasq1 at h
 by_cases hc1 : a1 ≥ (0 : Int)
 ·rw [if_pos hc1] at h
  have k0 := fun {A L l} (k : PL A L l) => zz 4 (xdT hc1) <|
   k
  by_cases hc2 : a1 < (((a0).l.length : Nat) : Int)
  ·rw [if_pos hc2] at h
   obtain ⟨c3_, hc3, h⟩ := oB h
   have k1 := fun {A L l} (k : PL A L l) => zz 9 (xdT hc2) <|
    yy 13 (.call (C_treeCheckq1 a0 c3_ [] [])) <|
    ww (m_treeCheckq1_ok n a0 c3_ hc3) <|
    k
   by_cases hc4 : c3_ = (0 : Int)
   ·rw [if_pos hc4] at h
    obtain rfl := oI h
    exact runF2 hm ⟨[4], [], 0, 0, [], false, [], [], []⟩ (k0 <|
     k1 <|
     zz 14 (xeT hc4) <|
     ee) (by kernel_rfl)
   ·rw [if_neg hc4] at h
    obtain rfl := oI h
    exact runF2 hm ⟨[4], [], 0, 0, [], false, [], [], []⟩ (k0 <|
     k1 <|
     zz 14 (xeF hc4) <|
     ee) (by kernel_rfl)
  ·rw [if_neg hc2] at h
   obtain rfl := oI h
   exact runF2 hm ⟨[4], [], 0, 0, [], false, [], [], []⟩ (k0 <|
    zz 9 (xdF hc2) <|
    ee) (by kernel_rfl)
 ·rw [if_neg hc1] at h
  obtain rfl := oI h
  exact runF2 hm ⟨[4], [], 0, 0, [], false, [], [], []⟩ (zz 4 (xdF hc1) <|
   ee) (by kernel_rfl)

def A_treeEndq1 (a0 : WL rw_iiiiiiLu) (a1 : Int) : List Value := [(wlV a0), (i6 a1)]
def H_treeEndq1 (a0 : WL rw_iiiiiiLu) (a1 : Int) : AH := ⟨sB [], 0, 0⟩
def V_treeEndq1 (a0 : WL rw_iiiiiiLu) (a1 : Int) (r : Int) : Value := match r with
 | o0 => (i6 o0)
def R_treeEndq1 (a0 : WL rw_iiiiiiLu) (a1 : Int) (r : Int) : AH := match r with
 | o0 => ⟨sB [], 0, 0⟩
abbrev G_treeEndq1 (a0 : WL rw_iiiiiiLu) (a1 : Int) (r : Int) : Prop := Gv P (.func 36) (A_treeEndq1 a0 a1) (H_treeEndq1 a0 a1) (V_treeEndq1 a0 a1 r) (R_treeEndq1 a0 a1 r)
abbrev C_treeEndq1 (a0 : WL rw_iiiiiiLu) (a1 : Int) (r : Int) (ins outs : BL) : CallA := ⟨0, ins, V_treeEndq1 a0 a1 r, R_treeEndq1 a0 a1 r, outs⟩
def m_treeEndq1 (n : Nat) (a0 : WL rw_iiiiiiLu) (a1 : Int) : Option (Int) :=
 (m_treehasq1 n a0 a1).bind fun c1_ =>
 if c1_ = true then
  (m_partsEndq1 n a0 a1).bind fun c3_ =>
  some c3_
 else
  some 0
theorem m_treeEndq1_ok (n : Nat) (a0 : WL rw_iiiiiiLu) (a1 : Int) (r : Int) (h : m_treeEndq1 n a0 a1 = some r) : Gv P (.func 36) (A_treeEndq1 a0 a1) (H_treeEndq1 a0 a1) (V_treeEndq1 a0 a1 r) (R_treeEndq1 a0 a1 r) := by
 unfold m_treeEndq1 at h
 obtain ⟨c1_, hc1, h⟩ := oB h
 have k0 := fun {A L l} (k : PL A L l) => yy 6 (.call (C_treehasq1 a0 a1 c1_ [] [])) <|
  ww (m_treehasq1_ok n a0 a1 c1_ hc1) <|
  k
 by_cases hc2 : c1_ = true
 ·rw [if_pos hc2] at h
  obtain ⟨c3_, hc3, h⟩ := oB h
  obtain rfl := oI h
  exact runF2 hm ⟨[4], [], 0, 0, [], false, [], [], []⟩ (k0 <|
   yy 7 (vf) <|
   ww (p := (Value.bool (!c1_)) = (Value.bool false)) (vBn hc2) <|
   yy 12 (.call (C_partsEndq1 a0 a1 c3_ [] [])) <|
   ww (m_partsEndq1_ok n a0 a1 c3_ hc3) <|
   ee) (by kernel_rfl)
 ·rw [if_neg hc2] at h
  obtain rfl := oI h
  exact runF2 hm ⟨[4], [], 0, 0, [], false, [], [], []⟩ (k0 <|
   yy 7 (vt) <|
   ww (p := (Value.bool (!c1_)) = (Value.bool true)) (vBn (Bool.eq_false_iff.2 hc2)) <|
   ee) (by kernel_rfl)

def A_splicemetsq1 (a0 : WL rw_iiiiiiLu) (a1 : Int) (a2 : Int) : List Value := [(wlV a0), (i6 a1), (i6 a2)]
def H_splicemetsq1 (a0 : WL rw_iiiiiiLu) (a1 : Int) (a2 : Int) : AH := ⟨sB [], 0, 0⟩
def V_splicemetsq1 (a0 : WL rw_iiiiiiLu) (a1 : Int) (a2 : Int) (r : Unit) : Value := match r with
 | _ => (Value.func (.func 60) #[] #[(pN 0 0), (pN 1 0), (pN 2 0)])
def R_splicemetsq1 (a0 : WL rw_iiiiiiLu) (a1 : Int) (a2 : Int) (r : Unit) : AH := match r with
 | _ => ⟨sB [(0, (some (.cells (layT [(wlV a0)]) 22))), (1, (some (.cells (layT [(i6 a1)]) 3))), (2, (some (.cells (layT [(i6 a2)]) 3)))], 3, 0⟩
abbrev G_splicemetsq1 (a0 : WL rw_iiiiiiLu) (a1 : Int) (a2 : Int) (r : Unit) : Prop := Gv P (.func 35) (A_splicemetsq1 a0 a1 a2) (H_splicemetsq1 a0 a1 a2) (V_splicemetsq1 a0 a1 a2 r) (R_splicemetsq1 a0 a1 a2 r)
abbrev C_splicemetsq1 (a0 : WL rw_iiiiiiLu) (a1 : Int) (a2 : Int) (r : Unit) (ins outs : BL) : CallA := ⟨0, ins, V_splicemetsq1 a0 a1 a2 r, R_splicemetsq1 a0 a1 a2 r, outs⟩
def m_splicemetsq1 (n : Nat) (a0 : WL rw_iiiiiiLu) (a1 : Int) (a2 : Int) : Option (Unit) :=
 some ()
theorem m_splicemetsq1_ok (n : Nat) (a0 : WL rw_iiiiiiLu) (a1 : Int) (a2 : Int) (r : Unit) (h : m_splicemetsq1 n a0 a1 a2 = some r) : Gv P (.func 35) (A_splicemetsq1 a0 a1 a2) (H_splicemetsq1 a0 a1 a2) (V_splicemetsq1 a0 a1 a2 r) (R_splicemetsq1 a0 a1 a2 r) := by
 unfold m_splicemetsq1 at h
 obtain rfl := oI h
 exact runF2 hm ⟨[6], [(0, 0, false), (1, 1, false), (2, 2, false)], 3, 0, [], false, [], [], []⟩ (ee) (by kernel_rfl)

def A_splicegather1q1 (a0 : Int) (a1 : Int) : List Value := [(Value.int .u64 a0), (Value.int .u64 a1)]
def H_splicegather1q1 (a0 : Int) (a1 : Int) : AH := ⟨sB [], 0, 0⟩
def V_splicegather1q1 (a0 : Int) (a1 : Int) (r : Int) : Value := match r with
 | o0 => (Value.int .u64 o0)
def R_splicegather1q1 (a0 : Int) (a1 : Int) (r : Int) : AH := match r with
 | o0 => ⟨sB [], 0, 0⟩
abbrev G_splicegather1q1 (a0 : Int) (a1 : Int) (r : Int) : Prop := Gv P (.func 59) (A_splicegather1q1 a0 a1) (H_splicegather1q1 a0 a1) (V_splicegather1q1 a0 a1 r) (R_splicegather1q1 a0 a1 r)
abbrev C_splicegather1q1 (a0 : Int) (a1 : Int) (r : Int) (ins outs : BL) : CallA := ⟨0, ins, V_splicegather1q1 a0 a1 r, R_splicegather1q1 a0 a1 r, outs⟩
def m_splicegather1q1 (n : Nat) (a0 : Int) (a1 : Int) : Option (Int) :=
 some (bOr .u64 a0 a1)
theorem m_splicegather1q1_ok (n : Nat) (a0 : Int) (a1 : Int) (r : Int) (h : m_splicegather1q1 n a0 a1 = some r) : Gv P (.func 59) (A_splicegather1q1 a0 a1) (H_splicegather1q1 a0 a1) (V_splicegather1q1 a0 a1 r) (R_splicegather1q1 a0 a1 r) := by
 unfold m_splicegather1q1 at h
 obtain rfl := oI h
 exact runF2 hm ⟨[4], [], 0, 0, [], false, [], [], []⟩ (ee) (by kernel_rfl)

def A_foldOveruint64uint64_1010y1 (a0 : Int) (a1 : WL rw_iiiiiiLu) (a2 : Int) (a3 : Int) (a4 : Int) : List Value := [(Value.int .u64 a4)]
def H_foldOveruint64uint64_1010y1 (a0 : Int) (a1 : WL rw_iiiiiiLu) (a2 : Int) (a3 : Int) (a4 : Int) : AH := ⟨sB [(0, (some (rblk P 58 [false, true, false, true] .ready none [(4, (pN 2 0)), (5, (pN 3 0)), (8, (Value.func (.func 60) #[] #[(pN 4 0), (pN 5 0), (pN 6 0)]))] 1))), (1, (some (.marks true))), (2, (some (.cells (layT [(Value.int .u64 a0)]) 41))), (3, (some (.cells (layT [(Value.func (.func 59) #[] #[])]) 70))), (4, (some (.cells (layT [(wlV a1)]) 22))), (5, (some (.cells (layT [(i6 a2)]) 3))), (6, (some (.cells (layT [(i6 a3)]) 3)))], 7, 7⟩
def V_foldOveruint64uint64_1010y1 (a0 : Int) (a1 : WL rw_iiiiiiLu) (a2 : Int) (a3 : Int) (a4 : Int) (r : Int) : Value := match r with
 | o0 => (bO true)
def R_foldOveruint64uint64_1010y1 (a0 : Int) (a1 : WL rw_iiiiiiLu) (a2 : Int) (a3 : Int) (a4 : Int) (r : Int) : AH := match r with
 | o0 => ⟨sB [(0, (some (rblk P 58 [false, true, false, true] .ready none [(4, (pN 2 0)), (5, (pN 3 0)), (8, (Value.func (.func 60) #[] #[(pN 4 0), (pN 5 0), (pN 6 0)]))] 1))), (1, (some (.marks true))), (2, (some (.cells (layT [(Value.int .u64 o0)]) 41))), (3, (some (.cells (layT [(Value.func (.func 59) #[] #[])]) 70))), (4, (some (.cells (layT [(wlV a1)]) 22))), (5, (some (.cells (layT [(i6 a2)]) 3))), (6, (some (.cells (layT [(i6 a3)]) 3)))], 7, 0⟩
abbrev G_foldOveruint64uint64_1010y1 (a0 : Int) (a1 : WL rw_iiiiiiLu) (a2 : Int) (a3 : Int) (a4 : Int) (r : Int) : Prop := Gv P (.yield 0) (A_foldOveruint64uint64_1010y1 a0 a1 a2 a3 a4) (H_foldOveruint64uint64_1010y1 a0 a1 a2 a3 a4) (V_foldOveruint64uint64_1010y1 a0 a1 a2 a3 a4 r) (R_foldOveruint64uint64_1010y1 a0 a1 a2 a3 a4 r)
abbrev C_foldOveruint64uint64_1010y1 (a0 : Int) (a1 : WL rw_iiiiiiLu) (a2 : Int) (a3 : Int) (a4 : Int) (r : Int) (ins outs : BL) : CallA := ⟨7, ins, V_foldOveruint64uint64_1010y1 a0 a1 a2 a3 a4 r, R_foldOveruint64uint64_1010y1 a0 a1 a2 a3 a4 r, outs⟩
def m_foldOveruint64uint64_1010y1 (n : Nat) (a0 : Int) (a1 : WL rw_iiiiiiLu) (a2 : Int) (a3 : Int) (a4 : Int) : Option (Int) :=
 (m_splicegather1q1 n a0 a4).bind fun c1_ =>
 some c1_
theorem m_foldOveruint64uint64_1010y1_ok (n : Nat) (a0 : Int) (a1 : WL rw_iiiiiiLu) (a2 : Int) (a3 : Int) (a4 : Int) (r : Int) (h : m_foldOveruint64uint64_1010y1 n a0 a1 a2 a3 a4 = some r) : Gv P (.yield 0) (A_foldOveruint64uint64_1010y1 a0 a1 a2 a3 a4) (H_foldOveruint64uint64_1010y1 a0 a1 a2 a3 a4) (V_foldOveruint64uint64_1010y1 a0 a1 a2 a3 a4 r) (R_foldOveruint64uint64_1010y1 a0 a1 a2 a3 a4 r) := by
 unfold m_foldOveruint64uint64_1010y1 at h
 obtain ⟨c1_, hc1, h⟩ := oB h
 obtain rfl := oI h
 exact runY2 hm ⟨[], [(0, 0, false), (1, 1, false), (2, 2, false), (3, 3, false), (4, 4, false), (5, 5, false), (6, 6, false)], 7, 0, [], false, [], [], []⟩ (ee) (yy 4 (.call (C_splicegather1q1 a0 a4 c1_ [] [])) <|
  ww (m_splicegather1q1_ok n a0 a4 c1_ hc1) <|
  ee) (by kernel_rfl)

def A_splicemets1q1 (a0 : Int) (a1 : WL rw_iiiiiiLu) (a2 : Int) (a3 : Int) : List Value := [(Value.func (.yield 0) #[] #[]), (pN 4 0), (pN 5 0), (pN 6 0)]
def H_splicemets1q1 (a0 : Int) (a1 : WL rw_iiiiiiLu) (a2 : Int) (a3 : Int) : AH := ⟨sB [(0, (some (rblk P 58 [false, true, false, true] .ready none [(4, (pN 2 0)), (5, (pN 3 0)), (8, (Value.func (.func 60) #[] #[(pN 4 0), (pN 5 0), (pN 6 0)]))] 1))), (1, (some (.marks true))), (2, (some (.cells (layT [(Value.int .u64 a0)]) 41))), (3, (some (.cells (layT [(Value.func (.func 59) #[] #[])]) 70))), (4, (some (.cells (layT [(wlV a1)]) 22))), (5, (some (.cells (layT [(i6 a2)]) 3))), (6, (some (.cells (layT [(i6 a3)]) 3)))], 7, 7⟩
def V_splicemets1q1 (a0 : Int) (a1 : WL rw_iiiiiiLu) (a2 : Int) (a3 : Int) (r : Int) : Value := match r with
 | o0 => (Value.tuple #[])
def R_splicemets1q1 (a0 : Int) (a1 : WL rw_iiiiiiLu) (a2 : Int) (a3 : Int) (r : Int) : AH := match r with
 | o0 => ⟨sB [(0, (some (rblk P 58 [false, true, false, true] .ready none [(4, (pN 2 0)), (5, (pN 3 0)), (8, (Value.func (.func 60) #[] #[(pN 4 0), (pN 5 0), (pN 6 0)]))] 1))), (1, (some (.marks true))), (2, (some (.cells (layT [(Value.int .u64 o0)]) 41))), (3, (some (.cells (layT [(Value.func (.func 59) #[] #[])]) 70))), (4, (some (.cells (layT [(wlV a1)]) 22))), (5, (some (.cells (layT [(i6 a2)]) 3))), (6, (some (.cells (layT [(i6 a3)]) 3)))], 7, 0⟩
abbrev G_splicemets1q1 (a0 : Int) (a1 : WL rw_iiiiiiLu) (a2 : Int) (a3 : Int) (r : Int) : Prop := Gv P (.func 60) (A_splicemets1q1 a0 a1 a2 a3) (H_splicemets1q1 a0 a1 a2 a3) (V_splicemets1q1 a0 a1 a2 a3 r) (R_splicemets1q1 a0 a1 a2 a3 r)
abbrev C_splicemets1q1 (a0 : Int) (a1 : WL rw_iiiiiiLu) (a2 : Int) (a3 : Int) (r : Int) (ins outs : BL) : CallA := ⟨7, ins, V_splicemets1q1 a0 a1 a2 a3 r, R_splicemets1q1 a0 a1 a2 a3 r, outs⟩
def S_splicemets1q1_1 (x1_1 : WL rw_iiiiiiLu) (x1_2 : Int) (x1_3 : Int) (x1_4 : WL rw_iiiiiiLu) (x1_5 : Int) (st : Int × Int) : XSt := match st with
 | (x1_0, x1_6) => (sT 22 [(0, (Value.func (.yield 0) #[] #[])), (10, (wlV x1_4)), (11, (i6 x1_5)), (12, (i6 x1_6))], [], ⟨sB [(0, (some (rblk P 58 [false, true, false, true] .ready none [(4, (pN 2 0)), (5, (pN 3 0)), (8, (Value.func (.func 60) #[] #[(pN 4 0), (pN 5 0), (pN 6 0)]))] 1))), (1, (some (.marks true))), (2, (some (.cells (layT [(Value.int .u64 x1_0)]) 41))), (3, (some (.cells (layT [(Value.func (.func 59) #[] #[])]) 70))), (4, (some (.cells (layT [(wlV x1_1)]) 22))), (5, (some (.cells (layT [(i6 x1_2)]) 3))), (6, (some (.cells (layT [(i6 x1_3)]) 3)))], 7, 0⟩)
def X_splicemets1q1_1 (x1_1 : WL rw_iiiiiiLu) (x1_2 : Int) (x1_3 : Int) (x1_4 : WL rw_iiiiiiLu) (x1_5 : Int) (r : Int) : Ex × XSt := match r with
 | z1_0 => (.exit 0, (sT 22 [], [], ⟨sB [(0, (some (rblk P 58 [false, true, false, true] .ready none [(4, (pN 2 0)), (5, (pN 3 0)), (8, (Value.func (.func 60) #[] #[(pN 4 0), (pN 5 0), (pN 6 0)]))] 1))), (1, (some (.marks true))), (2, (some (.cells (layT [(Value.int .u64 z1_0)]) 41))), (3, (some (.cells (layT [(Value.func (.func 59) #[] #[])]) 70))), (4, (some (.cells (layT [(wlV x1_1)]) 22))), (5, (some (.cells (layT [(i6 x1_2)]) 3))), (6, (some (.cells (layT [(i6 x1_3)]) 3)))], 7, 0⟩))
abbrev Q_splicemets1q1_1 (rnd : Option Nat) (x1_1 : WL rw_iiiiiiLu) (x1_2 : Int) (x1_3 : Int) (x1_4 : WL rw_iiiiiiLu) (x1_5 : Int) (st : Int × Int) (c : Ex × XSt) : Prop := CG P rnd (fnN P 60) 7 (codeOf P 60 [false, false, true]) (S_splicemets1q1_1 x1_1 x1_2 x1_3 x1_4 x1_5 st) c
abbrev U_splicemets1q1_1 (rd : Option Nat) (x1_1 : WL rw_iiiiiiLu) (x1_2 : Int) (x1_3 : Int) (x1_4 : WL rw_iiiiiiLu) (x1_5 : Int) (st : Int × Int) (r : Int) : Prop := CG P rd (fnN P 60) 7 (codeOf P 60 [false, true]) (S_splicemets1q1_1 x1_1 x1_2 x1_3 x1_4 x1_5 st) (X_splicemets1q1_1 x1_1 x1_2 x1_3 x1_4 x1_5 r)
def B_splicemets1q1_1 (n : Nat) (x1_1 : WL rw_iiiiiiLu) (x1_2 : Int) (x1_3 : Int) (x1_4 : WL rw_iiiiiiLu) (x1_5 : Int) (st : Int × Int) : Option ((Int × Int) ⊕ (Int)) := match st with
 | (x1_0, x1_6) =>
  if x1_6 < x1_5 then
   if 0 ≤ x1_6 ∧ x1_6 < (((x1_4).l.length : Nat) : Int) then
    ((some (((x1_4).l).getD (x1_6).toNat (0, 0, 0, 0, 0, 0, nl0, 0)))).bind fun y1_3_ =>
    (m_foldOveruint64uint64_1010y1 n x1_0 x1_1 x1_2 x1_3 (y1_3_.2.2.2.2.2.2.2)).bind fun y1_4_ =>
    some (.inl (y1_4_, (w64 (x1_6 + (1 : Int)))))
   else none
  else
   some (.inr x1_0)
def m_splicemets1q1_1 (n : Nat) (x1_1 : WL rw_iiiiiiLu) (x1_2 : Int) (x1_3 : Int) (x1_4 : WL rw_iiiiiiLu) (x1_5 : Int) (st : Int × Int) : Option (Int) := iterM (B_splicemets1q1_1 n x1_1 x1_2 x1_3 x1_4 x1_5) n st
theorem b_splicemets1q1_1 (n : Nat) {rnd : Option Nat} (x1_1 : WL rw_iiiiiiLu) (x1_2 : Int) (x1_3 : Int) (x1_4 : WL rw_iiiiiiLu) (x1_5 : Int) (st : Int × Int) (o : (Int × Int) ⊕ (Int)) (h : B_splicemets1q1_1 n x1_1 x1_2 x1_3 x1_4 x1_5 st = some o) : CG P rnd (fnN P 60) 7 (codeOf P 60 [false, false, true]) (S_splicemets1q1_1 x1_1 x1_2 x1_3 x1_4 x1_5 st) (Sum.elim (fun s => (.normal, S_splicemets1q1_1 x1_1 x1_2 x1_3 x1_4 x1_5 s)) (fun r => X_splicemets1q1_1 x1_1 x1_2 x1_3 x1_4 x1_5 r) o) := by
 obtain ⟨x1_0, x1_6⟩ := st
 unfold B_splicemets1q1_1 at h
 dsimp only at h
 by_cases hy1_1 : x1_6 < x1_5
 ·rw [if_pos hy1_1] at h
  obtain ⟨hy1_2, h⟩ := gd h
  obtain ⟨y1_3_, hy1_3, h⟩ := oB h
  obtain ⟨y1_4_, hy1_4, h⟩ := oB h
  obtain rfl := oI h
  exact runC2 hm ⟨[0, 10, 11, 12], [(0, 0, false), (1, 1, false), (2, 2, false), (3, 3, false), (4, 4, false), (5, 5, false), (6, 6, false)], 7, 0, [], false, [], [], []⟩ (zz 1 (xdT hy1_1) <|
   zz 7 (xk1 (x1_4).num (x1_4).off (x1_4).cap hy1_2) <|
   zz 8 (lk2 hy1_3 (toNatLt hy1_2)) <|
   yy 15 (.call (C_foldOveruint64uint64_1010y1 x1_0 x1_1 x1_2 x1_3 (y1_3_.2.2.2.2.2.2.2) y1_4_ [(0, 0, false), (1, 1, false), (2, 2, false), (3, 3, false), (4, 4, false), (5, 5, false), (6, 6, false)] [(0, 0, false), (1, 1, false), (2, 2, false), (3, 3, false), (4, 4, false), (5, 5, false), (6, 6, false)])) <|
   ww (m_foldOveruint64uint64_1010y1_ok n x1_0 x1_1 x1_2 x1_3 (y1_3_.2.2.2.2.2.2.2) y1_4_ hy1_4) <|
   ee) (by kernel_rfl)
 ·rw [if_neg hy1_1] at h
  obtain rfl := oI h
  exact runC2 hm ⟨[], [(0, 0, false), (1, 1, false), (2, 2, false), (3, 3, false), (4, 4, false), (5, 5, false), (6, 6, false)], 7, 0, [], false, [], [], []⟩ (zz 1 (xdF hy1_1) <|
   ee) (by kernel_rfl)
theorem m_splicemets1q1_1_ok (n : Nat) {rnd : Option Nat} (x1_1 : WL rw_iiiiiiLu) (x1_2 : Int) (x1_3 : Int) (x1_4 : WL rw_iiiiiiLu) (x1_5 : Int) (st : Int × Int) (r : Int) (h : m_splicemets1q1_1 n x1_1 x1_2 x1_3 x1_4 x1_5 st = some r) : CG P rnd (fnN P 60) 7 (codeOf P 60 [false, true]) (S_splicemets1q1_1 x1_1 x1_2 x1_3 x1_4 x1_5 st) (X_splicemets1q1_1 x1_1 x1_2 x1_3 x1_4 x1_5 r) :=
 CG.iter (b := codeOf P 60 [false, false, true]) (by kernel_rfl) (body := B_splicemets1q1_1 n x1_1 x1_2 x1_3 x1_4 x1_5) (S := S_splicemets1q1_1 x1_1 x1_2 x1_3 x1_4 x1_5) (X := X_splicemets1q1_1 x1_1 x1_2 x1_3 x1_4 x1_5)
  (fun s s' h => b_splicemets1q1_1 n x1_1 x1_2 x1_3 x1_4 x1_5 s (.inl s') h)
  (fun s r h => b_splicemets1q1_1 n x1_1 x1_2 x1_3 x1_4 x1_5 s (.inr r) h)
  (fun r => by intro hx; cases hx) h
def m_splicemets1q1 (n : Nat) (a0 : Int) (a1 : WL rw_iiiiiiLu) (a2 : Int) (a3 : Int) : Option (Int) :=
 if 0 ≤ a2 then
  if 0 ≤ a3 then
   if hc3 : (a2).toNat ≤ (a3).toNat ∧ (a3).toNat ≤ (a1).l.length then
    (m_splicemets1q1_1 n a1 a2 a3 (wlSub rwf_iiiiiiLu a1 (a2).toNat (a3).toNat hc3) ((((wlSub rwf_iiiiiiLu a1 (a2).toNat (a3).toNat hc3)).l.length : Nat) : Int) (a0, 0)).bind fun c4_ =>
    some c4_
   else none
  else none
 else none
theorem m_splicemets1q1_ok (n : Nat) (a0 : Int) (a1 : WL rw_iiiiiiLu) (a2 : Int) (a3 : Int) (r : Int) (h : m_splicemets1q1 n a0 a1 a2 a3 = some r) : Gv P (.func 60) (A_splicemets1q1 a0 a1 a2 a3) (H_splicemets1q1 a0 a1 a2 a3) (V_splicemets1q1 a0 a1 a2 a3 r) (R_splicemets1q1 a0 a1 a2 a3 r) := by
 unfold m_splicemets1q1 at h
 obtain ⟨hc1, h⟩ := gd h
 obtain ⟨hc2, h⟩ := gd h
 obtain ⟨hc3, h⟩ := gdD h
 replace h := oB h
 obtain ⟨c4_, hc4, h⟩ := h
 obtain rfl := oI h
 exact runF2 hm ⟨[], [(0, 0, false), (1, 1, false), (2, 2, false), (3, 3, false), (4, 4, false), (5, 5, false), (6, 6, false)], 7, 0, [], false, [], [], []⟩ (yy 4 (.pur (wlV (wlSub rwf_iiiiiiLu a1 (a2).toNat (a3).toNat hc3))) <|
  ww (p := opSlice P 22 (wlV a1) (some (i6 a2)) (some (i6 a3)) none Ax.h0 = some ((wlV (wlSub rwf_iiiiiiLu a1 (a2).toNat (a3).toNat hc3)), Ax.h0)) (slWL (e := 49) rwf_iiiiiiLu a1 (by kernel_rfl) (by kernel_rfl) (bnd_int hc1) (bnd_int hc2) hc3) <|
  ww (p := U_splicemets1q1_1 none a1 a2 a3 (wlSub rwf_iiiiiiLu a1 (a2).toNat (a3).toNat hc3) ((((wlSub rwf_iiiiiiLu a1 (a2).toNat (a3).toNat hc3)).l.length : Nat) : Int) (a0, 0) c4_) (m_splicemets1q1_1_ok n a1 a2 a3 (wlSub rwf_iiiiiiLu a1 (a2).toNat (a3).toNat hc3) ((((wlSub rwf_iiiiiiLu a1 (a2).toNat (a3).toNat hc3)).l.length : Nat) : Int) (a0, 0) c4_ hc4) <|
  ll 8 ⟨⟨[0, 10, 11, 12], [(0, 0, false), (1, 1, false), (2, 2, false), (3, 3, false), (4, 4, false), (5, 5, false), (6, 6, false)], 7, 0, [], false, [], [], []⟩, (X_splicemets1q1_1 a1 a2 a3 (wlSub rwf_iiiiiiLu a1 (a2).toNat (a3).toNat hc3) ((((wlSub rwf_iiiiiiLu a1 (a2).toNat (a3).toNat hc3)).l.length : Nat) : Int) c4_).1, (X_splicemets1q1_1 a1 a2 a3 (wlSub rwf_iiiiiiLu a1 (a2).toNat (a3).toNat hc3) ((((wlSub rwf_iiiiiiLu a1 (a2).toNat (a3).toNat hc3)).l.length : Nat) : Int) c4_).2⟩ <|
  ee) (by kernel_rfl)

def A_foldOveruint64uint64q1 (a0 : WL rw_iiiiiiLu) (a1 : Int) (a2 : Int) (a3 : Int) : List Value := [(Value.func (.func 60) #[] #[(pN 0 0), (pN 1 0), (pN 2 0)]), (Value.int .u64 a3), (Value.func (.func 59) #[] #[])]
def H_foldOveruint64uint64q1 (a0 : WL rw_iiiiiiLu) (a1 : Int) (a2 : Int) (a3 : Int) : AH := ⟨sB [(0, (some (.cells (layT [(wlV a0)]) 22))), (1, (some (.cells (layT [(i6 a1)]) 3))), (2, (some (.cells (layT [(i6 a2)]) 3)))], 3, 3⟩
def V_foldOveruint64uint64q1 (a0 : WL rw_iiiiiiLu) (a1 : Int) (a2 : Int) (a3 : Int) (r : Int) : Value := match r with
 | o0 => (Value.int .u64 o0)
def R_foldOveruint64uint64q1 (a0 : WL rw_iiiiiiLu) (a1 : Int) (a2 : Int) (a3 : Int) (r : Int) : AH := match r with
 | o0 => ⟨sB [(0, (some (.cells (layT [(wlV a0)]) 22))), (1, (some (.cells (layT [(i6 a1)]) 3))), (2, (some (.cells (layT [(i6 a2)]) 3))), (3, (some (.marks false)))], 4, 0⟩
abbrev G_foldOveruint64uint64q1 (a0 : WL rw_iiiiiiLu) (a1 : Int) (a2 : Int) (a3 : Int) (r : Int) : Prop := Gv P (.func 58) (A_foldOveruint64uint64q1 a0 a1 a2 a3) (H_foldOveruint64uint64q1 a0 a1 a2 a3) (V_foldOveruint64uint64q1 a0 a1 a2 a3 r) (R_foldOveruint64uint64q1 a0 a1 a2 a3 r)
abbrev C_foldOveruint64uint64q1 (a0 : WL rw_iiiiiiLu) (a1 : Int) (a2 : Int) (a3 : Int) (r : Int) (ins outs : BL) : CallA := ⟨3, ins, V_foldOveruint64uint64q1 a0 a1 a2 a3 r, R_foldOveruint64uint64q1 a0 a1 a2 a3 r, outs⟩
def m_foldOveruint64uint64q1 (n : Nat) (a0 : WL rw_iiiiiiLu) (a1 : Int) (a2 : Int) (a3 : Int) : Option (Int) :=
 (m_splicemets1q1 n a3 a0 a1 a2).bind fun c1_ =>
 some c1_
theorem m_foldOveruint64uint64q1_ok (n : Nat) (a0 : WL rw_iiiiiiLu) (a1 : Int) (a2 : Int) (a3 : Int) (r : Int) (h : m_foldOveruint64uint64q1 n a0 a1 a2 a3 = some r) : Gv P (.func 58) (A_foldOveruint64uint64q1 a0 a1 a2 a3) (H_foldOveruint64uint64q1 a0 a1 a2 a3) (V_foldOveruint64uint64q1 a0 a1 a2 a3 r) (R_foldOveruint64uint64q1 a0 a1 a2 a3 r) := by
 unfold m_foldOveruint64uint64q1 at h
 obtain ⟨c1_, hc1, h⟩ := oB h
 obtain rfl := oI h
 exact runF2 hm ⟨[6], [(0, 0, false), (1, 1, false), (2, 2, false), (3, 5, false)], 4, 0, [], false, [], [], []⟩ (yy 8 (.rng (C_splicemets1q1 a3 a0 a1 a2 c1_ [(0, 6, false), (1, 5, false), (2, 3, false), (3, 4, false), (4, 0, false), (5, 1, false), (6, 2, false)] [(6, 0, false), (5, 1, false), (3, 2, false), (4, 3, false), (0, 4, false), (1, 5, false), (2, 6, false)]) [4, 5, 8]) <|
  ww (m_splicemets1q1_ok n a3 a0 a1 a2 c1_ hc1) <|
  ee) (by kernel_rfl)

def A_splicegatherq1 (a0 : WL rw_iiiiiiLu) (a1 : Int) (a2 : Int) : List Value := [(Value.func (.func 60) #[] #[(pN 0 0), (pN 1 0), (pN 2 0)])]
def H_splicegatherq1 (a0 : WL rw_iiiiiiLu) (a1 : Int) (a2 : Int) : AH := ⟨sB [(0, (some (.cells (layT [(wlV a0)]) 22))), (1, (some (.cells (layT [(i6 a1)]) 3))), (2, (some (.cells (layT [(i6 a2)]) 3)))], 3, 3⟩
def V_splicegatherq1 (a0 : WL rw_iiiiiiLu) (a1 : Int) (a2 : Int) (r : Int) : Value := match r with
 | o0 => (Value.int .u64 o0)
def R_splicegatherq1 (a0 : WL rw_iiiiiiLu) (a1 : Int) (a2 : Int) (r : Int) : AH := match r with
 | o0 => ⟨sB [(0, (some (.cells (layT [(wlV a0)]) 22))), (1, (some (.cells (layT [(i6 a1)]) 3))), (2, (some (.cells (layT [(i6 a2)]) 3)))], 3, 0⟩
abbrev G_splicegatherq1 (a0 : WL rw_iiiiiiLu) (a1 : Int) (a2 : Int) (r : Int) : Prop := Gv P (.func 34) (A_splicegatherq1 a0 a1 a2) (H_splicegatherq1 a0 a1 a2) (V_splicegatherq1 a0 a1 a2 r) (R_splicegatherq1 a0 a1 a2 r)
abbrev C_splicegatherq1 (a0 : WL rw_iiiiiiLu) (a1 : Int) (a2 : Int) (r : Int) (ins outs : BL) : CallA := ⟨3, ins, V_splicegatherq1 a0 a1 a2 r, R_splicegatherq1 a0 a1 a2 r, outs⟩
def m_splicegatherq1 (n : Nat) (a0 : WL rw_iiiiiiLu) (a1 : Int) (a2 : Int) : Option (Int) :=
 (m_foldOveruint64uint64q1 n a0 a1 a2 0).bind fun c1_ =>
 some c1_
theorem m_splicegatherq1_ok (n : Nat) (a0 : WL rw_iiiiiiLu) (a1 : Int) (a2 : Int) (r : Int) (h : m_splicegatherq1 n a0 a1 a2 = some r) : Gv P (.func 34) (A_splicegatherq1 a0 a1 a2) (H_splicegatherq1 a0 a1 a2) (V_splicegatherq1 a0 a1 a2 r) (R_splicegatherq1 a0 a1 a2 r) := by
 unfold m_splicegatherq1 at h
 obtain ⟨c1_, hc1, h⟩ := oB h
 obtain rfl := oI h
 exact runF2 hm ⟨[2], [(0, 0, false), (1, 1, false), (2, 2, false)], 3, 0, [], false, [], [], []⟩ (yy 4 (.call (C_foldOveruint64uint64q1 a0 a1 a2 0 c1_ [(0, 0, false), (1, 1, false), (2, 2, false)] [(0, 0, false), (1, 1, false), (2, 2, false)])) <|
  ww (m_foldOveruint64uint64q1_ok n a0 a1 a2 0 c1_ hc1) <|
  ee) (by kernel_rfl)

def A_treeParentsq1 (a0 : WL rw_iiiiiiLu) : List Value := [(wlV a0)]
def H_treeParentsq1 (a0 : WL rw_iiiiiiLu) : AH := ⟨sB [], 0, 0⟩
def V_treeParentsq1 (a0 : WL rw_iiiiiiLu) (r : NL) : Value := match r with
 | o0 => (nlV o0)
def R_treeParentsq1 (a0 : WL rw_iiiiiiLu) (r : NL) : AH := match r with
 | o0 => ⟨sB [], 0, 0⟩
abbrev G_treeParentsq1 (a0 : WL rw_iiiiiiLu) (r : NL) : Prop := Gv P (.func 37) (A_treeParentsq1 a0) (H_treeParentsq1 a0) (V_treeParentsq1 a0 r) (R_treeParentsq1 a0 r)
abbrev C_treeParentsq1 (a0 : WL rw_iiiiiiLu) (r : NL) (ins outs : BL) : CallA := ⟨0, ins, V_treeParentsq1 a0 r, R_treeParentsq1 a0 r, outs⟩
def S_treeParentsq1_2 (x2_1 : Nat) (x2_2 : Int) (x2_3 : WL rw_iiiiiiLu) (x2_4 : Int) (x2_5 : NL) (x2_6 : Int) (st : List Int × Int) : XSt := match st with
 | (x2_0, x2_7) => (sT 37 [(3, (sN 0 0 x2_1 x2_1)), (4, (i6 x2_2)), (16, (wlV x2_3)), (17, (i6 x2_4)), (18, (i6 x2_2)), (24, (nlV x2_5)), (25, (i6 x2_6)), (26, (i6 x2_7))], [], ⟨sB [(0, (some (.cells (layT (iv x2_0)) 3)))], 1, 0⟩)
def X_treeParentsq1_2 (x2_1 : Nat) (x2_2 : Int) (x2_3 : WL rw_iiiiiiLu) (x2_4 : Int) (x2_5 : NL) (x2_6 : Int) (r : List Int) : Ex × XSt := match r with
 | z2_0 => (.exit 2, (sT 37 [(3, (sN 0 0 x2_1 x2_1)), (16, (wlV x2_3)), (17, (i6 x2_4)), (18, (i6 x2_2))], [], ⟨sB [(0, (some (.cells (layT (iv z2_0)) 3)))], 1, 0⟩))
abbrev Q_treeParentsq1_2 (rnd : Option Nat) (x2_1 : Nat) (x2_2 : Int) (x2_3 : WL rw_iiiiiiLu) (x2_4 : Int) (x2_5 : NL) (x2_6 : Int) (st : List Int × Int) (c : Ex × XSt) : Prop := CG P rnd (fnN P 37) 0 (codeOf P 37 [false, false, true, true, false, false, true, true, false, false, true, false, true, true, true, true]) (S_treeParentsq1_2 x2_1 x2_2 x2_3 x2_4 x2_5 x2_6 st) c
abbrev U_treeParentsq1_2 (rd : Option Nat) (x2_1 : Nat) (x2_2 : Int) (x2_3 : WL rw_iiiiiiLu) (x2_4 : Int) (x2_5 : NL) (x2_6 : Int) (st : List Int × Int) (r : List Int) : Prop := CG P rd (fnN P 37) 0 (codeOf P 37 [false, true, true, false, false, true, true, false, false, true, false, true, true, true, true]) (S_treeParentsq1_2 x2_1 x2_2 x2_3 x2_4 x2_5 x2_6 st) (X_treeParentsq1_2 x2_1 x2_2 x2_3 x2_4 x2_5 x2_6 r)
def B_treeParentsq1_2 (n : Nat) (x2_1 : Nat) (x2_2 : Int) (x2_3 : WL rw_iiiiiiLu) (x2_4 : Int) (x2_5 : NL) (x2_6 : Int) (st : List Int × Int) : Option ((List Int × Int) ⊕ (List Int)) := match st with
 | (x2_0, x2_7) =>
  if x2_7 < x2_6 then
   if 0 ≤ x2_7 ∧ x2_7 < (((x2_5).l.length : Nat) : Int) then
    if (x2_7).toNat < ((x2_5).l).length then
     ((some (((x2_5).l).getD (x2_7).toNat 0))).bind fun y2_4_ =>
     if 0 ≤ y2_4_ ∧ y2_4_ < ((x2_1 : Nat) : Int) then
      if (y2_4_).toNat < (x2_0).length then
       some (.inl (((x2_0).set (y2_4_).toNat x2_2), (w64 (x2_7 + (1 : Int)))))
      else none
     else none
    else none
   else none
  else
   some (.inr x2_0)
def m_treeParentsq1_2 (n : Nat) (x2_1 : Nat) (x2_2 : Int) (x2_3 : WL rw_iiiiiiLu) (x2_4 : Int) (x2_5 : NL) (x2_6 : Int) (st : List Int × Int) : Option (List Int) := iterM (B_treeParentsq1_2 n x2_1 x2_2 x2_3 x2_4 x2_5 x2_6) n st
theorem b_treeParentsq1_2 (n : Nat) {rnd : Option Nat} (x2_1 : Nat) (x2_2 : Int) (x2_3 : WL rw_iiiiiiLu) (x2_4 : Int) (x2_5 : NL) (x2_6 : Int) (st : List Int × Int) (o : (List Int × Int) ⊕ (List Int)) (h : B_treeParentsq1_2 n x2_1 x2_2 x2_3 x2_4 x2_5 x2_6 st = some o) : CG P rnd (fnN P 37) 0 (codeOf P 37 [false, false, true, true, false, false, true, true, false, false, true, false, true, true, true, true]) (S_treeParentsq1_2 x2_1 x2_2 x2_3 x2_4 x2_5 x2_6 st) (Sum.elim (fun s => (.normal, S_treeParentsq1_2 x2_1 x2_2 x2_3 x2_4 x2_5 x2_6 s)) (fun r => X_treeParentsq1_2 x2_1 x2_2 x2_3 x2_4 x2_5 x2_6 r) o) := by
 obtain ⟨x2_0, x2_7⟩ := st
 unfold B_treeParentsq1_2 at h
 dsimp only at h
 by_cases hy2_1 : x2_7 < x2_6
 ·rw [if_pos hy2_1] at h
  obtain ⟨hy2_2, h⟩ := gd h
  obtain ⟨hy2_3, h⟩ := gd h
  obtain ⟨y2_4_, hy2_4, h⟩ := oB h
  obtain ⟨hy2_5, h⟩ := gd h
  obtain ⟨hy2_6, h⟩ := gd h
  obtain rfl := oI h
  exact runC2 hm ⟨[3, 4, 16, 17, 18, 24, 25, 26], [(0, 0, true)], 1, 0, [], false, [], [], []⟩ (zz 1 (xdT hy2_1) <|
   zz 7 (xk9 (Nat.add (x2_5).num 64) (x2_5).off (x2_5).cap hy2_2) <|
   zz 8 (nk10 hy2_4 hy2_3) <|
   zz 13 (xk17 0 x2_1 hy2_5) <|
   yy 14 (.sto (layT (iv ((x2_0).set (y2_4_).toNat x2_2)))) <|
   ww (p := ∃ old, rdT (layT (iv x2_0)) 1 (y2_4_).toNat = some old) (Exists.elim (iv_st (x2_0) ((y2_4_).toNat) (x2_2) hy2_6) fun o h => ⟨o, h.1⟩) <|
   ww (p := layL [(i6 x2_2)] (y2_4_).toNat (layT (iv x2_0)) = layT (iv ((x2_0).set (y2_4_).toNat x2_2))) (Exists.elim (iv_st (x2_0) ((y2_4_).toNat) (x2_2) hy2_6) fun o h => h.2) <|
   ww (iv_flat ((x2_0).set (y2_4_).toNat x2_2) 3) <|
   ee) (by kernel_rfl)
 ·rw [if_neg hy2_1] at h
  obtain rfl := oI h
  exact runC2 hm ⟨[3, 16, 17, 18], [(0, 0, true)], 1, 0, [], false, [], [], []⟩ (zz 1 (xdF hy2_1) <|
   ww (iv_flat x2_0 3) <|
   ee) (by kernel_rfl)
theorem m_treeParentsq1_2_ok (n : Nat) {rnd : Option Nat} (x2_1 : Nat) (x2_2 : Int) (x2_3 : WL rw_iiiiiiLu) (x2_4 : Int) (x2_5 : NL) (x2_6 : Int) (st : List Int × Int) (r : List Int) (h : m_treeParentsq1_2 n x2_1 x2_2 x2_3 x2_4 x2_5 x2_6 st = some r) : CG P rnd (fnN P 37) 0 (codeOf P 37 [false, true, true, false, false, true, true, false, false, true, false, true, true, true, true]) (S_treeParentsq1_2 x2_1 x2_2 x2_3 x2_4 x2_5 x2_6 st) (X_treeParentsq1_2 x2_1 x2_2 x2_3 x2_4 x2_5 x2_6 r) :=
 CG.iter (b := codeOf P 37 [false, false, true, true, false, false, true, true, false, false, true, false, true, true, true, true]) (by kernel_rfl) (body := B_treeParentsq1_2 n x2_1 x2_2 x2_3 x2_4 x2_5 x2_6) (S := S_treeParentsq1_2 x2_1 x2_2 x2_3 x2_4 x2_5 x2_6) (X := X_treeParentsq1_2 x2_1 x2_2 x2_3 x2_4 x2_5 x2_6)
  (fun s s' h => b_treeParentsq1_2 n x2_1 x2_2 x2_3 x2_4 x2_5 x2_6 s (.inl s') h)
  (fun s r h => b_treeParentsq1_2 n x2_1 x2_2 x2_3 x2_4 x2_5 x2_6 s (.inr r) h)
  (fun r => by intro hx; cases hx) h
def S_treeParentsq1_1 (x1_1 : Nat) (x1_2 : WL rw_iiiiiiLu) (x1_3 : Int) (st : List Int × Int) : XSt := match st with
 | (x1_0, x1_4) => (sT 37 [(3, (sN 0 0 x1_1 x1_1)), (16, (wlV x1_2)), (17, (i6 x1_3)), (18, (i6 x1_4))], [], ⟨sB [(0, (some (.cells (layT (iv x1_0)) 3)))], 1, 0⟩)
def X_treeParentsq1_1 (x1_1 : Nat) (x1_2 : WL rw_iiiiiiLu) (x1_3 : Int) (r : List Int) : Ex × XSt := match r with
 | z1_0 => (.exit 0, (sT 37 [(3, (sN 0 0 x1_1 x1_1))], [], ⟨sB [(0, (some (.cells (layT (iv z1_0)) 3)))], 1, 0⟩))
abbrev Q_treeParentsq1_1 (rnd : Option Nat) (x1_1 : Nat) (x1_2 : WL rw_iiiiiiLu) (x1_3 : Int) (st : List Int × Int) (c : Ex × XSt) : Prop := CG P rnd (fnN P 37) 0 (codeOf P 37 [false, false, true, false, true, true, true, true]) (S_treeParentsq1_1 x1_1 x1_2 x1_3 st) c
abbrev U_treeParentsq1_1 (rd : Option Nat) (x1_1 : Nat) (x1_2 : WL rw_iiiiiiLu) (x1_3 : Int) (st : List Int × Int) (r : List Int) : Prop := CG P rd (fnN P 37) 0 (codeOf P 37 [false, true, false, true, true, true, true]) (S_treeParentsq1_1 x1_1 x1_2 x1_3 st) (X_treeParentsq1_1 x1_1 x1_2 x1_3 r)
def B_treeParentsq1_1 (n : Nat) (x1_1 : Nat) (x1_2 : WL rw_iiiiiiLu) (x1_3 : Int) (st : List Int × Int) : Option ((List Int × Int) ⊕ (List Int)) := match st with
 | (x1_0, x1_4) =>
  if x1_4 < x1_3 then
   if 0 ≤ x1_4 ∧ x1_4 < (((x1_2).l.length : Nat) : Int) then
    ((some (((x1_2).l).getD (x1_4).toNat (0, 0, 0, 0, 0, 0, nl0, 0)))).bind fun y1_3_ =>
    (m_treeParentsq1_2 n x1_1 x1_4 x1_2 x1_3 (y1_3_.2.2.2.2.2.2.1) ((((y1_3_.2.2.2.2.2.2.1)).l.length : Nat) : Int) (x1_0, 0)).bind fun y1_4_ =>
    some (.inl (y1_4_, (w64 (x1_4 + (1 : Int)))))
   else none
  else
   some (.inr x1_0)
def m_treeParentsq1_1 (n : Nat) (x1_1 : Nat) (x1_2 : WL rw_iiiiiiLu) (x1_3 : Int) (st : List Int × Int) : Option (List Int) := iterM (B_treeParentsq1_1 n x1_1 x1_2 x1_3) n st
theorem b_treeParentsq1_1 (n : Nat) {rnd : Option Nat} (x1_1 : Nat) (x1_2 : WL rw_iiiiiiLu) (x1_3 : Int) (st : List Int × Int) (o : (List Int × Int) ⊕ (List Int)) (h : B_treeParentsq1_1 n x1_1 x1_2 x1_3 st = some o) : CG P rnd (fnN P 37) 0 (codeOf P 37 [false, false, true, false, true, true, true, true]) (S_treeParentsq1_1 x1_1 x1_2 x1_3 st) (Sum.elim (fun s => (.normal, S_treeParentsq1_1 x1_1 x1_2 x1_3 s)) (fun r => X_treeParentsq1_1 x1_1 x1_2 x1_3 r) o) := by
 obtain ⟨x1_0, x1_4⟩ := st
 unfold B_treeParentsq1_1 at h
 dsimp only at h
 by_cases hy1_1 : x1_4 < x1_3
 ·rw [if_pos hy1_1] at h
  obtain ⟨hy1_2, h⟩ := gd h
  obtain ⟨y1_3_, hy1_3, h⟩ := oB h
  obtain ⟨y1_4_, hy1_4, h⟩ := oB h
  obtain rfl := oI h
  exact runC2 hm ⟨[3, 16, 17, 18], [(0, 0, true)], 1, 0, [], false, [], [], []⟩ (zz 1 (xdT hy1_1) <|
   zz 8 (xk1 (x1_2).num (x1_2).off (x1_2).cap hy1_2) <|
   zz 9 (lk2 hy1_3 (toNatLt hy1_2)) <|
   ww (p := U_treeParentsq1_2 rnd x1_1 x1_4 x1_2 x1_3 (y1_3_.2.2.2.2.2.2.1) ((((y1_3_.2.2.2.2.2.2.1)).l.length : Nat) : Int) (x1_0, 0) y1_4_) (m_treeParentsq1_2_ok n x1_1 x1_4 x1_2 x1_3 (y1_3_.2.2.2.2.2.2.1) ((((y1_3_.2.2.2.2.2.2.1)).l.length : Nat) : Int) (x1_0, 0) y1_4_ hy1_4) <|
   ww (iv_flat x1_0 3) <|
   ll 19 ⟨⟨[3, 4, 16, 17, 18, 24, 25, 26], [(0, 0, true)], 1, 0, [], false, [], [], []⟩, (X_treeParentsq1_2 x1_1 x1_4 x1_2 x1_3 (y1_3_.2.2.2.2.2.2.1) ((((y1_3_.2.2.2.2.2.2.1)).l.length : Nat) : Int) y1_4_).1, (X_treeParentsq1_2 x1_1 x1_4 x1_2 x1_3 (y1_3_.2.2.2.2.2.2.1) ((((y1_3_.2.2.2.2.2.2.1)).l.length : Nat) : Int) y1_4_).2⟩ <|
   ww (iv_flat y1_4_ 3) <|
   ee) (by kernel_rfl)
 ·rw [if_neg hy1_1] at h
  obtain rfl := oI h
  exact runC2 hm ⟨[3], [(0, 0, true)], 1, 0, [], false, [], [], []⟩ (zz 1 (xdF hy1_1) <|
   ww (iv_flat x1_0 3) <|
   ee) (by kernel_rfl)
theorem m_treeParentsq1_1_ok (n : Nat) {rnd : Option Nat} (x1_1 : Nat) (x1_2 : WL rw_iiiiiiLu) (x1_3 : Int) (st : List Int × Int) (r : List Int) (h : m_treeParentsq1_1 n x1_1 x1_2 x1_3 st = some r) : CG P rnd (fnN P 37) 0 (codeOf P 37 [false, true, false, true, true, true, true]) (S_treeParentsq1_1 x1_1 x1_2 x1_3 st) (X_treeParentsq1_1 x1_1 x1_2 x1_3 r) :=
 CG.iter (b := codeOf P 37 [false, false, true, false, true, true, true, true]) (by kernel_rfl) (body := B_treeParentsq1_1 n x1_1 x1_2 x1_3) (S := S_treeParentsq1_1 x1_1 x1_2 x1_3) (X := X_treeParentsq1_1 x1_1 x1_2 x1_3)
  (fun s s' h => b_treeParentsq1_1 n x1_1 x1_2 x1_3 s (.inl s') h)
  (fun s r h => b_treeParentsq1_1 n x1_1 x1_2 x1_3 s (.inr r) h)
  (fun r => by intro hx; cases hx) h
def m_treeParentsq1 (n : Nat) (a0 : WL rw_iiiiiiLu) : Option (NL) :=
 (m_treeCheckq1 n a0).bind fun c1_ =>
 if c1_ = (0 : Int) then
  if 0 ≤ (((a0).l.length : Nat) : Int) then
   if ((((a0).l.length : Nat) : Int)).toNat * 8 ≤ 140737488355328 then
    if 0 ≤ (0 : Int) ∧ (0 : Int) < ((((((a0).l.length : Nat) : Int)).toNat : Nat) : Int) then
     if ((0 : Int)).toNat < ((List.replicate ((((a0).l.length : Nat) : Int)).toNat (0 : Int))).length then
      (m_treeParentsq1_1 n (((((a0).l.length : Nat) : Int)).toNat) a0 (((a0).l.length : Nat) : Int) ((((List.replicate ((((a0).l.length : Nat) : Int)).toNat (0 : Int))).set ((0 : Int)).toNat (-1 : Int)), 0)).bind fun c7_ =>
      if (((((a0).l.length : Nat) : Int)).toNat) = c7_.length then
       if hc9 : c7_.length ≤ 9223372036854775807 then
        some (frzL c7_ hc9)
       else none
      else none
     else none
    else none
   else none
  else none
 else
  some nl0
theorem m_treeParentsq1_ok (n : Nat) (a0 : WL rw_iiiiiiLu) (r : NL) (h : m_treeParentsq1 n a0 = some r) : Gv P (.func 37) (A_treeParentsq1 a0) (H_treeParentsq1 a0) (V_treeParentsq1 a0 r) (R_treeParentsq1 a0 r) := by
 unfold m_treeParentsq1 at h
 obtain ⟨c1_, hc1, h⟩ := oB h
 have k0 := fun {A L l} (k : PL A L l) => yy 5 (.call (C_treeCheckq1 a0 c1_ [] [])) <|
  ww (m_treeCheckq1_ok n a0 c1_ hc1) <|
  k
 by_cases hc2 : c1_ = (0 : Int)
 ·rw [if_pos hc2] at h
  obtain ⟨hc3, h⟩ := gd h
  obtain ⟨hc4, h⟩ := gd h
  obtain ⟨hc5, h⟩ := gd h
  obtain ⟨hc6, h⟩ := gd h
  obtain ⟨c7_, hc7, h⟩ := oB h
  obtain ⟨hc8, h⟩ := gd h
  obtain ⟨hc9, h⟩ := gdD h
  obtain rfl := oI h
  have k0_ : Gv P (.func 37) (A_treeParentsq1 a0) (H_treeParentsq1 a0) (Value.slice (some ⟨Nat.add (2 * cod c7_ + 1) 64, 0, some 1⟩) (((((a0).l.length : Nat) : Int)).toNat) (Nat.add big (((((a0).l.length : Nat) : Int)).toNat))) (R_treeParentsq1 a0 (frzL c7_ hc9)) := runF2 hm ⟨[2], [], 0, 0, [(0, Nat.add (2 * cod c7_ + 1) 64)], true, [], [], []⟩ (k0 <|
  zz 6 (xnF hc2) <|
  yy 11 (.mk ((((a0).l.length : Nat) : Int)).toNat (iv (List.replicate ((((a0).l.length : Nat) : Int)).toNat (0 : Int)))) <|
  ww (p := natOf (i6 (((a0).l.length : Nat) : Int)) = some ((((a0).l.length : Nat) : Int)).toNat) (natOf_toNat hc3) <|
  ww (p := natOf (i6 (((a0).l.length : Nat) : Int)) = some ((((a0).l.length : Nat) : Int)).toNat) (natOf_toNat hc3) <|
  ww (p := fits ((((a0).l.length : Nat) : Int)).toNat 8 = true) (fits_ok hc4 (by omega)) <|
  ww (p := isZ8 [(i6 (0 : Int))] = false) (rfl) <|
  ww (p := reps [(i6 (0 : Int))] ((((a0).l.length : Nat) : Int)).toNat = (iv (List.replicate ((((a0).l.length : Nat) : Int)).toNat (0 : Int)))) (reps_iv _) <|
  zz 15 (xk17 0 ((((a0).l.length : Nat) : Int)).toNat hc5) <|
  yy 16 (.sto (layT (iv (((List.replicate ((((a0).l.length : Nat) : Int)).toNat (0 : Int))).set ((0 : Int)).toNat (-1 : Int))))) <|
  ww (p := ∃ old, rdT (layT (iv (List.replicate ((((a0).l.length : Nat) : Int)).toNat (0 : Int)))) 1 ((0 : Int)).toNat = some old) (Exists.elim (iv_st ((List.replicate ((((a0).l.length : Nat) : Int)).toNat (0 : Int))) (((0 : Int)).toNat) ((-1 : Int)) hc6) fun o h => ⟨o, h.1⟩) <|
  ww (p := layL [(i6 (-1 : Int))] ((0 : Int)).toNat (layT (iv (List.replicate ((((a0).l.length : Nat) : Int)).toNat (0 : Int)))) = layT (iv (((List.replicate ((((a0).l.length : Nat) : Int)).toNat (0 : Int))).set ((0 : Int)).toNat (-1 : Int)))) (Exists.elim (iv_st ((List.replicate ((((a0).l.length : Nat) : Int)).toNat (0 : Int))) (((0 : Int)).toNat) ((-1 : Int)) hc6) fun o h => h.2) <|
  ww (p := U_treeParentsq1_1 none (((((a0).l.length : Nat) : Int)).toNat) a0 (((a0).l.length : Nat) : Int) ((((List.replicate ((((a0).l.length : Nat) : Int)).toNat (0 : Int))).set ((0 : Int)).toNat (-1 : Int)), 0) c7_) (m_treeParentsq1_1_ok n (((((a0).l.length : Nat) : Int)).toNat) a0 (((a0).l.length : Nat) : Int) ((((List.replicate ((((a0).l.length : Nat) : Int)).toNat (0 : Int))).set ((0 : Int)).toNat (-1 : Int)), 0) c7_ hc7) <|
  ww (iv_flat (((List.replicate ((((a0).l.length : Nat) : Int)).toNat (0 : Int))).set ((0 : Int)).toNat (-1 : Int)) 3) <|
  ll 23 ⟨⟨[3, 16, 17, 18], [(0, 0, true)], 1, 0, [], false, [], [], []⟩, (X_treeParentsq1_1 (((((a0).l.length : Nat) : Int)).toNat) a0 (((a0).l.length : Nat) : Int) c7_).1, (X_treeParentsq1_1 (((((a0).l.length : Nat) : Int)).toNat) a0 (((a0).l.length : Nat) : Int) c7_).2⟩ <|
  ww (frz_ok wins_nest wins_odd c7_) <|
  ee) (by kernel_rfl)
  have k1_ := gvLen (fn := fun m_ => (Value.slice (some ⟨Nat.add (2 * cod c7_ + 1) 64, 0, some 1⟩) m_ (Nat.add big m_))) hc8 k0_
  exact k1_
 ·rw [if_neg hc2] at h
  obtain rfl := oI h
  exact runF2 hm ⟨[2], [], 0, 0, [], true, [], [], [2]⟩ (k0 <|
   zz 6 (xnT hc2) <|
   ee) (by kernel_rfl)

def A_spliceSpliceq1 (a0 : WL rw_iiiiiiLu) (a1 : Int) (a2 : WL rw_iiiiiiLu) : List Value := [(wlV a0), (i6 a1), (wlV a2), (Value.slice none 0 0)]
def H_spliceSpliceq1 (a0 : WL rw_iiiiiiLu) (a1 : Int) (a2 : WL rw_iiiiiiLu) : AH := ⟨sB [], 0, 0⟩
def V_spliceSpliceq1 (a0 : WL rw_iiiiiiLu) (a1 : Int) (a2 : WL rw_iiiiiiLu) (r : WL rw_iiiiiiLu × Int) : Value := match r with
 | (o0, o1) => (Value.tuple #[(wlV o0), (nlV nl0), (i6 o1)])
def R_spliceSpliceq1 (a0 : WL rw_iiiiiiLu) (a1 : Int) (a2 : WL rw_iiiiiiLu) (r : WL rw_iiiiiiLu × Int) : AH := match r with
 | (o0, o1) => ⟨sB [], 0, 0⟩
abbrev G_spliceSpliceq1 (a0 : WL rw_iiiiiiLu) (a1 : Int) (a2 : WL rw_iiiiiiLu) (r : WL rw_iiiiiiLu × Int) : Prop := Gv P (.func 8) (A_spliceSpliceq1 a0 a1 a2) (H_spliceSpliceq1 a0 a1 a2) (V_spliceSpliceq1 a0 a1 a2 r) (R_spliceSpliceq1 a0 a1 a2 r)
abbrev C_spliceSpliceq1 (a0 : WL rw_iiiiiiLu) (a1 : Int) (a2 : WL rw_iiiiiiLu) (r : WL rw_iiiiiiLu × Int) (ins outs : BL) : CallA := ⟨0, ins, V_spliceSpliceq1 a0 a1 a2 r, R_spliceSpliceq1 a0 a1 a2 r, outs⟩
def S_spliceSpliceq1_1 (x1_0 : WL rw_iiiiiiLu) (x1_1 : Int) (x1_2 : List R8) (x1_3 : Int) (st : Unit) : XSt := match st with
 | _ => (sT 86 [(0, (wlV x1_0)), (1, (i6 x1_1)), (8, (slR x1_2 0 8)), (9, (Value.slice none 0 0)), (13, (Value.int .u64 x1_3)), (48, (Value.slice none 0 0)), (49, (i6 (0 : Int))), (50, (i6 (0 : Int)))], [], ⟨sB [(0, (nblkR rw_iiiiiiLu x1_2 49))], 1, 0⟩)
def X_spliceSpliceq1_1 (x1_0 : WL rw_iiiiiiLu) (x1_1 : Int) (x1_2 : List R8) (x1_3 : Int) (r : List R8) : Ex × XSt := match r with
 | z1_0 => (.exit 0, (sT 86 [(0, (wlV x1_0)), (1, (i6 x1_1)), (8, (slR z1_0 0 8)), (9, (Value.slice none 0 0)), (13, (Value.int .u64 x1_3))], [], ⟨sB [(0, (nblkR rw_iiiiiiLu z1_0 49))], 1, 0⟩))
abbrev Q_spliceSpliceq1_1 (rnd : Option Nat) (x1_0 : WL rw_iiiiiiLu) (x1_1 : Int) (x1_2 : List R8) (x1_3 : Int) (st : Unit) (c : Ex × XSt) : Prop := CG P rnd (fnN P 8) 0 (codeOf P 8 [false, false, true, false, true, true, true, true, true, true]) (S_spliceSpliceq1_1 x1_0 x1_1 x1_2 x1_3 st) c
abbrev U_spliceSpliceq1_1 (rd : Option Nat) (x1_0 : WL rw_iiiiiiLu) (x1_1 : Int) (x1_2 : List R8) (x1_3 : Int) (st : Unit) (r : List R8) : Prop := CG P rd (fnN P 8) 0 (codeOf P 8 [false, true, false, true, true, true, true, true, true]) (S_spliceSpliceq1_1 x1_0 x1_1 x1_2 x1_3 st) (X_spliceSpliceq1_1 x1_0 x1_1 x1_2 x1_3 r)
def B_spliceSpliceq1_1 (n : Nat) (x1_0 : WL rw_iiiiiiLu) (x1_1 : Int) (x1_2 : List R8) (x1_3 : Int) (st : Unit) : Option ((Unit) ⊕ (List R8)) := match st with
 | _ =>
  match x1_2 with
  | [] =>
   some (.inr ([] : List R8))
  | x1_2a :: x1_2t =>
   some (.inr (x1_2a :: x1_2t))
def m_spliceSpliceq1_1 (n : Nat) (x1_0 : WL rw_iiiiiiLu) (x1_1 : Int) (x1_2 : List R8) (x1_3 : Int) (st : Unit) : Option (List R8) := iterM (B_spliceSpliceq1_1 n x1_0 x1_1 x1_2 x1_3) n st
theorem b_spliceSpliceq1_1 (n : Nat) {rnd : Option Nat} (x1_0 : WL rw_iiiiiiLu) (x1_1 : Int) (x1_2 : List R8) (x1_3 : Int) (st : Unit) (o : (Unit) ⊕ (List R8)) (h : B_spliceSpliceq1_1 n x1_0 x1_1 x1_2 x1_3 st = some o) : CG P rnd (fnN P 8) 0 (codeOf P 8 [false, false, true, false, true, true, true, true, true, true]) (S_spliceSpliceq1_1 x1_0 x1_1 x1_2 x1_3 st) (Sum.elim (fun s => (.normal, S_spliceSpliceq1_1 x1_0 x1_1 x1_2 x1_3 s)) (fun r => X_spliceSpliceq1_1 x1_0 x1_1 x1_2 x1_3 r) o) := by
 unfold B_spliceSpliceq1_1 at h
 dsimp only at h
 cases x1_2 with
 | nil =>
  dsimp only at h
  obtain rfl := oI h
  exact runC2 hm ⟨[0, 1, 8, 9, 13], [], 1, 0, [], false, [], [], []⟩ (ee) (by kernel_rfl)
 | cons x1_2a x1_2t =>
  dsimp only at h
  obtain rfl := oI h
  exact runC2 hm ⟨[0, 1, 8, 9, 13], [(0, 0, true)], 1, 0, [], false, [], [], []⟩ (ww (rows_flat rwf_iiiiiiLu (x1_2a :: x1_2t) 49) <|
   ee) (by kernel_rfl)
theorem m_spliceSpliceq1_1_ok (n : Nat) {rnd : Option Nat} (x1_0 : WL rw_iiiiiiLu) (x1_1 : Int) (x1_2 : List R8) (x1_3 : Int) (st : Unit) (r : List R8) (h : m_spliceSpliceq1_1 n x1_0 x1_1 x1_2 x1_3 st = some r) : CG P rnd (fnN P 8) 0 (codeOf P 8 [false, true, false, true, true, true, true, true, true]) (S_spliceSpliceq1_1 x1_0 x1_1 x1_2 x1_3 st) (X_spliceSpliceq1_1 x1_0 x1_1 x1_2 x1_3 r) :=
 CG.iter (b := codeOf P 8 [false, false, true, false, true, true, true, true, true, true]) (by kernel_rfl) (body := B_spliceSpliceq1_1 n x1_0 x1_1 x1_2 x1_3) (S := S_spliceSpliceq1_1 x1_0 x1_1 x1_2 x1_3) (X := X_spliceSpliceq1_1 x1_0 x1_1 x1_2 x1_3)
  (fun s s' h => b_spliceSpliceq1_1 n x1_0 x1_1 x1_2 x1_3 s (.inl s') h)
  (fun s r h => b_spliceSpliceq1_1 n x1_0 x1_1 x1_2 x1_3 s (.inr r) h)
  (fun r => by intro hx; cases hx) h
def m_spliceSpliceq1 (n : Nat) (a0 : WL rw_iiiiiiLu) (a1 : Int) (a2 : WL rw_iiiiiiLu) : Option (WL rw_iiiiiiLu × Int) :=
 (m_treeCheckq1 n a0).bind fun c1_ =>
 if c1_ = (0 : Int) then
  (m_treeCheckq1 n a2).bind fun c3_ =>
  if c3_ = (0 : Int) then
   (m_splicefitsq1 n a0 a1 a2).bind fun c5_ =>
   if c5_ = true then
    match m_treePutq1 n a0 a1 a2 with
    | none => none
    | some (.inl c7_) =>
     if c7_ = (0 : Int) then
      (m_treeEndq1 n a0 a1).bind fun c9_ =>
      (m_splicemetsq1 n a0 a1 c9_).bind fun _ =>
      (m_splicegatherq1 n a0 a1 c9_).bind fun c11_ =>
      (m_spliceSpliceq1_1 n a0 a1 ([] : List R8) c11_ ()).bind fun c12_ =>
      match c12_ with
      | [] =>
       if a1 > (0 : Int) then
        none
       else
        some ((wl0 : WL rw_iiiiiiLu), 0)
      | c12_a :: c12_t =>
       if a1 > (0 : Int) then
        (m_treeParentsq1 n a0).bind fun c14_ =>
        if 0 ≤ a1 ∧ a1 < (((c14_).l.length : Nat) : Int) then
         if (a1).toNat < ((c14_).l).length then
          ((some (((c14_).l).getD (a1).toNat 0))).bind fun c17_ =>
          if 0 ≤ c17_ ∧ c17_ < ((((c12_a :: c12_t)).length : Nat) : Int) then
           ((some (((c12_a :: c12_t)).getD (c17_).toNat (0, 0, 0, 0, 0, 0, nl0, 0)))).bind fun c19_ =>
           if ((c12_a :: c12_t)).length = (((c12_a :: c12_t)).set (c17_).toNat ((c19_.1), (c19_.2.1), (c19_.2.2.1), (c19_.2.2.2.1), (c19_.2.2.2.2.1), (c19_.2.2.2.2.2.1), (c19_.2.2.2.2.2.2.1), (bOr .u64 (c19_.2.2.2.2.2.2.2) c11_))).length then
            if hc21 : (((c12_a :: c12_t)).set (c17_).toNat ((c19_.1), (c19_.2.1), (c19_.2.2.1), (c19_.2.2.2.1), (c19_.2.2.2.2.1), (c19_.2.2.2.2.2.1), (c19_.2.2.2.2.2.2.1), (bOr .u64 (c19_.2.2.2.2.2.2.2) c11_))).length ≤ 9223372036854775807 then
             some ((frzR rwo_iiiiiiLu (((c12_a :: c12_t)).set (c17_).toNat ((c19_.1), (c19_.2.1), (c19_.2.2.1), (c19_.2.2.2.1), (c19_.2.2.2.2.1), (c19_.2.2.2.2.2.1), (c19_.2.2.2.2.2.2.1), (bOr .u64 (c19_.2.2.2.2.2.2.2) c11_))) hc21), 0)
            else none
           else none
          else none
         else none
        else none
       else
        if hc14 : (c12_a :: c12_t).length ≤ 9223372036854775807 then
         some ((frzR rwo_iiiiiiLu (c12_a :: c12_t) hc14), 0)
        else none
     else
      some ((wl0 : WL rw_iiiiiiLu), c7_)
    | some (.inr c7_) =>
     match c7_ with
     | [] =>
      none
     | c7_a :: c7_t =>
      (m_treeEndq1 n a0 a1).bind fun c8_ =>
      (m_splicemetsq1 n a0 a1 c8_).bind fun _ =>
      (m_splicegatherq1 n a0 a1 c8_).bind fun c10_ =>
      (m_spliceSpliceq1_1 n a0 a1 (c7_a :: c7_t) c10_ ()).bind fun c11_ =>
      match c11_ with
      | [] =>
       if a1 > (0 : Int) then
        none
       else
        some ((wl0 : WL rw_iiiiiiLu), 0)
      | c11_a :: c11_t =>
       if a1 > (0 : Int) then
        (m_treeParentsq1 n a0).bind fun c13_ =>
        if 0 ≤ a1 ∧ a1 < (((c13_).l.length : Nat) : Int) then
         if (a1).toNat < ((c13_).l).length then
          ((some (((c13_).l).getD (a1).toNat 0))).bind fun c16_ =>
          if 0 ≤ c16_ ∧ c16_ < ((((c11_a :: c11_t)).length : Nat) : Int) then
           ((some (((c11_a :: c11_t)).getD (c16_).toNat (0, 0, 0, 0, 0, 0, nl0, 0)))).bind fun c18_ =>
           if ((c11_a :: c11_t)).length = (((c11_a :: c11_t)).set (c16_).toNat ((c18_.1), (c18_.2.1), (c18_.2.2.1), (c18_.2.2.2.1), (c18_.2.2.2.2.1), (c18_.2.2.2.2.2.1), (c18_.2.2.2.2.2.2.1), (bOr .u64 (c18_.2.2.2.2.2.2.2) c10_))).length then
            if hc20 : (((c11_a :: c11_t)).set (c16_).toNat ((c18_.1), (c18_.2.1), (c18_.2.2.1), (c18_.2.2.2.1), (c18_.2.2.2.2.1), (c18_.2.2.2.2.2.1), (c18_.2.2.2.2.2.2.1), (bOr .u64 (c18_.2.2.2.2.2.2.2) c10_))).length ≤ 9223372036854775807 then
             some ((frzR rwo_iiiiiiLu (((c11_a :: c11_t)).set (c16_).toNat ((c18_.1), (c18_.2.1), (c18_.2.2.1), (c18_.2.2.2.1), (c18_.2.2.2.2.1), (c18_.2.2.2.2.2.1), (c18_.2.2.2.2.2.2.1), (bOr .u64 (c18_.2.2.2.2.2.2.2) c10_))) hc20), 0)
            else none
           else none
          else none
         else none
        else none
       else
        if hc13 : (c11_a :: c11_t).length ≤ 9223372036854775807 then
         some ((frzR rwo_iiiiiiLu (c11_a :: c11_t) hc13), 0)
        else none
   else
    some ((wl0 : WL rw_iiiiiiLu), 2)
  else
   some ((wl0 : WL rw_iiiiiiLu), c3_)
 else
  some ((wl0 : WL rw_iiiiiiLu), c1_)
theorem m_spliceSpliceq1_ok (n : Nat) (a0 : WL rw_iiiiiiLu) (a1 : Int) (a2 : WL rw_iiiiiiLu) (r : WL rw_iiiiiiLu × Int) (h : m_spliceSpliceq1 n a0 a1 a2 = some r) : Gv P (.func 8) (A_spliceSpliceq1 a0 a1 a2) (H_spliceSpliceq1 a0 a1 a2) (V_spliceSpliceq1 a0 a1 a2 r) (R_spliceSpliceq1 a0 a1 a2 r) := by
 unfold m_spliceSpliceq1 at h
 obtain ⟨c1_, hc1, h⟩ := oB h
 have k0 := fun {A L l} (k : PL A L l) => yy 7 (.call (C_treeCheckq1 a0 c1_ [] [])) <|
  ww (m_treeCheckq1_ok n a0 c1_ hc1) <|
  k
 by_cases hc2 : c1_ = (0 : Int)
 ·rw [if_pos hc2] at h
  obtain ⟨c3_, hc3, h⟩ := oB h
  have k2 := fun {A L l} (k : PL A L l) => zz 11 (xnF hc2) <|
   yy 16 (.call (C_treeCheckq1 a2 c3_ [] [])) <|
   ww (m_treeCheckq1_ok n a2 c3_ hc3) <|
   k
  by_cases hc4 : c3_ = (0 : Int)
  ·rw [if_pos hc4] at h
   obtain ⟨c5_, hc5, h⟩ := oB h
   have k5 := fun {A L l} (k : PL A L l) => zz 20 (xnF hc4) <|
    yy 27 (.call (C_splicefitsq1 a0 a1 a2 c5_ [] [])) <|
    ww (m_splicefitsq1_ok n a0 a1 a2 c5_ hc5) <|
    k
   by_cases hc6 : c5_ = true
   ·rw [if_pos hc6] at h
    have k8 := fun {A L l} (k : PL A L l) => yy 28 (vf) <|
     ww (p := (Value.bool (!c5_)) = (Value.bool false)) (vBn hc6) <|
     k
    rcases hc7 : m_treePutq1 n a0 a1 a2 with _ | (c7_ | c7_)
    ·rw [hc7] at h; cases h
    ·rw [hc7] at h
     dsimp only at h
     have k10 := fun {A L l} (k : PL A L l) => yy 35 (.call (C_treePutq1 a0 a1 a2 (.inl c7_) [] [])) <|
      ww (m_treePutq1_ok n a0 a1 a2 (.inl c7_) hc7) <|
      k
     by_cases hc8 : c7_ = (0 : Int)
     ·rw [if_pos hc8] at h
      obtain ⟨c9_, hc9, h⟩ := oB h
      obtain ⟨_, hc10, h⟩ := oB h
      obtain ⟨c11_, hc11, h⟩ := oB h
      obtain ⟨c12_, hc12, h⟩ := oB h
      have k12 := fun {A L l} (k : PL A L l) => zz 43 (xnF hc8) <|
       yy 50 (.call (C_treeEndq1 a0 a1 c9_ [] [])) <|
       ww (m_treeEndq1_ok n a0 a1 c9_ hc9) <|
       yy 51 (.call (C_splicemetsq1 a0 a1 c9_ () [] [(0, 0, false), (1, 1, false), (2, 2, false)])) <|
       ww (m_splicemetsq1_ok n a0 a1 c9_ () hc10) <|
       yy 52 (.call (C_splicegatherq1 a0 a1 c9_ c11_ [(0, 0, false), (1, 1, false), (2, 2, false)] [(0, 0, false), (1, 1, false), (2, 2, false)])) <|
       ww (m_splicegatherq1_ok n a0 a1 c9_ c11_ hc11) <|
       k
      cases c12_ with
      | nil =>
       dsimp only at h
       have k19 := fun {A L l} (k : PL A L l) => ww (p := U_spliceSpliceq1_1 none a0 a1 ([] : List R8) c11_ () ([] : List R8)) (m_spliceSpliceq1_1_ok n a0 a1 ([] : List R8) c11_ () ([] : List R8) hc12) <|
        ll 60 ⟨⟨[0, 1, 8, 9, 13, 48, 49, 50], [], 1, 0, [], false, [], [], []⟩, (X_spliceSpliceq1_1 a0 a1 ([] : List R8) c11_ ([] : List R8)).1, (X_spliceSpliceq1_1 a0 a1 ([] : List R8) c11_ ([] : List R8)).2⟩ <|
        k
       by_cases hc13 : a1 > (0 : Int)
       ·rw [if_pos hc13] at h
        cases h
       ·rw [if_neg hc13] at h
        obtain rfl := oI h
        exact runF2 hm ⟨[8, 9, 10], [], 0, 0, [], true, [], [], [8, 9]⟩ (k0 <|
         k2 <|
         k5 <|
         k8 <|
         k10 <|
         k12 <|
         k19 <|
         zz 64 (xdF hc13) <|
         ee) (by kernel_rfl)
      | cons c12_a c12_t =>
       dsimp only at h
       have k19 := fun {A L l} (k : PL A L l) => ww (p := U_spliceSpliceq1_1 none a0 a1 ([] : List R8) c11_ () (c12_a :: c12_t)) (m_spliceSpliceq1_1_ok n a0 a1 ([] : List R8) c11_ () (c12_a :: c12_t) hc12) <|
        ll 60 ⟨⟨[0, 1, 8, 9, 13, 48, 49, 50], [], 1, 0, [], false, [], [], []⟩, (X_spliceSpliceq1_1 a0 a1 ([] : List R8) c11_ (c12_a :: c12_t)).1, (X_spliceSpliceq1_1 a0 a1 ([] : List R8) c11_ (c12_a :: c12_t)).2⟩ <|
        k
       by_cases hc13 : a1 > (0 : Int)
       ·rw [if_pos hc13] at h
        obtain ⟨c14_, hc14, h⟩ := oB h
        obtain ⟨hc15, h⟩ := gd h
        obtain ⟨hc16, h⟩ := gd h
        obtain ⟨c17_, hc17, h⟩ := oB h
        obtain ⟨hc18, h⟩ := gd h
        obtain ⟨c19_, hc19, h⟩ := oB h
        obtain ⟨hc20, h⟩ := gd h
        obtain ⟨hc21, h⟩ := gdD h
        have hr := oI h
        rw [← hr]
        clear hr h
        obtain ⟨za, zt, hz⟩ : ∃ a t, (((c12_a :: c12_t)).set (c17_).toNat ((c19_.1), (c19_.2.1), (c19_.2.2.1), (c19_.2.2.2.1), (c19_.2.2.2.2.1), (c19_.2.2.2.2.2.1), (c19_.2.2.2.2.2.2.1), (bOr .u64 (c19_.2.2.2.2.2.2.2) c11_))) = a :: t := set_cons
        revert hc21
        rw [hz]
        intro hc21
        try rw [hz] at hc20
        try rw [hz] at k0
        try rw [hz] at k2
        try rw [hz] at k5
        try rw [hz] at k8
        try rw [hz] at k10
        try rw [hz] at k12
        try rw [hz] at k19
        have k0_ : Gv P (.func 8) (A_spliceSpliceq1 a0 a1 a2) (H_spliceSpliceq1 a0 a1 a2) (Value.tuple #[(Value.slice (some ⟨Nat.add (2 * codL (rows rw_iiiiiiLu (za :: zt)) + 1) 64, 0, some 1⟩) (((c12_a :: c12_t)).length) (Nat.add big (((c12_a :: c12_t)).length))), (nlV nl0), (i6 (0 : Int))]) (R_spliceSpliceq1 a0 a1 a2 ((frzR rwo_iiiiiiLu (za :: zt) hc21), 0)) := runF2 hm ⟨[8, 9, 10], [], 0, 0, [(0, Nat.add (2 * codL (rows rw_iiiiiiLu (za :: zt)) + 1) 64)], true, [], [], [9]⟩ (k0 <|
        k2 <|
        k5 <|
        k8 <|
        k10 <|
        k12 <|
        k19 <|
        zz 64 (xdT hc13) <|
        yy 68 (.call (C_treeParentsq1 a0 c14_ [] [])) <|
        ww (m_treeParentsq1_ok n a0 c14_ hc14) <|
        zz 70 (xk9 (Nat.add (c14_).num 64) (c14_).off (c14_).cap hc15) <|
        zz 71 (nk10 hc17 hc16) <|
        zz 72 (xk18 0 U8 hc18) <|
        zz 74 (ok19 hc19 (toNatLt hc18)) <|
        zz 77 (xk18 0 U8 hc18) <|
        yy 79 (.sto (layT (rows rw_iiiiiiLu (za :: zt)))) <|
        ww (p := ∃ old, rdT (layT (rows rw_iiiiiiLu (c12_a :: c12_t))) 1 (Nat.add ((c17_).toNat * 8) 7) = some old) (Exists.elim (rows_stN rwf_iiiiiiLu (0, 0, 0, 0, 0, 0, nl0, 0) (hr := hc19) (i := (c17_).toNat) (j := 7) (l := [(Value.int .u64 (bOr .u64 (c19_.2.2.2.2.2.2.2) c11_))]) ((c19_.1), (c19_.2.1), (c19_.2.2.1), (c19_.2.2.2.1), (c19_.2.2.2.2.1), (c19_.2.2.2.2.2.1), (c19_.2.2.2.2.2.2.1), (bOr .u64 (c19_.2.2.2.2.2.2.2) c11_)) (Nat.add ((c17_).toNat * 8) 7) rfl (toNatLt hc18) (Nat.le_of_ble_eq_true rfl) rfl) fun o h => ⟨o, h.1⟩) <|
        ww (p := layL [(Value.int .u64 (bOr .u64 (c19_.2.2.2.2.2.2.2) c11_))] (Nat.add ((c17_).toNat * 8) 7) (layT (rows rw_iiiiiiLu (c12_a :: c12_t))) = layT (rows rw_iiiiiiLu (za :: zt))) (by rw [← hz]; exact (Exists.elim (rows_stN rwf_iiiiiiLu (0, 0, 0, 0, 0, 0, nl0, 0) (hr := hc19) (i := (c17_).toNat) (j := 7) (l := [(Value.int .u64 (bOr .u64 (c19_.2.2.2.2.2.2.2) c11_))]) ((c19_.1), (c19_.2.1), (c19_.2.2.1), (c19_.2.2.2.1), (c19_.2.2.2.2.1), (c19_.2.2.2.2.2.1), (c19_.2.2.2.2.2.2.1), (bOr .u64 (c19_.2.2.2.2.2.2.2) c11_)) (Nat.add ((c17_).toNat * 8) 7) rfl (toNatLt hc18) (Nat.le_of_ble_eq_true rfl) rfl) fun o h => h.2)) <|
        ww (frz_okR wins_nest wins_odd rwo_iiiiiiLu (za :: zt)) <|
        ee) (by kernel_rfl)
        have k1_ := gvLen (fn := fun m_ => (Value.tuple #[(Value.slice (some ⟨Nat.add (2 * codL (rows rw_iiiiiiLu (za :: zt)) + 1) 64, 0, some 1⟩) m_ (Nat.add big m_)), (nlV nl0), (i6 (0 : Int))])) hc20 k0_
        exact k1_
       ·rw [if_neg hc13] at h
        obtain ⟨hc14, h⟩ := gdD h
        obtain rfl := oI h
        exact runF2 hm ⟨[8, 9, 10], [], 0, 0, [(0, Nat.add (2 * codL (rows rw_iiiiiiLu (c12_a :: c12_t)) + 1) 64)], true, [], [], [9]⟩ (k0 <|
         k2 <|
         k5 <|
         k8 <|
         k10 <|
         k12 <|
         k19 <|
         zz 64 (xdF hc13) <|
         ww (frz_okR wins_nest wins_odd rwo_iiiiiiLu (c12_a :: c12_t)) <|
         ee) (by kernel_rfl)
     ·rw [if_neg hc8] at h
      obtain rfl := oI h
      exact runF2 hm ⟨[8, 9, 10], [], 0, 0, [], true, [], [], [8, 9]⟩ (k0 <|
       k2 <|
       k5 <|
       k8 <|
       k10 <|
       zz 43 (xnT hc8) <|
       ee) (by kernel_rfl)
    ·rw [hc7] at h
     dsimp only at h
     cases c7_ with
     | nil =>
      dsimp only at h
      cases h
     | cons c7_a c7_t =>
      dsimp only at h
      obtain ⟨c8_, hc8, h⟩ := oB h
      obtain ⟨_, hc9, h⟩ := oB h
      obtain ⟨c10_, hc10, h⟩ := oB h
      obtain ⟨c11_, hc11, h⟩ := oB h
      have k10 := fun {A L l} (k : PL A L l) => yy 35 (.call (C_treePutq1 a0 a1 a2 (.inr (c7_a :: c7_t)) [] [(0, 0, true)])) <|
       ww (m_treePutq1_ok n a0 a1 a2 (.inr (c7_a :: c7_t)) hc7) <|
       ww (rows_flat rwf_iiiiiiLu (c7_a :: c7_t) 49) <|
       yy 50 (.call (C_treeEndq1 a0 a1 c8_ [] [])) <|
       ww (m_treeEndq1_ok n a0 a1 c8_ hc8) <|
       yy 51 (.call (C_splicemetsq1 a0 a1 c8_ () [] [(1, 0, false), (2, 1, false), (3, 2, false)])) <|
       ww (m_splicemetsq1_ok n a0 a1 c8_ () hc9) <|
       yy 52 (.call (C_splicegatherq1 a0 a1 c8_ c10_ [(0, 1, false), (1, 2, false), (2, 3, false)] [(1, 0, false), (2, 1, false), (3, 2, false)])) <|
       ww (m_splicegatherq1_ok n a0 a1 c8_ c10_ hc10) <|
       k
      cases c11_ with
      | nil =>
       dsimp only at h
       have k19 := fun {A L l} (k : PL A L l) => ww (p := U_spliceSpliceq1_1 none a0 a1 (c7_a :: c7_t) c10_ () ([] : List R8)) (m_spliceSpliceq1_1_ok n a0 a1 (c7_a :: c7_t) c10_ () ([] : List R8) hc11) <|
        ww (rows_flat rwf_iiiiiiLu (c7_a :: c7_t) 49) <|
        ll 60 ⟨⟨[0, 1, 8, 9, 13, 48, 49, 50], [(0, 0, true)], 1, 0, [], false, [], [], []⟩, (X_spliceSpliceq1_1 a0 a1 (c7_a :: c7_t) c10_ ([] : List R8)).1, (X_spliceSpliceq1_1 a0 a1 (c7_a :: c7_t) c10_ ([] : List R8)).2⟩ <|
        k
       by_cases hc12 : a1 > (0 : Int)
       ·rw [if_pos hc12] at h
        cases h
       ·rw [if_neg hc12] at h
        obtain rfl := oI h
        exact runF2 hm ⟨[8, 9, 10], [], 0, 0, [], true, [], [], [8, 9]⟩ (k0 <|
         k2 <|
         k5 <|
         k8 <|
         k10 <|
         k19 <|
         zz 64 (xdF hc12) <|
         ee) (by kernel_rfl)
      | cons c11_a c11_t =>
       dsimp only at h
       have k19 := fun {A L l} (k : PL A L l) => ww (p := U_spliceSpliceq1_1 none a0 a1 (c7_a :: c7_t) c10_ () (c11_a :: c11_t)) (m_spliceSpliceq1_1_ok n a0 a1 (c7_a :: c7_t) c10_ () (c11_a :: c11_t) hc11) <|
        ww (rows_flat rwf_iiiiiiLu (c7_a :: c7_t) 49) <|
        ll 60 ⟨⟨[0, 1, 8, 9, 13, 48, 49, 50], [(0, 0, true)], 1, 0, [], false, [], [], []⟩, (X_spliceSpliceq1_1 a0 a1 (c7_a :: c7_t) c10_ (c11_a :: c11_t)).1, (X_spliceSpliceq1_1 a0 a1 (c7_a :: c7_t) c10_ (c11_a :: c11_t)).2⟩ <|
        k
       by_cases hc12 : a1 > (0 : Int)
       ·rw [if_pos hc12] at h
        obtain ⟨c13_, hc13, h⟩ := oB h
        obtain ⟨hc14, h⟩ := gd h
        obtain ⟨hc15, h⟩ := gd h
        obtain ⟨c16_, hc16, h⟩ := oB h
        obtain ⟨hc17, h⟩ := gd h
        obtain ⟨c18_, hc18, h⟩ := oB h
        obtain ⟨hc19, h⟩ := gd h
        obtain ⟨hc20, h⟩ := gdD h
        have hr := oI h
        rw [← hr]
        clear hr h
        obtain ⟨za, zt, hz⟩ : ∃ a t, (((c11_a :: c11_t)).set (c16_).toNat ((c18_.1), (c18_.2.1), (c18_.2.2.1), (c18_.2.2.2.1), (c18_.2.2.2.2.1), (c18_.2.2.2.2.2.1), (c18_.2.2.2.2.2.2.1), (bOr .u64 (c18_.2.2.2.2.2.2.2) c10_))) = a :: t := set_cons
        revert hc20
        rw [hz]
        intro hc20
        try rw [hz] at hc19
        try rw [hz] at k0
        try rw [hz] at k2
        try rw [hz] at k5
        try rw [hz] at k8
        try rw [hz] at k10
        try rw [hz] at k19
        have k0_ : Gv P (.func 8) (A_spliceSpliceq1 a0 a1 a2) (H_spliceSpliceq1 a0 a1 a2) (Value.tuple #[(Value.slice (some ⟨Nat.add (2 * codL (rows rw_iiiiiiLu (za :: zt)) + 1) 64, 0, some 1⟩) (((c11_a :: c11_t)).length) (Nat.add big (((c11_a :: c11_t)).length))), (nlV nl0), (i6 (0 : Int))]) (R_spliceSpliceq1 a0 a1 a2 ((frzR rwo_iiiiiiLu (za :: zt) hc20), 0)) := runF2 hm ⟨[8, 9, 10], [], 0, 0, [(0, Nat.add (2 * codL (rows rw_iiiiiiLu (za :: zt)) + 1) 64)], true, [], [], [9]⟩ (k0 <|
        k2 <|
        k5 <|
        k8 <|
        k10 <|
        k19 <|
        zz 64 (xdT hc12) <|
        yy 68 (.call (C_treeParentsq1 a0 c13_ [] [])) <|
        ww (m_treeParentsq1_ok n a0 c13_ hc13) <|
        zz 70 (xk9 (Nat.add (c13_).num 64) (c13_).off (c13_).cap hc14) <|
        zz 71 (nk10 hc16 hc15) <|
        zz 72 (xk18 0 U8 hc17) <|
        zz 74 (ok19 hc18 (toNatLt hc17)) <|
        zz 77 (xk18 0 U8 hc17) <|
        yy 79 (.sto (layT (rows rw_iiiiiiLu (za :: zt)))) <|
        ww (p := ∃ old, rdT (layT (rows rw_iiiiiiLu (c11_a :: c11_t))) 1 (Nat.add ((c16_).toNat * 8) 7) = some old) (Exists.elim (rows_stN rwf_iiiiiiLu (0, 0, 0, 0, 0, 0, nl0, 0) (hr := hc18) (i := (c16_).toNat) (j := 7) (l := [(Value.int .u64 (bOr .u64 (c18_.2.2.2.2.2.2.2) c10_))]) ((c18_.1), (c18_.2.1), (c18_.2.2.1), (c18_.2.2.2.1), (c18_.2.2.2.2.1), (c18_.2.2.2.2.2.1), (c18_.2.2.2.2.2.2.1), (bOr .u64 (c18_.2.2.2.2.2.2.2) c10_)) (Nat.add ((c16_).toNat * 8) 7) rfl (toNatLt hc17) (Nat.le_of_ble_eq_true rfl) rfl) fun o h => ⟨o, h.1⟩) <|
        ww (p := layL [(Value.int .u64 (bOr .u64 (c18_.2.2.2.2.2.2.2) c10_))] (Nat.add ((c16_).toNat * 8) 7) (layT (rows rw_iiiiiiLu (c11_a :: c11_t))) = layT (rows rw_iiiiiiLu (za :: zt))) (by rw [← hz]; exact (Exists.elim (rows_stN rwf_iiiiiiLu (0, 0, 0, 0, 0, 0, nl0, 0) (hr := hc18) (i := (c16_).toNat) (j := 7) (l := [(Value.int .u64 (bOr .u64 (c18_.2.2.2.2.2.2.2) c10_))]) ((c18_.1), (c18_.2.1), (c18_.2.2.1), (c18_.2.2.2.1), (c18_.2.2.2.2.1), (c18_.2.2.2.2.2.1), (c18_.2.2.2.2.2.2.1), (bOr .u64 (c18_.2.2.2.2.2.2.2) c10_)) (Nat.add ((c16_).toNat * 8) 7) rfl (toNatLt hc17) (Nat.le_of_ble_eq_true rfl) rfl) fun o h => h.2)) <|
        ww (frz_okR wins_nest wins_odd rwo_iiiiiiLu (za :: zt)) <|
        ee) (by kernel_rfl)
        have k1_ := gvLen (fn := fun m_ => (Value.tuple #[(Value.slice (some ⟨Nat.add (2 * codL (rows rw_iiiiiiLu (za :: zt)) + 1) 64, 0, some 1⟩) m_ (Nat.add big m_)), (nlV nl0), (i6 (0 : Int))])) hc19 k0_
        exact k1_
       ·rw [if_neg hc12] at h
        obtain ⟨hc13, h⟩ := gdD h
        obtain rfl := oI h
        exact runF2 hm ⟨[8, 9, 10], [], 0, 0, [(0, Nat.add (2 * codL (rows rw_iiiiiiLu (c11_a :: c11_t)) + 1) 64)], true, [], [], [9]⟩ (k0 <|
         k2 <|
         k5 <|
         k8 <|
         k10 <|
         k19 <|
         zz 64 (xdF hc12) <|
         ww (frz_okR wins_nest wins_odd rwo_iiiiiiLu (c11_a :: c11_t)) <|
         ee) (by kernel_rfl)
   ·rw [if_neg hc6] at h
    obtain rfl := oI h
    exact runF2 hm ⟨[8, 9, 10], [], 0, 0, [], true, [], [], [8, 9]⟩ (k0 <|
     k2 <|
     k5 <|
     yy 28 (vt) <|
     ww (p := (Value.bool (!c5_)) = (Value.bool true)) (vBn (Bool.eq_false_iff.2 hc6)) <|
     ee) (by kernel_rfl)
  ·rw [if_neg hc4] at h
   obtain rfl := oI h
   exact runF2 hm ⟨[8, 9, 10], [], 0, 0, [], true, [], [], [8, 9]⟩ (k0 <|
    k2 <|
    zz 20 (xnT hc4) <|
    ee) (by kernel_rfl)
 ·rw [if_neg hc2] at h
  obtain rfl := oI h
  exact runF2 hm ⟨[8, 9, 10], [], 0, 0, [], true, [], [], [8, 9]⟩ (k0 <|
   zz 11 (xnT hc2) <|
   ee) (by kernel_rfl)

def A_spliceFitsq1 (a0 : WL rw_iiiiiiLu) (a1 : Int) (a2 : WL rw_iiiiiiLu) : List Value := [(wlV a0), (i6 a1), (wlV a2)]
def H_spliceFitsq1 (a0 : WL rw_iiiiiiLu) (a1 : Int) (a2 : WL rw_iiiiiiLu) : AH := ⟨sB [], 0, 0⟩
def V_spliceFitsq1 (a0 : WL rw_iiiiiiLu) (a1 : Int) (a2 : WL rw_iiiiiiLu) (r : Bool) : Value := match r with
 | o0 => (bO o0)
def R_spliceFitsq1 (a0 : WL rw_iiiiiiLu) (a1 : Int) (a2 : WL rw_iiiiiiLu) (r : Bool) : AH := match r with
 | o0 => ⟨sB [], 0, 0⟩
abbrev G_spliceFitsq1 (a0 : WL rw_iiiiiiLu) (a1 : Int) (a2 : WL rw_iiiiiiLu) (r : Bool) : Prop := Gv P (.func 15) (A_spliceFitsq1 a0 a1 a2) (H_spliceFitsq1 a0 a1 a2) (V_spliceFitsq1 a0 a1 a2 r) (R_spliceFitsq1 a0 a1 a2 r)
abbrev C_spliceFitsq1 (a0 : WL rw_iiiiiiLu) (a1 : Int) (a2 : WL rw_iiiiiiLu) (r : Bool) (ins outs : BL) : CallA := ⟨0, ins, V_spliceFitsq1 a0 a1 a2 r, R_spliceFitsq1 a0 a1 a2 r, outs⟩
def m_spliceFitsq1 (n : Nat) (a0 : WL rw_iiiiiiLu) (a1 : Int) (a2 : WL rw_iiiiiiLu) : Option (Bool) :=
 (m_treeCheckq1 n a0).bind fun c1_ =>
 if c1_ = (0 : Int) then
  (m_treeCheckq1 n a2).bind fun c3_ =>
  if c3_ = (0 : Int) then
   (m_splicefitsq1 n a0 a1 a2).bind fun c5_ =>
   some c5_
  else
   some false
 else
  some false
theorem m_spliceFitsq1_ok (n : Nat) (a0 : WL rw_iiiiiiLu) (a1 : Int) (a2 : WL rw_iiiiiiLu) (r : Bool) (h : m_spliceFitsq1 n a0 a1 a2 = some r) : Gv P (.func 15) (A_spliceFitsq1 a0 a1 a2) (H_spliceFitsq1 a0 a1 a2) (V_spliceFitsq1 a0 a1 a2 r) (R_spliceFitsq1 a0 a1 a2 r) := by
 unfold m_spliceFitsq1 at h
 obtain ⟨c1_, hc1, h⟩ := oB h
 have k0 := fun {A L l} (k : PL A L l) => yy 4 (.call (C_treeCheckq1 a0 c1_ [] [])) <|
  ww (m_treeCheckq1_ok n a0 c1_ hc1) <|
  k
 by_cases hc2 : c1_ = (0 : Int)
 ·rw [if_pos hc2] at h
  obtain ⟨c3_, hc3, h⟩ := oB h
  have k2 := fun {A L l} (k : PL A L l) => zz 5 (xeT hc2) <|
   yy 8 (.call (C_treeCheckq1 a2 c3_ [] [])) <|
   ww (m_treeCheckq1_ok n a2 c3_ hc3) <|
   k
  by_cases hc4 : c3_ = (0 : Int)
  ·rw [if_pos hc4] at h
   obtain ⟨c5_, hc5, h⟩ := oB h
   obtain rfl := oI h
   exact runF2 hm ⟨[6], [], 0, 0, [], false, [], [], []⟩ (k0 <|
    k2 <|
    zz 9 (xeT hc4) <|
    yy 15 (.call (C_splicefitsq1 a0 a1 a2 c5_ [] [])) <|
    ww (m_splicefitsq1_ok n a0 a1 a2 c5_ hc5) <|
    ee) (by kernel_rfl)
  ·rw [if_neg hc4] at h
   obtain rfl := oI h
   exact runF2 hm ⟨[6], [], 0, 0, [], false, [], [], []⟩ (k0 <|
    k2 <|
    zz 9 (xeF hc4) <|
    ee) (by kernel_rfl)
 ·rw [if_neg hc2] at h
  obtain rfl := oI h
  exact runF2 hm ⟨[6], [], 0, 0, [], false, [], [], []⟩ (k0 <|
   zz 5 (xeF hc2) <|
   ee) (by kernel_rfl)

def A_viewportref16isq1 (a0 : WL rw_iiiiiiLu) (a1 : Int) : List Value := [(wlV a0), (i6 a1)]
def H_viewportref16isq1 (a0 : WL rw_iiiiiiLu) (a1 : Int) : AH := ⟨sB [], 0, 0⟩
def V_viewportref16isq1 (a0 : WL rw_iiiiiiLu) (a1 : Int) (r : Bool) : Value := match r with
 | o0 => (bO o0)
def R_viewportref16isq1 (a0 : WL rw_iiiiiiLu) (a1 : Int) (r : Bool) : AH := match r with
 | o0 => ⟨sB [], 0, 0⟩
abbrev G_viewportref16isq1 (a0 : WL rw_iiiiiiLu) (a1 : Int) (r : Bool) : Prop := Gv P (.func 49) (A_viewportref16isq1 a0 a1) (H_viewportref16isq1 a0 a1) (V_viewportref16isq1 a0 a1 r) (R_viewportref16isq1 a0 a1 r)
abbrev C_viewportref16isq1 (a0 : WL rw_iiiiiiLu) (a1 : Int) (r : Bool) (ins outs : BL) : CallA := ⟨0, ins, V_viewportref16isq1 a0 a1 r, R_viewportref16isq1 a0 a1 r, outs⟩
def m_viewportref16isq1 (n : Nat) (a0 : WL rw_iiiiiiLu) (a1 : Int) : Option (Bool) :=
 (m_viewportref16Checkq1 n a0).bind fun c1_ =>
 if c1_ = (0 : Int) then
  if a1 ≥ (0 : Int) then
   if a1 < (((a0).l.length : Nat) : Int) then
    some true
   else
    some false
  else
   some false
 else
  some false
theorem m_viewportref16isq1_ok (n : Nat) (a0 : WL rw_iiiiiiLu) (a1 : Int) (r : Bool) (h : m_viewportref16isq1 n a0 a1 = some r) : Gv P (.func 49) (A_viewportref16isq1 a0 a1) (H_viewportref16isq1 a0 a1) (V_viewportref16isq1 a0 a1 r) (R_viewportref16isq1 a0 a1 r) := by
 unfold m_viewportref16isq1 at h
 obtain ⟨c1_, hc1, h⟩ := oB h
 have k0 := fun {A L l} (k : PL A L l) => yy 4 (.call (C_viewportref16Checkq1 a0 c1_ [] [])) <|
  ww (m_viewportref16Checkq1_ok n a0 c1_ hc1) <|
  k
 by_cases hc2 : c1_ = (0 : Int)
 ·rw [if_pos hc2] at h
  have k2 := fun {A L l} (k : PL A L l) => zz 5 (xeT hc2) <|
   k
  by_cases hc3 : a1 ≥ (0 : Int)
  ·rw [if_pos hc3] at h
   have k3 := fun {A L l} (k : PL A L l) => zz 8 (xdT hc3) <|
    k
   by_cases hc4 : a1 < (((a0).l.length : Nat) : Int)
   ·rw [if_pos hc4] at h
    obtain rfl := oI h
    exact runF2 hm ⟨[4], [], 0, 0, [], false, [], [], []⟩ (k0 <|
     k2 <|
     k3 <|
     zz 14 (xdT hc4) <|
     ee) (by kernel_rfl)
   ·rw [if_neg hc4] at h
    obtain rfl := oI h
    exact runF2 hm ⟨[4], [], 0, 0, [], false, [], [], []⟩ (k0 <|
     k2 <|
     k3 <|
     zz 14 (xdF hc4) <|
     ee) (by kernel_rfl)
  ·rw [if_neg hc3] at h
   obtain rfl := oI h
   exact runF2 hm ⟨[4], [], 0, 0, [], false, [], [], []⟩ (k0 <|
    k2 <|
    zz 8 (xdF hc3) <|
    ee) (by kernel_rfl)
 ·rw [if_neg hc2] at h
  obtain rfl := oI h
  exact runF2 hm ⟨[4], [], 0, 0, [], false, [], [], []⟩ (k0 <|
   zz 5 (xeF hc2) <|
   ee) (by kernel_rfl)

def A_viewportref16Endq1 (a0 : WL rw_iiiiiiLu) (a1 : Int) : List Value := [(wlV a0), (i6 a1)]
def H_viewportref16Endq1 (a0 : WL rw_iiiiiiLu) (a1 : Int) : AH := ⟨sB [], 0, 0⟩
def V_viewportref16Endq1 (a0 : WL rw_iiiiiiLu) (a1 : Int) (r : Int) : Value := match r with
 | o0 => (i6 o0)
def R_viewportref16Endq1 (a0 : WL rw_iiiiiiLu) (a1 : Int) (r : Int) : AH := match r with
 | o0 => ⟨sB [], 0, 0⟩
abbrev G_viewportref16Endq1 (a0 : WL rw_iiiiiiLu) (a1 : Int) (r : Int) : Prop := Gv P (.func 27) (A_viewportref16Endq1 a0 a1) (H_viewportref16Endq1 a0 a1) (V_viewportref16Endq1 a0 a1 r) (R_viewportref16Endq1 a0 a1 r)
abbrev C_viewportref16Endq1 (a0 : WL rw_iiiiiiLu) (a1 : Int) (r : Int) (ins outs : BL) : CallA := ⟨0, ins, V_viewportref16Endq1 a0 a1 r, R_viewportref16Endq1 a0 a1 r, outs⟩
def m_viewportref16Endq1 (n : Nat) (a0 : WL rw_iiiiiiLu) (a1 : Int) : Option (Int) :=
 (m_viewportref16isq1 n a0 a1).bind fun c1_ =>
 if c1_ = true then
  (m_viewportref16endq1 n a0 a1).bind fun c3_ =>
  some c3_
 else
  some 0
theorem m_viewportref16Endq1_ok (n : Nat) (a0 : WL rw_iiiiiiLu) (a1 : Int) (r : Int) (h : m_viewportref16Endq1 n a0 a1 = some r) : Gv P (.func 27) (A_viewportref16Endq1 a0 a1) (H_viewportref16Endq1 a0 a1) (V_viewportref16Endq1 a0 a1 r) (R_viewportref16Endq1 a0 a1 r) := by
 unfold m_viewportref16Endq1 at h
 obtain ⟨c1_, hc1, h⟩ := oB h
 have k0 := fun {A L l} (k : PL A L l) => yy 6 (.call (C_viewportref16isq1 a0 a1 c1_ [] [])) <|
  ww (m_viewportref16isq1_ok n a0 a1 c1_ hc1) <|
  k
 by_cases hc2 : c1_ = true
 ·rw [if_pos hc2] at h
  obtain ⟨c3_, hc3, h⟩ := oB h
  obtain rfl := oI h
  exact runF2 hm ⟨[4], [], 0, 0, [], false, [], [], []⟩ (k0 <|
   yy 7 (vf) <|
   ww (p := (Value.bool (!c1_)) = (Value.bool false)) (vBn hc2) <|
   yy 12 (.call (C_viewportref16endq1 a0 a1 c3_ [] [])) <|
   ww (m_viewportref16endq1_ok n a0 a1 c3_ hc3) <|
   ee) (by kernel_rfl)
 ·rw [if_neg hc2] at h
  obtain rfl := oI h
  exact runF2 hm ⟨[4], [], 0, 0, [], false, [], [], []⟩ (k0 <|
   yy 7 (vt) <|
   ww (p := (Value.bool (!c1_)) = (Value.bool true)) (vBn (Bool.eq_false_iff.2 hc2)) <|
   ee) (by kernel_rfl)

def A_viewportlaw20SpliceFits (g2 : Int) : List Value := [(wlV wA), (wlV wB), (i6 g2)]
def H_viewportlaw20SpliceFits (g2 : Int) : AH := ⟨sB [], 0, 0⟩
def V_viewportlaw20SpliceFits (g2 : Int) (r : Unit) : Value := match r with
 | _ => (bO true)
def R_viewportlaw20SpliceFits (g2 : Int) (r : Unit) : AH := match r with
 | _ => ⟨sB [], 0, 0⟩
abbrev G_viewportlaw20SpliceFits (g2 : Int) (r : Unit) : Prop := Gv P (.func 5) (A_viewportlaw20SpliceFits g2) (H_viewportlaw20SpliceFits g2) (V_viewportlaw20SpliceFits g2 r) (R_viewportlaw20SpliceFits g2 r)
abbrev C_viewportlaw20SpliceFits (g2 : Int) (r : Unit) (ins outs : BL) : CallA := ⟨0, ins, V_viewportlaw20SpliceFits g2 r, R_viewportlaw20SpliceFits g2 r, outs⟩
def S_viewportlaw20SpliceFitst7 (x7_0 : WL rw_iiiiiiLu) (x7_1 : WL rw_iiiiiiLu) (x7_2 : Int) (x7_3 : WL rw_iiiiiiLu) (x7_4 : Int) (st : Unit) : XSt := (sT 119 [(0, (wlV x7_0)), (1, (wlV x7_1)), (2, (i6 x7_2)), (10, (wlV x7_3)), (12, (i6 x7_4))], [], ⟨sB [], 0, 0⟩)
def X_viewportlaw20SpliceFitst7 (x7_0 : WL rw_iiiiiiLu) (x7_1 : WL rw_iiiiiiLu) (x7_2 : Int) (x7_3 : WL rw_iiiiiiLu) (x7_4 : Int) (r : Unit) : Ex × XSt := match r with
 | _ => (.ret, (sT 119 [(6, (bO true))], [], ⟨sB [], 0, 0⟩))
abbrev U_viewportlaw20SpliceFitst7 (rd : Option Nat) (x7_0 : WL rw_iiiiiiLu) (x7_1 : WL rw_iiiiiiLu) (x7_2 : Int) (x7_3 : WL rw_iiiiiiLu) (x7_4 : Int) (st : Unit) (r : Unit) : Prop := CG P rd (fnN P 5) 0 (codeOf P 5 [true, true, true, true, true, true, true, true]) (S_viewportlaw20SpliceFitst7 x7_0 x7_1 x7_2 x7_3 x7_4 st) (X_viewportlaw20SpliceFitst7 x7_0 x7_1 x7_2 x7_3 x7_4 r)
def m_viewportlaw20SpliceFitst7 (n : Nat) (x7_0 : WL rw_iiiiiiLu) (x7_1 : WL rw_iiiiiiLu) (x7_2 : Int) (x7_3 : WL rw_iiiiiiLu) (x7_4 : Int) (st : Unit) : Option (Unit) :=
 (m_spliceFitsq1 n x7_0 x7_2 x7_1).bind fun y7_1_ =>
 if y7_1_ = true then
  if x7_4 = (0 : Int) then
   (m_viewportref16Endq1 n x7_0 x7_2).bind fun y7_4_ =>
   ((some (w64 ((((x7_0).l.length : Nat) : Int) - (w64 (y7_4_ - x7_2)))))).bind fun y7_5_ =>
   ((some (w64 (y7_5_ + (((x7_1).l.length : Nat) : Int))))).bind fun y7_6_ =>
   if (((x7_3).l.length : Nat) : Int) = y7_6_ then
    some ()
   else
    none
  else
   none
 else
  none
theorem m_viewportlaw20SpliceFitst7_ok (n : Nat) {rnd : Option Nat} (x7_0 : WL rw_iiiiiiLu) (x7_1 : WL rw_iiiiiiLu) (x7_2 : Int) (x7_3 : WL rw_iiiiiiLu) (x7_4 : Int) (st : Unit) (r : Unit) (h : m_viewportlaw20SpliceFitst7 n x7_0 x7_1 x7_2 x7_3 x7_4 st = some r) : CG P rnd (fnN P 5) 0 (codeOf P 5 [true, true, true, true, true, true, true, true]) (S_viewportlaw20SpliceFitst7 x7_0 x7_1 x7_2 x7_3 x7_4 st) (X_viewportlaw20SpliceFitst7 x7_0 x7_1 x7_2 x7_3 x7_4 r) := by
 unfold m_viewportlaw20SpliceFitst7 at h
 obtain ⟨y7_1_, hy7_1, h⟩ := oB h
 have k0 := fun {A L l} (k : PL A L l) => yy 4 (.call (C_spliceFitsq1 x7_0 x7_2 x7_1 y7_1_ [] [])) <|
  ww (m_spliceFitsq1_ok n x7_0 x7_2 x7_1 y7_1_ hy7_1) <|
  k
 by_cases hy7_2 : y7_1_ = true
 ·rw [if_pos hy7_2] at h
  have k2 := fun {A L l} (k : PL A L l) => zz 5 (xbT hy7_2) <|
   k
  by_cases hy7_3 : x7_4 = (0 : Int)
  ·rw [if_pos hy7_3] at h
   obtain ⟨y7_4_, hy7_4, h⟩ := oB h
   obtain ⟨y7_5_, hy7_5, h⟩ := oB h
   obtain ⟨y7_6_, hy7_6, h⟩ := oB h
   have k3 := fun {A L l} (k : PL A L l) => zz 7 (xeT hy7_3) <|
    yy 16 (.call (C_viewportref16Endq1 x7_0 x7_2 y7_4_ [] [])) <|
    ww (m_viewportref16Endq1_ok n x7_0 x7_2 y7_4_ hy7_4) <|
    zz 19 (xnm hy7_5) <|
    zz 22 (xnm hy7_6) <|
    k
   by_cases hy7_7 : (((x7_3).l.length : Nat) : Int) = y7_6_
   ·rw [if_pos hy7_7] at h
    obtain rfl := oI h
    exact runC2 hm ⟨[6], [], 0, 0, [], false, [], [], []⟩ (k0 <|
     k2 <|
     k3 <|
     zz 23 (xeT hy7_7) <|
     ee) (by kernel_rfl)
   ·rw [if_neg hy7_7] at h
    cases h
  ·rw [if_neg hy7_3] at h
   cases h
 ·rw [if_neg hy7_2] at h
  cases h
def S_viewportlaw20SpliceFitst6 (x6_0 : WL rw_iiiiiiLu) (x6_1 : WL rw_iiiiiiLu) (x6_2 : Int) (x6_3 : Bool) (x6_4 : WL rw_iiiiiiLu) (x6_5 : NL) (x6_6 : Int) (st : Unit) : XSt := (sT 119 [(0, (wlV x6_0)), (1, (wlV x6_1)), (2, (i6 x6_2)), (9, (bO x6_3)), (10, (wlV x6_4)), (11, (nlV x6_5)), (12, (i6 x6_6))], [], ⟨sB [], 0, 0⟩)
def X_viewportlaw20SpliceFitst6 (x6_0 : WL rw_iiiiiiLu) (x6_1 : WL rw_iiiiiiLu) (x6_2 : Int) (x6_3 : Bool) (x6_4 : WL rw_iiiiiiLu) (x6_5 : NL) (x6_6 : Int) (r : Unit) : Ex × XSt := match r with
 | _ => (.ret, (sT 119 [(6, (bO true))], [], ⟨sB [], 0, 0⟩))
abbrev U_viewportlaw20SpliceFitst6 (rd : Option Nat) (x6_0 : WL rw_iiiiiiLu) (x6_1 : WL rw_iiiiiiLu) (x6_2 : Int) (x6_3 : Bool) (x6_4 : WL rw_iiiiiiLu) (x6_5 : NL) (x6_6 : Int) (st : Unit) (r : Unit) : Prop := CG P rd (fnN P 5) 0 (codeOf P 5 [true, true, true, true, true, true, true]) (S_viewportlaw20SpliceFitst6 x6_0 x6_1 x6_2 x6_3 x6_4 x6_5 x6_6 st) (X_viewportlaw20SpliceFitst6 x6_0 x6_1 x6_2 x6_3 x6_4 x6_5 x6_6 r)
def m_viewportlaw20SpliceFitst6 (n : Nat) (x6_0 : WL rw_iiiiiiLu) (x6_1 : WL rw_iiiiiiLu) (x6_2 : Int) (x6_3 : Bool) (x6_4 : WL rw_iiiiiiLu) (x6_5 : NL) (x6_6 : Int) (st : Unit) : Option (Unit) :=
 if x6_3 = true then
  (m_viewportlaw20SpliceFitst7 n x6_0 x6_1 x6_2 x6_4 x6_6 ()).bind fun _ =>
  some ()
 else
  (m_spliceFitsq1 n x6_0 x6_2 x6_1).bind fun y6_2_ =>
  if y6_2_ = true then
   none
  else
   if x6_6 = (2 : Int) then
    if (((x6_4).l.length : Nat) : Int) = (0 : Int) then
     if (((x6_5).l.length : Nat) : Int) = (0 : Int) then
      some ()
     else
      none
    else
     none
   else
    none
theorem m_viewportlaw20SpliceFitst6_ok (n : Nat) {rnd : Option Nat} (x6_0 : WL rw_iiiiiiLu) (x6_1 : WL rw_iiiiiiLu) (x6_2 : Int) (x6_3 : Bool) (x6_4 : WL rw_iiiiiiLu) (x6_5 : NL) (x6_6 : Int) (st : Unit) (r : Unit) (h : m_viewportlaw20SpliceFitst6 n x6_0 x6_1 x6_2 x6_3 x6_4 x6_5 x6_6 st = some r) : CG P rnd (fnN P 5) 0 (codeOf P 5 [true, true, true, true, true, true, true]) (S_viewportlaw20SpliceFitst6 x6_0 x6_1 x6_2 x6_3 x6_4 x6_5 x6_6 st) (X_viewportlaw20SpliceFitst6 x6_0 x6_1 x6_2 x6_3 x6_4 x6_5 x6_6 r) := by
 unfold m_viewportlaw20SpliceFitst6 at h
 by_cases hy6_1 : x6_3 = true
 ·rw [if_pos hy6_1] at h
  obtain ⟨_, hy6_2, h⟩ := oB h
  obtain rfl := oI h
  exact runC2 hm ⟨[6], [], 0, 0, [], false, [], [], []⟩ (yy 3 (vf) <|
   ww (p := (Value.bool (!x6_3)) = (Value.bool false)) (vBn hy6_1) <|
   ww (p := U_viewportlaw20SpliceFitst7 rnd x6_0 x6_1 x6_2 x6_4 x6_6 () ()) (m_viewportlaw20SpliceFitst7_ok n x6_0 x6_1 x6_2 x6_4 x6_6 () () hy6_2) <|
   ll 5 ⟨⟨[0, 1, 2, 10, 12], [], 0, 0, [], false, [], [], []⟩, (X_viewportlaw20SpliceFitst7 x6_0 x6_1 x6_2 x6_4 x6_6 ()).1, (X_viewportlaw20SpliceFitst7 x6_0 x6_1 x6_2 x6_4 x6_6 ()).2⟩ <|
   ee) (by kernel_rfl)
 ·rw [if_neg hy6_1] at h
  obtain ⟨y6_2_, hy6_2, h⟩ := oB h
  have k0 := fun {A L l} (k : PL A L l) => yy 3 (vt) <|
   ww (p := (Value.bool (!x6_3)) = (Value.bool true)) (vBn (Bool.eq_false_iff.2 hy6_1)) <|
   yy 9 (.call (C_spliceFitsq1 x6_0 x6_2 x6_1 y6_2_ [] [])) <|
   ww (m_spliceFitsq1_ok n x6_0 x6_2 x6_1 y6_2_ hy6_2) <|
   k
  by_cases hy6_3 : y6_2_ = true
  ·rw [if_pos hy6_3] at h
   cases h
  ·rw [if_neg hy6_3] at h
   have k4 := fun {A L l} (k : PL A L l) => yy 10 (vt) <|
    ww (p := (Value.bool (!y6_2_)) = (Value.bool true)) (vBn (Bool.eq_false_iff.2 hy6_3)) <|
    k
   by_cases hy6_4 : x6_6 = (2 : Int)
   ·rw [if_pos hy6_4] at h
    have k6 := fun {A L l} (k : PL A L l) => zz 13 (xeT hy6_4) <|
     k
    by_cases hy6_5 : (((x6_4).l.length : Nat) : Int) = (0 : Int)
    ·rw [if_pos hy6_5] at h
     have k7 := fun {A L l} (k : PL A L l) => zz 18 (xeT hy6_5) <|
      k
     by_cases hy6_6 : (((x6_5).l.length : Nat) : Int) = (0 : Int)
     ·rw [if_pos hy6_6] at h
      obtain rfl := oI h
      exact runC2 hm ⟨[6], [], 0, 0, [], false, [], [], []⟩ (k0 <|
       k4 <|
       k6 <|
       k7 <|
       zz 23 (xeT hy6_6) <|
       ee) (by kernel_rfl)
     ·rw [if_neg hy6_6] at h
      cases h
    ·rw [if_neg hy6_5] at h
     cases h
   ·rw [if_neg hy6_4] at h
    cases h
def S_viewportlaw20SpliceFitst3 (x3_0 : WL rw_iiiiiiLu) (x3_1 : WL rw_iiiiiiLu) (x3_2 : Int) (x3_3 : Bool) (st : Unit) : XSt := (sT 119 [(0, (wlV x3_0)), (1, (wlV x3_1)), (2, (i6 x3_2)), (28, (bO x3_3))], [], ⟨sB [], 0, 0⟩)
def X_viewportlaw20SpliceFitst3 (x3_0 : WL rw_iiiiiiLu) (x3_1 : WL rw_iiiiiiLu) (x3_2 : Int) (x3_3 : Bool) (r : (Unit) ⊕ (Unit)) : Ex × XSt := match r with
 | .inl _ => (.ret, (sT 119 [(6, (bO true))], [], ⟨sB [], 0, 0⟩))
 | .inr _ => (.normal, (sT 119 [(0, (wlV x3_0)), (1, (wlV x3_1)), (2, (i6 x3_2))], [], ⟨sB [], 0, 0⟩))
abbrev U_viewportlaw20SpliceFitst3 (rd : Option Nat) (x3_0 : WL rw_iiiiiiLu) (x3_1 : WL rw_iiiiiiLu) (x3_2 : Int) (x3_3 : Bool) (st : Unit) (r : (Unit) ⊕ (Unit)) : Prop := CG P rd (fnN P 5) 0 (codeOf P 5 [true, false, true, true]) (S_viewportlaw20SpliceFitst3 x3_0 x3_1 x3_2 x3_3 st) (X_viewportlaw20SpliceFitst3 x3_0 x3_1 x3_2 x3_3 r)
def m_viewportlaw20SpliceFitst3 (n : Nat) (x3_0 : WL rw_iiiiiiLu) (x3_1 : WL rw_iiiiiiLu) (x3_2 : Int) (x3_3 : Bool) (st : Unit) : Option ((Unit) ⊕ (Unit)) :=
 if x3_3 = true then
  some (.inl ())
 else
  some (.inr ())
theorem m_viewportlaw20SpliceFitst3_ok (n : Nat) {rnd : Option Nat} (x3_0 : WL rw_iiiiiiLu) (x3_1 : WL rw_iiiiiiLu) (x3_2 : Int) (x3_3 : Bool) (st : Unit) (r : (Unit) ⊕ (Unit)) (h : m_viewportlaw20SpliceFitst3 n x3_0 x3_1 x3_2 x3_3 st = some r) : CG P rnd (fnN P 5) 0 (codeOf P 5 [true, false, true, true]) (S_viewportlaw20SpliceFitst3 x3_0 x3_1 x3_2 x3_3 st) (X_viewportlaw20SpliceFitst3 x3_0 x3_1 x3_2 x3_3 r) := by
 unfold m_viewportlaw20SpliceFitst3 at h
 by_cases hy3_1 : x3_3 = true
 ·rw [if_pos hy3_1] at h
  obtain rfl := oI h
  exact runC2 hm ⟨[6], [], 0, 0, [], false, [], [], []⟩ (zz 0 (xbT hy3_1) <|
   ee) (by kernel_rfl)
 ·rw [if_neg hy3_1] at h
  obtain rfl := oI h
  exact runC2 hm ⟨[0, 1, 2], [], 0, 0, [], false, [], [], []⟩ (zz 0 (xbF hy3_1) <|
   ee) (by kernel_rfl)
def S_viewportlaw20SpliceFitst5 (x5_0 : WL rw_iiiiiiLu) (x5_1 : WL rw_iiiiiiLu) (x5_2 : Int) (st : Unit) : XSt := (sT 119 [(0, (wlV x5_0)), (1, (wlV x5_1)), (2, (i6 x5_2))], [], ⟨sB [], 0, 0⟩)
def X_viewportlaw20SpliceFitst5 (x5_0 : WL rw_iiiiiiLu) (x5_1 : WL rw_iiiiiiLu) (x5_2 : Int) (r : Unit) : Ex × XSt := match r with
 | _ => (.ret, (sT 119 [(6, (bO true))], [], ⟨sB [], 0, 0⟩))
abbrev U_viewportlaw20SpliceFitst5 (rd : Option Nat) (x5_0 : WL rw_iiiiiiLu) (x5_1 : WL rw_iiiiiiLu) (x5_2 : Int) (st : Unit) (r : Unit) : Prop := CG P rd (fnN P 5) 0 (codeOf P 5 [true, true, true, true]) (S_viewportlaw20SpliceFitst5 x5_0 x5_1 x5_2 st) (X_viewportlaw20SpliceFitst5 x5_0 x5_1 x5_2 r)
def m_viewportlaw20SpliceFitst5 (n : Nat) (x5_0 : WL rw_iiiiiiLu) (x5_1 : WL rw_iiiiiiLu) (x5_2 : Int) (st : Unit) : Option (Unit) :=
 if 0 ≤ x5_2 ∧ x5_2 < (((x5_0).l.length : Nat) : Int) then
  ((some (((x5_0).l).getD (x5_2).toNat (0, 0, 0, 0, 0, 0, nl0, 0)))).bind fun y5_2_ =>
  if 0 ≤ (0 : Int) ∧ (0 : Int) < (((x5_1).l.length : Nat) : Int) then
   ((some (((x5_1).l).getD ((0 : Int)).toNat (0, 0, 0, 0, 0, 0, nl0, 0)))).bind fun y5_4_ =>
   if (y5_2_.1) = (y5_4_.1) then
    if (y5_2_.2.1) = (y5_4_.2.1) then
     if (y5_2_.2.2.1) = (y5_4_.2.2.1) then
      if (y5_2_.2.2.2.2.1) = (y5_4_.2.2.2.2.1) then
       (m_spliceSpliceq1 n x5_0 x5_2 x5_1).bind fun t => match t with
       | (y5_9_0, y5_9_1) =>
        (m_viewportlaw20SpliceFitst6 n x5_0 x5_1 x5_2 true y5_9_0 nl0 y5_9_1 ()).bind fun _ =>
        some ()
      else
       (m_spliceSpliceq1 n x5_0 x5_2 x5_1).bind fun t => match t with
       | (y5_9_0, y5_9_1) =>
        (m_viewportlaw20SpliceFitst6 n x5_0 x5_1 x5_2 false y5_9_0 nl0 y5_9_1 ()).bind fun _ =>
        some ()
     else
      (m_spliceSpliceq1 n x5_0 x5_2 x5_1).bind fun t => match t with
      | (y5_8_0, y5_8_1) =>
       (m_viewportlaw20SpliceFitst6 n x5_0 x5_1 x5_2 false y5_8_0 nl0 y5_8_1 ()).bind fun _ =>
       some ()
    else
     (m_spliceSpliceq1 n x5_0 x5_2 x5_1).bind fun t => match t with
     | (y5_7_0, y5_7_1) =>
      (m_viewportlaw20SpliceFitst6 n x5_0 x5_1 x5_2 false y5_7_0 nl0 y5_7_1 ()).bind fun _ =>
      some ()
   else
    (m_spliceSpliceq1 n x5_0 x5_2 x5_1).bind fun t => match t with
    | (y5_6_0, y5_6_1) =>
     (m_viewportlaw20SpliceFitst6 n x5_0 x5_1 x5_2 false y5_6_0 nl0 y5_6_1 ()).bind fun _ =>
     some ()
  else none
 else none
theorem m_viewportlaw20SpliceFitst5_ok (n : Nat) {rnd : Option Nat} (x5_0 : WL rw_iiiiiiLu) (x5_1 : WL rw_iiiiiiLu) (x5_2 : Int) (st : Unit) (r : Unit) (h : m_viewportlaw20SpliceFitst5 n x5_0 x5_1 x5_2 st = some r) : CG P rnd (fnN P 5) 0 (codeOf P 5 [true, true, true, true]) (S_viewportlaw20SpliceFitst5 x5_0 x5_1 x5_2 st) (X_viewportlaw20SpliceFitst5 x5_0 x5_1 x5_2 r) := by
 unfold m_viewportlaw20SpliceFitst5 at h
 obtain ⟨hy5_1, h⟩ := gd h
 obtain ⟨y5_2_, hy5_2, h⟩ := oB h
 obtain ⟨hy5_3, h⟩ := gd h
 obtain ⟨y5_4_, hy5_4, h⟩ := oB h
 have k0 := fun {A L l} (k : PL A L l) => zz 3 (xk1 (x5_0).num (x5_0).off (x5_0).cap hy5_1) <|
  zz 4 (lk2 hy5_2 (toNatLt hy5_1)) <|
  zz 6 (xk1 (x5_1).num (x5_1).off (x5_1).cap hy5_3) <|
  zz 7 (lk2 hy5_4 (toNatLt hy5_3)) <|
  k
 by_cases hy5_5 : (y5_2_.1) = (y5_4_.1)
 ·rw [if_pos hy5_5] at h
  have k4 := fun {A L l} (k : PL A L l) => zz 17 (xeT hy5_5) <|
   k
  by_cases hy5_6 : (y5_2_.2.1) = (y5_4_.2.1)
  ·rw [if_pos hy5_6] at h
   have k5 := fun {A L l} (k : PL A L l) => zz 23 (xeT hy5_6) <|
    k
   by_cases hy5_7 : (y5_2_.2.2.1) = (y5_4_.2.2.1)
   ·rw [if_pos hy5_7] at h
    have k6 := fun {A L l} (k : PL A L l) => zz 30 (xeT hy5_7) <|
     k
    by_cases hy5_8 : (y5_2_.2.2.2.2.1) = (y5_4_.2.2.2.2.1)
    ·rw [if_pos hy5_8] at h
     obtain ⟨⟨y5_9_0, y5_9_1⟩, hy5_9, h⟩ := oB h
     dsimp only at h
     obtain ⟨_, hy5_10, h⟩ := oB h
     obtain rfl := oI h
     exact runC2 hm ⟨[6], [], 0, 0, [], false, [], [], []⟩ (k0 <|
      k4 <|
      k5 <|
      k6 <|
      zz 37 (xeT hy5_8) <|
      yy 44 (.call (C_spliceSpliceq1 x5_0 x5_2 x5_1 (y5_9_0, y5_9_1) [] [])) <|
      ww (m_spliceSpliceq1_ok n x5_0 x5_2 x5_1 (y5_9_0, y5_9_1) hy5_9) <|
      ww (p := U_viewportlaw20SpliceFitst6 rnd x5_0 x5_1 x5_2 true y5_9_0 nl0 y5_9_1 () ()) (m_viewportlaw20SpliceFitst6_ok n x5_0 x5_1 x5_2 true y5_9_0 nl0 y5_9_1 () () hy5_10) <|
      ll 52 ⟨⟨[0, 1, 2, 9, 10, 11, 12], [], 0, 0, [], false, [], [], []⟩, (X_viewportlaw20SpliceFitst6 x5_0 x5_1 x5_2 true y5_9_0 nl0 y5_9_1 ()).1, (X_viewportlaw20SpliceFitst6 x5_0 x5_1 x5_2 true y5_9_0 nl0 y5_9_1 ()).2⟩ <|
      ee) (by kernel_rfl)
    ·rw [if_neg hy5_8] at h
     obtain ⟨⟨y5_9_0, y5_9_1⟩, hy5_9, h⟩ := oB h
     dsimp only at h
     obtain ⟨_, hy5_10, h⟩ := oB h
     obtain rfl := oI h
     exact runC2 hm ⟨[6], [], 0, 0, [], false, [], [], []⟩ (k0 <|
      k4 <|
      k5 <|
      k6 <|
      zz 37 (xeF hy5_8) <|
      yy 44 (.call (C_spliceSpliceq1 x5_0 x5_2 x5_1 (y5_9_0, y5_9_1) [] [])) <|
      ww (m_spliceSpliceq1_ok n x5_0 x5_2 x5_1 (y5_9_0, y5_9_1) hy5_9) <|
      ww (p := U_viewportlaw20SpliceFitst6 rnd x5_0 x5_1 x5_2 false y5_9_0 nl0 y5_9_1 () ()) (m_viewportlaw20SpliceFitst6_ok n x5_0 x5_1 x5_2 false y5_9_0 nl0 y5_9_1 () () hy5_10) <|
      ll 52 ⟨⟨[0, 1, 2, 9, 10, 11, 12], [], 0, 0, [], false, [], [], []⟩, (X_viewportlaw20SpliceFitst6 x5_0 x5_1 x5_2 false y5_9_0 nl0 y5_9_1 ()).1, (X_viewportlaw20SpliceFitst6 x5_0 x5_1 x5_2 false y5_9_0 nl0 y5_9_1 ()).2⟩ <|
      ee) (by kernel_rfl)
   ·rw [if_neg hy5_7] at h
    obtain ⟨⟨y5_8_0, y5_8_1⟩, hy5_8, h⟩ := oB h
    dsimp only at h
    obtain ⟨_, hy5_9, h⟩ := oB h
    obtain rfl := oI h
    exact runC2 hm ⟨[6], [], 0, 0, [], false, [], [], []⟩ (k0 <|
     k4 <|
     k5 <|
     zz 30 (xeF hy5_7) <|
     yy 44 (.call (C_spliceSpliceq1 x5_0 x5_2 x5_1 (y5_8_0, y5_8_1) [] [])) <|
     ww (m_spliceSpliceq1_ok n x5_0 x5_2 x5_1 (y5_8_0, y5_8_1) hy5_8) <|
     ww (p := U_viewportlaw20SpliceFitst6 rnd x5_0 x5_1 x5_2 false y5_8_0 nl0 y5_8_1 () ()) (m_viewportlaw20SpliceFitst6_ok n x5_0 x5_1 x5_2 false y5_8_0 nl0 y5_8_1 () () hy5_9) <|
     ll 52 ⟨⟨[0, 1, 2, 9, 10, 11, 12], [], 0, 0, [], false, [], [], []⟩, (X_viewportlaw20SpliceFitst6 x5_0 x5_1 x5_2 false y5_8_0 nl0 y5_8_1 ()).1, (X_viewportlaw20SpliceFitst6 x5_0 x5_1 x5_2 false y5_8_0 nl0 y5_8_1 ()).2⟩ <|
     ee) (by kernel_rfl)
  ·rw [if_neg hy5_6] at h
   obtain ⟨⟨y5_7_0, y5_7_1⟩, hy5_7, h⟩ := oB h
   dsimp only at h
   obtain ⟨_, hy5_8, h⟩ := oB h
   obtain rfl := oI h
   exact runC2 hm ⟨[6], [], 0, 0, [], false, [], [], []⟩ (k0 <|
    k4 <|
    zz 23 (xeF hy5_6) <|
    yy 44 (.call (C_spliceSpliceq1 x5_0 x5_2 x5_1 (y5_7_0, y5_7_1) [] [])) <|
    ww (m_spliceSpliceq1_ok n x5_0 x5_2 x5_1 (y5_7_0, y5_7_1) hy5_7) <|
    ww (p := U_viewportlaw20SpliceFitst6 rnd x5_0 x5_1 x5_2 false y5_7_0 nl0 y5_7_1 () ()) (m_viewportlaw20SpliceFitst6_ok n x5_0 x5_1 x5_2 false y5_7_0 nl0 y5_7_1 () () hy5_8) <|
    ll 52 ⟨⟨[0, 1, 2, 9, 10, 11, 12], [], 0, 0, [], false, [], [], []⟩, (X_viewportlaw20SpliceFitst6 x5_0 x5_1 x5_2 false y5_7_0 nl0 y5_7_1 ()).1, (X_viewportlaw20SpliceFitst6 x5_0 x5_1 x5_2 false y5_7_0 nl0 y5_7_1 ()).2⟩ <|
    ee) (by kernel_rfl)
 ·rw [if_neg hy5_5] at h
  obtain ⟨⟨y5_6_0, y5_6_1⟩, hy5_6, h⟩ := oB h
  dsimp only at h
  obtain ⟨_, hy5_7, h⟩ := oB h
  obtain rfl := oI h
  exact runC2 hm ⟨[6], [], 0, 0, [], false, [], [], []⟩ (k0 <|
   zz 17 (xeF hy5_5) <|
   yy 44 (.call (C_spliceSpliceq1 x5_0 x5_2 x5_1 (y5_6_0, y5_6_1) [] [])) <|
   ww (m_spliceSpliceq1_ok n x5_0 x5_2 x5_1 (y5_6_0, y5_6_1) hy5_6) <|
   ww (p := U_viewportlaw20SpliceFitst6 rnd x5_0 x5_1 x5_2 false y5_6_0 nl0 y5_6_1 () ()) (m_viewportlaw20SpliceFitst6_ok n x5_0 x5_1 x5_2 false y5_6_0 nl0 y5_6_1 () () hy5_7) <|
   ll 52 ⟨⟨[0, 1, 2, 9, 10, 11, 12], [], 0, 0, [], false, [], [], []⟩, (X_viewportlaw20SpliceFitst6 x5_0 x5_1 x5_2 false y5_6_0 nl0 y5_6_1 ()).1, (X_viewportlaw20SpliceFitst6 x5_0 x5_1 x5_2 false y5_6_0 nl0 y5_6_1 ()).2⟩ <|
   ee) (by kernel_rfl)
def S_viewportlaw20SpliceFitst1 (x1_0 : WL rw_iiiiiiLu) (x1_1 : WL rw_iiiiiiLu) (x1_2 : Int) (st : Unit) : XSt := (sT 119 [(0, (wlV x1_0)), (1, (wlV x1_1)), (2, (i6 x1_2)), (14, (bO false))], [], ⟨sB [], 0, 0⟩)
def X_viewportlaw20SpliceFitst1 (x1_0 : WL rw_iiiiiiLu) (x1_1 : WL rw_iiiiiiLu) (x1_2 : Int) (r : Unit) : Ex × XSt := match r with
 | _ => (.normal, (sT 119 [(0, (wlV x1_0)), (1, (wlV x1_1)), (2, (i6 x1_2))], [], ⟨sB [], 0, 0⟩))
abbrev U_viewportlaw20SpliceFitst1 (rd : Option Nat) (x1_0 : WL rw_iiiiiiLu) (x1_1 : WL rw_iiiiiiLu) (x1_2 : Int) (st : Unit) (r : Unit) : Prop := CG P rd (fnN P 5) 0 (codeOf P 5 [true, false, true]) (S_viewportlaw20SpliceFitst1 x1_0 x1_1 x1_2 st) (X_viewportlaw20SpliceFitst1 x1_0 x1_1 x1_2 r)
def m_viewportlaw20SpliceFitst1 (n : Nat) (x1_0 : WL rw_iiiiiiLu) (x1_1 : WL rw_iiiiiiLu) (x1_2 : Int) (st : Unit) : Option (Unit) :=
 some ()
theorem m_viewportlaw20SpliceFitst1_ok (n : Nat) {rnd : Option Nat} (x1_0 : WL rw_iiiiiiLu) (x1_1 : WL rw_iiiiiiLu) (x1_2 : Int) (st : Unit) (r : Unit) (h : m_viewportlaw20SpliceFitst1 n x1_0 x1_1 x1_2 st = some r) : CG P rnd (fnN P 5) 0 (codeOf P 5 [true, false, true]) (S_viewportlaw20SpliceFitst1 x1_0 x1_1 x1_2 st) (X_viewportlaw20SpliceFitst1 x1_0 x1_1 x1_2 r) := by
 unfold m_viewportlaw20SpliceFitst1 at h
 obtain rfl := oI h
 exact runC2 hm ⟨[0, 1, 2], [], 0, 0, [], false, [], [], []⟩ (ee) (by kernel_rfl)
def S_viewportlaw20SpliceFitst4 (x4_0 : WL rw_iiiiiiLu) (x4_1 : WL rw_iiiiiiLu) (x4_2 : Int) (st : Unit) : XSt := (sT 119 [(0, (wlV x4_0)), (1, (wlV x4_1)), (2, (i6 x4_2))], [], ⟨sB [], 0, 0⟩)
def X_viewportlaw20SpliceFitst4 (x4_0 : WL rw_iiiiiiLu) (x4_1 : WL rw_iiiiiiLu) (x4_2 : Int) (r : Unit) : Ex × XSt := match r with
 | _ => (.ret, (sT 119 [(6, (bO true))], [], ⟨sB [], 0, 0⟩))
abbrev U_viewportlaw20SpliceFitst4 (rd : Option Nat) (x4_0 : WL rw_iiiiiiLu) (x4_1 : WL rw_iiiiiiLu) (x4_2 : Int) (st : Unit) (r : Unit) : Prop := CG P rd (fnN P 5) 0 (codeOf P 5 [true, true, true]) (S_viewportlaw20SpliceFitst4 x4_0 x4_1 x4_2 st) (X_viewportlaw20SpliceFitst4 x4_0 x4_1 x4_2 r)
def m_viewportlaw20SpliceFitst4 (n : Nat) (x4_0 : WL rw_iiiiiiLu) (x4_1 : WL rw_iiiiiiLu) (x4_2 : Int) (st : Unit) : Option (Unit) :=
 (m_viewportkitPickq1 n x4_2 (((x4_0).l.length : Nat) : Int)).bind fun y4_1_ =>
 (m_viewportlaw20SpliceFitst5 n x4_0 x4_1 y4_1_ ()).bind fun _ =>
 some ()
theorem m_viewportlaw20SpliceFitst4_ok (n : Nat) {rnd : Option Nat} (x4_0 : WL rw_iiiiiiLu) (x4_1 : WL rw_iiiiiiLu) (x4_2 : Int) (st : Unit) (r : Unit) (h : m_viewportlaw20SpliceFitst4 n x4_0 x4_1 x4_2 st = some r) : CG P rnd (fnN P 5) 0 (codeOf P 5 [true, true, true]) (S_viewportlaw20SpliceFitst4 x4_0 x4_1 x4_2 st) (X_viewportlaw20SpliceFitst4 x4_0 x4_1 x4_2 r) := by
 unfold m_viewportlaw20SpliceFitst4 at h
 obtain ⟨y4_1_, hy4_1, h⟩ := oB h
 obtain ⟨_, hy4_2, h⟩ := oB h
 obtain rfl := oI h
 exact runC2 hm ⟨[6], [], 0, 0, [], false, [], [], []⟩ (yy 4 (.call (C_viewportkitPickq1 x4_2 (((x4_0).l.length : Nat) : Int) y4_1_ [] [])) <|
  ww (m_viewportkitPickq1_ok n x4_2 (((x4_0).l.length : Nat) : Int) y4_1_ hy4_1) <|
  ww (p := U_viewportlaw20SpliceFitst5 rnd x4_0 x4_1 y4_1_ () ()) (m_viewportlaw20SpliceFitst5_ok n x4_0 x4_1 y4_1_ () () hy4_2) <|
  ll 6 ⟨⟨[0, 1, 2], [], 0, 0, [], false, [], [], []⟩, (X_viewportlaw20SpliceFitst5 x4_0 x4_1 y4_1_ ()).1, (X_viewportlaw20SpliceFitst5 x4_0 x4_1 y4_1_ ()).2⟩ <|
  ee) (by kernel_rfl)
def S_viewportlaw20SpliceFitst2 (x2_0 : WL rw_iiiiiiLu) (x2_1 : WL rw_iiiiiiLu) (x2_2 : Int) (st : Unit) : XSt := (sT 119 [(0, (wlV x2_0)), (1, (wlV x2_1)), (2, (i6 x2_2))], [], ⟨sB [], 0, 0⟩)
def X_viewportlaw20SpliceFitst2 (x2_0 : WL rw_iiiiiiLu) (x2_1 : WL rw_iiiiiiLu) (x2_2 : Int) (r : Unit) : Ex × XSt := match r with
 | _ => (.ret, (sT 119 [(6, (bO true))], [], ⟨sB [], 0, 0⟩))
abbrev U_viewportlaw20SpliceFitst2 (rd : Option Nat) (x2_0 : WL rw_iiiiiiLu) (x2_1 : WL rw_iiiiiiLu) (x2_2 : Int) (st : Unit) (r : Unit) : Prop := CG P rd (fnN P 5) 0 (codeOf P 5 [true, true]) (S_viewportlaw20SpliceFitst2 x2_0 x2_1 x2_2 st) (X_viewportlaw20SpliceFitst2 x2_0 x2_1 x2_2 r)
def m_viewportlaw20SpliceFitst2 (n : Nat) (x2_0 : WL rw_iiiiiiLu) (x2_1 : WL rw_iiiiiiLu) (x2_2 : Int) (st : Unit) : Option (Unit) :=
 (m_viewportlaw20lightq1 n x2_0 x2_1).bind fun y2_1_ =>
 if y2_1_ = true then
  (m_viewportref16Checkq1 n x2_0).bind fun y2_3_ =>
  if y2_3_ = (0 : Int) then
   (m_viewportref16Checkq1 n x2_1).bind fun y2_5_ =>
   if y2_5_ = (0 : Int) then
    match m_viewportlaw20SpliceFitst3 n x2_0 x2_1 x2_2 false () with
    | none => none
    | some (.inl _) =>
     some ()
    | some (.inr _) =>
     (m_viewportlaw20SpliceFitst4 n x2_0 x2_1 x2_2 ()).bind fun _ =>
     some ()
   else
    match m_viewportlaw20SpliceFitst3 n x2_0 x2_1 x2_2 true () with
    | none => none
    | some (.inl _) =>
     some ()
    | some (.inr _) =>
     (m_viewportlaw20SpliceFitst4 n x2_0 x2_1 x2_2 ()).bind fun _ =>
     some ()
  else
   match m_viewportlaw20SpliceFitst3 n x2_0 x2_1 x2_2 true () with
   | none => none
   | some (.inl _) =>
    some ()
   | some (.inr _) =>
    (m_viewportlaw20SpliceFitst4 n x2_0 x2_1 x2_2 ()).bind fun _ =>
    some ()
 else
  match m_viewportlaw20SpliceFitst3 n x2_0 x2_1 x2_2 true () with
  | none => none
  | some (.inl _) =>
   some ()
  | some (.inr _) =>
   (m_viewportlaw20SpliceFitst4 n x2_0 x2_1 x2_2 ()).bind fun _ =>
   some ()
theorem m_viewportlaw20SpliceFitst2_ok (n : Nat) {rnd : Option Nat} (x2_0 : WL rw_iiiiiiLu) (x2_1 : WL rw_iiiiiiLu) (x2_2 : Int) (st : Unit) (r : Unit) (h : m_viewportlaw20SpliceFitst2 n x2_0 x2_1 x2_2 st = some r) : CG P rnd (fnN P 5) 0 (codeOf P 5 [true, true]) (S_viewportlaw20SpliceFitst2 x2_0 x2_1 x2_2 st) (X_viewportlaw20SpliceFitst2 x2_0 x2_1 x2_2 r) := by
 unfold m_viewportlaw20SpliceFitst2 at h
 obtain ⟨y2_1_, hy2_1, h⟩ := oB h
 have k0 := fun {A L l} (k : PL A L l) => yy 4 (.call (C_viewportlaw20lightq1 x2_0 x2_1 y2_1_ [] [])) <|
  ww (m_viewportlaw20lightq1_ok n x2_0 x2_1 y2_1_ hy2_1) <|
  k
 by_cases hy2_2 : y2_1_ = true
 ·rw [if_pos hy2_2] at h
  obtain ⟨y2_3_, hy2_3, h⟩ := oB h
  have k2 := fun {A L l} (k : PL A L l) => yy 5 (vf) <|
   ww (p := (Value.bool (!y2_1_)) = (Value.bool false)) (vBn hy2_2) <|
   yy 8 (.call (C_viewportref16Checkq1 x2_0 y2_3_ [] [])) <|
   ww (m_viewportref16Checkq1_ok n x2_0 y2_3_ hy2_3) <|
   k
  by_cases hy2_4 : y2_3_ = (0 : Int)
  ·rw [if_pos hy2_4] at h
   obtain ⟨y2_5_, hy2_5, h⟩ := oB h
   have k6 := fun {A L l} (k : PL A L l) => zz 9 (xnF hy2_4) <|
    yy 13 (.call (C_viewportref16Checkq1 x2_1 y2_5_ [] [])) <|
    ww (m_viewportref16Checkq1_ok n x2_1 y2_5_ hy2_5) <|
    k
   by_cases hy2_6 : y2_5_ = (0 : Int)
   ·rw [if_pos hy2_6] at h
    have k9 := fun {A L l} (k : PL A L l) => zz 14 (xnF hy2_6) <|
     k
    rcases hy2_7 : m_viewportlaw20SpliceFitst3 n x2_0 x2_1 x2_2 false () with _ | (⟨⟩ | ⟨⟩)
    ·rw [hy2_7] at h; cases h
    ·rw [hy2_7] at h
     dsimp only at h
     obtain rfl := oI h
     exact runC2 hm ⟨[6], [], 0, 0, [], false, [], [], []⟩ (k0 <|
      k2 <|
      k6 <|
      k9 <|
      ww (p := U_viewportlaw20SpliceFitst3 rnd x2_0 x2_1 x2_2 false () (.inl ())) (m_viewportlaw20SpliceFitst3_ok n x2_0 x2_1 x2_2 false () (.inl ()) hy2_7) <|
      ll 16 ⟨⟨[0, 1, 2, 28], [], 0, 0, [], false, [], [], []⟩, (X_viewportlaw20SpliceFitst3 x2_0 x2_1 x2_2 false (.inl ())).1, (X_viewportlaw20SpliceFitst3 x2_0 x2_1 x2_2 false (.inl ())).2⟩ <|
      ee) (by kernel_rfl)
    ·rw [hy2_7] at h
     dsimp only at h
     obtain ⟨_, hy2_8, h⟩ := oB h
     obtain rfl := oI h
     exact runC2 hm ⟨[6], [], 0, 0, [], false, [], [], []⟩ (k0 <|
      k2 <|
      k6 <|
      k9 <|
      ww (p := U_viewportlaw20SpliceFitst3 rnd x2_0 x2_1 x2_2 false () (.inr ())) (m_viewportlaw20SpliceFitst3_ok n x2_0 x2_1 x2_2 false () (.inr ()) hy2_7) <|
      ll 16 ⟨⟨[0, 1, 2, 28], [], 0, 0, [], false, [], [], []⟩, (X_viewportlaw20SpliceFitst3 x2_0 x2_1 x2_2 false (.inr ())).1, (X_viewportlaw20SpliceFitst3 x2_0 x2_1 x2_2 false (.inr ())).2⟩ <|
      ww (p := U_viewportlaw20SpliceFitst4 rnd x2_0 x2_1 x2_2 () ()) (m_viewportlaw20SpliceFitst4_ok n x2_0 x2_1 x2_2 () () hy2_8) <|
      ll 17 ⟨⟨[0, 1, 2], [], 0, 0, [], false, [], [], []⟩, (X_viewportlaw20SpliceFitst4 x2_0 x2_1 x2_2 ()).1, (X_viewportlaw20SpliceFitst4 x2_0 x2_1 x2_2 ()).2⟩ <|
      ee) (by kernel_rfl)
   ·rw [if_neg hy2_6] at h
    have k9 := fun {A L l} (k : PL A L l) => zz 14 (xnT hy2_6) <|
     k
    rcases hy2_7 : m_viewportlaw20SpliceFitst3 n x2_0 x2_1 x2_2 true () with _ | (⟨⟩ | ⟨⟩)
    ·rw [hy2_7] at h; cases h
    ·rw [hy2_7] at h
     dsimp only at h
     obtain rfl := oI h
     exact runC2 hm ⟨[6], [], 0, 0, [], false, [], [], []⟩ (k0 <|
      k2 <|
      k6 <|
      k9 <|
      ww (p := U_viewportlaw20SpliceFitst3 rnd x2_0 x2_1 x2_2 true () (.inl ())) (m_viewportlaw20SpliceFitst3_ok n x2_0 x2_1 x2_2 true () (.inl ()) hy2_7) <|
      ll 16 ⟨⟨[0, 1, 2, 28], [], 0, 0, [], false, [], [], []⟩, (X_viewportlaw20SpliceFitst3 x2_0 x2_1 x2_2 true (.inl ())).1, (X_viewportlaw20SpliceFitst3 x2_0 x2_1 x2_2 true (.inl ())).2⟩ <|
      ee) (by kernel_rfl)
    ·rw [hy2_7] at h
     dsimp only at h
     obtain ⟨_, hy2_8, h⟩ := oB h
     obtain rfl := oI h
     exact runC2 hm ⟨[6], [], 0, 0, [], false, [], [], []⟩ (k0 <|
      k2 <|
      k6 <|
      k9 <|
      ww (p := U_viewportlaw20SpliceFitst3 rnd x2_0 x2_1 x2_2 true () (.inr ())) (m_viewportlaw20SpliceFitst3_ok n x2_0 x2_1 x2_2 true () (.inr ()) hy2_7) <|
      ll 16 ⟨⟨[0, 1, 2, 28], [], 0, 0, [], false, [], [], []⟩, (X_viewportlaw20SpliceFitst3 x2_0 x2_1 x2_2 true (.inr ())).1, (X_viewportlaw20SpliceFitst3 x2_0 x2_1 x2_2 true (.inr ())).2⟩ <|
      ww (p := U_viewportlaw20SpliceFitst4 rnd x2_0 x2_1 x2_2 () ()) (m_viewportlaw20SpliceFitst4_ok n x2_0 x2_1 x2_2 () () hy2_8) <|
      ll 17 ⟨⟨[0, 1, 2], [], 0, 0, [], false, [], [], []⟩, (X_viewportlaw20SpliceFitst4 x2_0 x2_1 x2_2 ()).1, (X_viewportlaw20SpliceFitst4 x2_0 x2_1 x2_2 ()).2⟩ <|
      ee) (by kernel_rfl)
  ·rw [if_neg hy2_4] at h
   have k6 := fun {A L l} (k : PL A L l) => zz 9 (xnT hy2_4) <|
    k
   rcases hy2_5 : m_viewportlaw20SpliceFitst3 n x2_0 x2_1 x2_2 true () with _ | (⟨⟩ | ⟨⟩)
   ·rw [hy2_5] at h; cases h
   ·rw [hy2_5] at h
    dsimp only at h
    obtain rfl := oI h
    exact runC2 hm ⟨[6], [], 0, 0, [], false, [], [], []⟩ (k0 <|
     k2 <|
     k6 <|
     ww (p := U_viewportlaw20SpliceFitst3 rnd x2_0 x2_1 x2_2 true () (.inl ())) (m_viewportlaw20SpliceFitst3_ok n x2_0 x2_1 x2_2 true () (.inl ()) hy2_5) <|
     ll 16 ⟨⟨[0, 1, 2, 28], [], 0, 0, [], false, [], [], []⟩, (X_viewportlaw20SpliceFitst3 x2_0 x2_1 x2_2 true (.inl ())).1, (X_viewportlaw20SpliceFitst3 x2_0 x2_1 x2_2 true (.inl ())).2⟩ <|
     ee) (by kernel_rfl)
   ·rw [hy2_5] at h
    dsimp only at h
    obtain ⟨_, hy2_6, h⟩ := oB h
    obtain rfl := oI h
    exact runC2 hm ⟨[6], [], 0, 0, [], false, [], [], []⟩ (k0 <|
     k2 <|
     k6 <|
     ww (p := U_viewportlaw20SpliceFitst3 rnd x2_0 x2_1 x2_2 true () (.inr ())) (m_viewportlaw20SpliceFitst3_ok n x2_0 x2_1 x2_2 true () (.inr ()) hy2_5) <|
     ll 16 ⟨⟨[0, 1, 2, 28], [], 0, 0, [], false, [], [], []⟩, (X_viewportlaw20SpliceFitst3 x2_0 x2_1 x2_2 true (.inr ())).1, (X_viewportlaw20SpliceFitst3 x2_0 x2_1 x2_2 true (.inr ())).2⟩ <|
     ww (p := U_viewportlaw20SpliceFitst4 rnd x2_0 x2_1 x2_2 () ()) (m_viewportlaw20SpliceFitst4_ok n x2_0 x2_1 x2_2 () () hy2_6) <|
     ll 17 ⟨⟨[0, 1, 2], [], 0, 0, [], false, [], [], []⟩, (X_viewportlaw20SpliceFitst4 x2_0 x2_1 x2_2 ()).1, (X_viewportlaw20SpliceFitst4 x2_0 x2_1 x2_2 ()).2⟩ <|
     ee) (by kernel_rfl)
 ·rw [if_neg hy2_2] at h
  have k2 := fun {A L l} (k : PL A L l) => yy 5 (vt) <|
   ww (p := (Value.bool (!y2_1_)) = (Value.bool true)) (vBn (Bool.eq_false_iff.2 hy2_2)) <|
   k
  rcases hy2_3 : m_viewportlaw20SpliceFitst3 n x2_0 x2_1 x2_2 true () with _ | (⟨⟩ | ⟨⟩)
  ·rw [hy2_3] at h; cases h
  ·rw [hy2_3] at h
   dsimp only at h
   obtain rfl := oI h
   exact runC2 hm ⟨[6], [], 0, 0, [], false, [], [], []⟩ (k0 <|
    k2 <|
    ww (p := U_viewportlaw20SpliceFitst3 rnd x2_0 x2_1 x2_2 true () (.inl ())) (m_viewportlaw20SpliceFitst3_ok n x2_0 x2_1 x2_2 true () (.inl ()) hy2_3) <|
    ll 16 ⟨⟨[0, 1, 2, 28], [], 0, 0, [], false, [], [], []⟩, (X_viewportlaw20SpliceFitst3 x2_0 x2_1 x2_2 true (.inl ())).1, (X_viewportlaw20SpliceFitst3 x2_0 x2_1 x2_2 true (.inl ())).2⟩ <|
    ee) (by kernel_rfl)
  ·rw [hy2_3] at h
   dsimp only at h
   obtain ⟨_, hy2_4, h⟩ := oB h
   obtain rfl := oI h
   exact runC2 hm ⟨[6], [], 0, 0, [], false, [], [], []⟩ (k0 <|
    k2 <|
    ww (p := U_viewportlaw20SpliceFitst3 rnd x2_0 x2_1 x2_2 true () (.inr ())) (m_viewportlaw20SpliceFitst3_ok n x2_0 x2_1 x2_2 true () (.inr ()) hy2_3) <|
    ll 16 ⟨⟨[0, 1, 2, 28], [], 0, 0, [], false, [], [], []⟩, (X_viewportlaw20SpliceFitst3 x2_0 x2_1 x2_2 true (.inr ())).1, (X_viewportlaw20SpliceFitst3 x2_0 x2_1 x2_2 true (.inr ())).2⟩ <|
    ww (p := U_viewportlaw20SpliceFitst4 rnd x2_0 x2_1 x2_2 () ()) (m_viewportlaw20SpliceFitst4_ok n x2_0 x2_1 x2_2 () () hy2_4) <|
    ll 17 ⟨⟨[0, 1, 2], [], 0, 0, [], false, [], [], []⟩, (X_viewportlaw20SpliceFitst4 x2_0 x2_1 x2_2 ()).1, (X_viewportlaw20SpliceFitst4 x2_0 x2_1 x2_2 ()).2⟩ <|
    ee) (by kernel_rfl)
def m_viewportlaw20SpliceFits (n : Nat) (g2 : Int) : Option (Unit) :=
 (m_viewportlaw20lives n).bind fun _ =>
 (m_viewportlaw20SpliceFitst1 n wA wB g2 ()).bind fun _ =>
 (m_viewportlaw20SpliceFitst2 n wA wB g2 ()).bind fun _ =>
 some ()
theorem m_viewportlaw20SpliceFits_ok (n : Nat) (g2 : Int) (r : Unit) (h : m_viewportlaw20SpliceFits n g2 = some r) : Gv P (.func 5) (A_viewportlaw20SpliceFits g2) (H_viewportlaw20SpliceFits g2) (V_viewportlaw20SpliceFits g2 r) (R_viewportlaw20SpliceFits g2 r) := by
 unfold m_viewportlaw20SpliceFits at h
 obtain ⟨_, hc1, h⟩ := oB h
 obtain ⟨_, hc2, h⟩ := oB h
 obtain ⟨_, hc3, h⟩ := oB h
 obtain rfl := oI h
 exact runF2 hm ⟨[6], [], 0, 0, [], false, [], [], []⟩ (yy 4 (.call ⟨0, [], (Value.bool true), Ax.h0, []⟩) <|
  ww (m_viewportlaw20lives_ok n  () hc1) <|
  ww (p := U_viewportlaw20SpliceFitst1 none wA wB g2 () ()) (m_viewportlaw20SpliceFitst1_ok n wA wB g2 () () hc2) <|
  ll 6 ⟨⟨[0, 1, 2, 14], [], 0, 0, [], false, [], [], []⟩, (X_viewportlaw20SpliceFitst1 wA wB g2 ()).1, (X_viewportlaw20SpliceFitst1 wA wB g2 ()).2⟩ <|
  ww (p := U_viewportlaw20SpliceFitst2 none wA wB g2 () ()) (m_viewportlaw20SpliceFitst2_ok n wA wB g2 () () hc3) <|
  ll 7 ⟨⟨[0, 1, 2], [], 0, 0, [], false, [], [], []⟩, (X_viewportlaw20SpliceFitst2 wA wB g2 ()).1, (X_viewportlaw20SpliceFitst2 wA wB g2 ()).2⟩ <|
  ee) (by kernel_rfl)

end Go.Proofs.Ytofkckljnmphdaa.spf20
