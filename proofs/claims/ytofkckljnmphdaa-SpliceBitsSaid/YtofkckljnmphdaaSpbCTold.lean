/-
  What functions do, told by pure functions. No condition.
-/
import Derived.Test.YtofkckljnmphdaaSpbBTold
set_option linter.unusedSimpArgs false
set_option linter.unusedVariables false
set_option linter.unusedSectionVars false
set_option linter.unnecessarySimpa false
set_option maxRecDepth 100000
noncomputable section
namespace Go.Proofs.Ytofkckljnmphdaa.spb20
open Go Go.Proofs.Ytofkckljnmphdaa Ax
variable [Args]
def qmo_ (a0 : WL rw_iiiiiiLu) (a1 : Int) (a2 : Int) (a3 : Int) (a4 : Int) (a5 : Int) (a6 : Int) : List Value := [(wlV a0), (i6 a1), (Value.agg #[(i6 a2), (i6 a3), (i6 a4), (i6 a5), (i6 a6)])]
def qmp_ (a0 : WL rw_iiiiiiLu) (a1 : Int) (a2 : Int) (a3 : Int) (a4 : Int) (a5 : Int) (a6 : Int) : AH := ⟨sB [], 0, 0⟩
def qkg_ (a0 : WL rw_iiiiiiLu) (a1 : Int) (a2 : Int) (a3 : Int) (a4 : Int) (a5 : Int) (a6 : Int) (r : Bool) : Value := match r with
 | o0 => (bO o0)
def qkh_ (a0 : WL rw_iiiiiiLu) (a1 : Int) (a2 : Int) (a3 : Int) (a4 : Int) (a5 : Int) (a6 : Int) (r : Bool) : AH := match r with
 | o0 => ⟨sB [], 0, 0⟩
abbrev G_spliceDoneq1 (a0 : WL rw_iiiiiiLu) (a1 : Int) (a2 : Int) (a3 : Int) (a4 : Int) (a5 : Int) (a6 : Int) (r : Bool) : Prop := Gv P (.func 11) (qmo_ a0 a1 a2 a3 a4 a5 a6) (qmp_ a0 a1 a2 a3 a4 a5 a6) (qkg_ a0 a1 a2 a3 a4 a5 a6 r) (qkh_ a0 a1 a2 a3 a4 a5 a6 r)
abbrev qiw_ (a0 : WL rw_iiiiiiLu) (a1 : Int) (a2 : Int) (a3 : Int) (a4 : Int) (a5 : Int) (a6 : Int) (r : Bool) (ins outs : BL) : CallA := ⟨0, ins, qkg_ a0 a1 a2 a3 a4 a5 a6 r, qkh_ a0 a1 a2 a3 a4 a5 a6 r, outs⟩
def qd0_ (n : Nat) (a0 : WL rw_iiiiiiLu) (a1 : Int) (a2 : Int) (a3 : Int) (a4 : Int) (a5 : Int) (a6 : Int) : Option (Bool) :=
 (qhu_ n a0 a1).bind fun c1_ =>
 if c1_ = (0 : Int) then
  some false
 else
  (qhf_ n a2).bind fun c3_ =>
  if c3_ = true then
   if a3 > a4 then
    some false
   else
    if 0 ≤ a1 ∧ a1 < (((a0).l.length : Nat) : Int) then
     ((some (((a0).l).getD (a1).toNat (0, 0, 0, 0, 0, 0, nl0, 0)))).bind fun c7_ =>
     if a3 < (c7_.2.2.1) then
      some false
     else
      if a4 > (c7_.2.2.2.2.1) then
       some false
      else
       (qcz_ n a0 0 a1).bind fun _ =>
       (qbj_ n a0 0 a1).bind fun c11_ =>
       (qcz_ n a0 c1_ (((a0).l.length : Nat) : Int)).bind fun _ =>
       (qbj_ n a0 c1_ (((a0).l.length : Nat) : Int)).bind fun c13_ =>
       if 0 ≤ a2 then
        if (bAnd .u64 (shrV .u64 (bOr .u64 c11_ c13_) a2) (1 : Int)) = (0 : Int) then
         some true
        else
         some false
       else none
    else none
  else
   some false
theorem qgd_ (n : Nat) (a0 : WL rw_iiiiiiLu) (a1 : Int) (a2 : Int) (a3 : Int) (a4 : Int) (a5 : Int) (a6 : Int) (r : Bool) (h : qd0_ n a0 a1 a2 a3 a4 a5 a6 = some r) : Gv P (.func 11) (qmo_ a0 a1 a2 a3 a4 a5 a6) (qmp_ a0 a1 a2 a3 a4 a5 a6) (qkg_ a0 a1 a2 a3 a4 a5 a6 r) (qkh_ a0 a1 a2 a3 a4 a5 a6 r) := by
 unfold qd0_ at h
 obtain ⟨c1_, hc1, h⟩ := oB h
 have k0 := fun {A L l} (k : PL A L l) => yy 6 (.call (qm3_ a0 a1 c1_ [] [])) <|
  ww (qkc_ n a0 a1 c1_ hc1) <|
  k
 by_cases hc2 : c1_ = (0 : Int)
 ·rw [if_pos hc2] at h
  obtain rfl := oI h
  exact runF2 hm ⟨[6], [], 0, 0, [], false, [], [], []⟩ (k0 <|
   zz 11 (xeT hc2) <|
   ee) (by kernel_rfl)
 ·rw [if_neg hc2] at h
  obtain ⟨c3_, hc3, h⟩ := oB h
  have k2 := fun {A L l} (k : PL A L l) => zz 11 (xeF hc2) <|
   yy 15 (.call (qob_ a2 c3_ [] [])) <|
   ww (qmn_ n a2 c3_ hc3) <|
   k
  by_cases hc4 : c3_ = true
  ·rw [if_pos hc4] at h
   have k5 := fun {A L l} (k : PL A L l) => yy 16 (vf) <|
    ww (p := (Value.bool (!c3_)) = (Value.bool false)) (vBn hc4) <|
    k
   by_cases hc5 : a3 > a4
   ·rw [if_pos hc5] at h
    obtain rfl := oI h
    exact runF2 hm ⟨[6], [], 0, 0, [], false, [], [], []⟩ (k0 <|
     k2 <|
     k5 <|
     zz 27 (xdT hc5) <|
     ee) (by kernel_rfl)
   ·rw [if_neg hc5] at h
    obtain ⟨hc6, h⟩ := gd h
    obtain ⟨c7_, hc7, h⟩ := oB h
    have k7 := fun {A L l} (k : PL A L l) => zz 27 (xdF hc5) <|
     zz 34 (xk1 (a0).num (a0).off (a0).cap hc6) <|
     zz 35 (fk5 (a0).num (Nat.add (a0).off ((a1).toNat * 8))) <|
     zz 36 (lk6 hc7 (toNatLt hc6)) <|
     k
    by_cases hc8 : a3 < (c7_.2.2.1)
    ·rw [if_pos hc8] at h
     obtain rfl := oI h
     exact runF2 hm ⟨[6], [], 0, 0, [], false, [], [], []⟩ (k0 <|
      k2 <|
      k5 <|
      k7 <|
      zz 37 (xdT hc8) <|
      ee) (by kernel_rfl)
    ·rw [if_neg hc8] at h
     have k11 := fun {A L l} (k : PL A L l) => zz 37 (xdF hc8) <|
      zz 45 (xk1 (a0).num (a0).off (a0).cap hc6) <|
      zz 46 (fk11 (a0).num (Nat.add (a0).off ((a1).toNat * 8))) <|
      zz 47 (lk12 hc7 (toNatLt hc6)) <|
      k
     by_cases hc9 : a4 > (c7_.2.2.2.2.1)
     ·rw [if_pos hc9] at h
      obtain rfl := oI h
      exact runF2 hm ⟨[6], [], 0, 0, [], false, [], [], []⟩ (k0 <|
       k2 <|
       k5 <|
       k7 <|
       k11 <|
       zz 48 (xdT hc9) <|
       ee) (by kernel_rfl)
     ·rw [if_neg hc9] at h
      obtain ⟨_, hc10, h⟩ := oB h
      obtain ⟨c11_, hc11, h⟩ := oB h
      obtain ⟨_, hc12, h⟩ := oB h
      obtain ⟨c13_, hc13, h⟩ := oB h
      obtain ⟨hc14, h⟩ := gd h
      have k15 := fun {A L l} (k : PL A L l) => zz 48 (xdF hc9) <|
       yy 54 (.call (qhc_ a0 0 a1 () [] [(1, 0, false), (2, 1, false), (3, 2, false)])) <|
       ww (qek_ n a0 0 a1 () hc10) <|
       yy 55 (.call (qe3_ a0 0 a1 c11_ [(0, 1, false), (1, 2, false), (2, 3, false)] [(1, 0, false), (2, 1, false), (3, 2, false)])) <|
       ww (qdz_ n a0 0 a1 c11_ hc11) <|
       yy 60 (.call (qhc_ a0 c1_ (((a0).l.length : Nat) : Int) () [] [(4, 0, false), (5, 1, false), (6, 2, false)])) <|
       ww (qek_ n a0 c1_ (((a0).l.length : Nat) : Int) () hc12) <|
       yy 61 (.call (qe3_ a0 c1_ (((a0).l.length : Nat) : Int) c13_ [(0, 4, false), (1, 5, false), (2, 6, false)] [(4, 0, false), (5, 1, false), (6, 2, false)])) <|
       ww (qdz_ n a0 c1_ (((a0).l.length : Nat) : Int) c13_ hc13) <|
       yy 68 (.pur (Value.int .u64 (shrV .u64 (bOr .u64 c11_ c13_) a2))) <|
       ww (p := opBin P .shr 41 (.tmp 60) (.tmp 62) (Value.int .u64 (bOr .u64 c11_ c13_)) (i6 a2) Ax.h0 = some ((Value.int .u64 (shrV .u64 (bOr .u64 c11_ c13_) a2)), Ax.h0)) (shr_u64_i64 hc14) <|
       k
      by_cases hc15 : (bAnd .u64 (shrV .u64 (bOr .u64 c11_ c13_) a2) (1 : Int)) = (0 : Int)
      ·rw [if_pos hc15] at h
       obtain rfl := oI h
       exact runF2 hm ⟨[6], [], 0, 0, [], false, [], [], []⟩ (k0 <|
        k2 <|
        k5 <|
        k7 <|
        k11 <|
        k15 <|
        zz 70 (xeT hc15) <|
        ee) (by kernel_rfl)
      ·rw [if_neg hc15] at h
       obtain rfl := oI h
       exact runF2 hm ⟨[6], [], 0, 0, [], false, [], [], []⟩ (k0 <|
        k2 <|
        k5 <|
        k7 <|
        k11 <|
        k15 <|
        zz 70 (xeF hc15) <|
        ee) (by kernel_rfl)
  ·rw [if_neg hc4] at h
   obtain rfl := oI h
   exact runF2 hm ⟨[6], [], 0, 0, [], false, [], [], []⟩ (k0 <|
    k2 <|
    yy 16 (vt) <|
    ww (p := (Value.bool (!c3_)) = (Value.bool true)) (vBn (Bool.eq_false_iff.2 hc4)) <|
    ee) (by kernel_rfl)

def qjy_ (a0 : WL rw_iiiiiiLu) : List Value := [(wlV a0)]
def qjz_ (a0 : WL rw_iiiiiiLu) : AH := ⟨sB [], 0, 0⟩
def qj0_ (a0 : WL rw_iiiiiiLu) (r : NL) : Value := match r with
 | o0 => (nlV o0)
def qhy_ (a0 : WL rw_iiiiiiLu) (r : NL) : AH := match r with
 | o0 => ⟨sB [], 0, 0⟩
abbrev G_treeParentsq1 (a0 : WL rw_iiiiiiLu) (r : NL) : Prop := Gv P (.func 37) (qjy_ a0) (qjz_ a0) (qj0_ a0 r) (qhy_ a0 r)
abbrev qhz_ (a0 : WL rw_iiiiiiLu) (r : NL) (ins outs : BL) : CallA := ⟨0, ins, qj0_ a0 r, qhy_ a0 r, outs⟩
def qdt_ (x2_1 : Nat) (x2_2 : Int) (x2_3 : WL rw_iiiiiiLu) (x2_4 : Int) (x2_5 : NL) (x2_6 : Int) (st : List Int × Int) : XSt := match st with
 | (x2_0, x2_7) => (sT 37 [(3, (sN 0 0 x2_1 x2_1)), (4, (i6 x2_2)), (16, (wlV x2_3)), (17, (i6 x2_4)), (18, (i6 x2_2)), (24, (nlV x2_5)), (25, (i6 x2_6)), (26, (i6 x2_7))], [], ⟨sB [(0, (some (.cells (layT (iv x2_0)) 3)))], 1, 0⟩)
def qdu_ (x2_1 : Nat) (x2_2 : Int) (x2_3 : WL rw_iiiiiiLu) (x2_4 : Int) (x2_5 : NL) (x2_6 : Int) (r : List Int) : Ex × XSt := match r with
 | z2_0 => (.exit 2, (sT 37 [(3, (sN 0 0 x2_1 x2_1)), (16, (wlV x2_3)), (17, (i6 x2_4)), (18, (i6 x2_2))], [], ⟨sB [(0, (some (.cells (layT (iv z2_0)) 3)))], 1, 0⟩))
abbrev Q_treeParentsq1_2 (rnd : Option Nat) (x2_1 : Nat) (x2_2 : Int) (x2_3 : WL rw_iiiiiiLu) (x2_4 : Int) (x2_5 : NL) (x2_6 : Int) (st : List Int × Int) (c : Ex × XSt) : Prop := CG P rnd (fnN P 37) 0 (codeOf P 37 [false, false, true, true, false, false, true, true, false, false, true, false, true, true, true, true]) (qdt_ x2_1 x2_2 x2_3 x2_4 x2_5 x2_6 st) c
abbrev qnp_ (rd : Option Nat) (x2_1 : Nat) (x2_2 : Int) (x2_3 : WL rw_iiiiiiLu) (x2_4 : Int) (x2_5 : NL) (x2_6 : Int) (st : List Int × Int) (r : List Int) : Prop := CG P rd (fnN P 37) 0 (codeOf P 37 [false, true, true, false, false, true, true, false, false, true, false, true, true, true, true]) (qdt_ x2_1 x2_2 x2_3 x2_4 x2_5 x2_6 st) (qdu_ x2_1 x2_2 x2_3 x2_4 x2_5 x2_6 r)
def qcf_ (n : Nat) (x2_1 : Nat) (x2_2 : Int) (x2_3 : WL rw_iiiiiiLu) (x2_4 : Int) (x2_5 : NL) (x2_6 : Int) (st : List Int × Int) : Option ((List Int × Int) ⊕ (List Int)) := match st with
 | (x2_0, x2_7) =>
  if x2_7 < x2_6 then
   if 0 ≤ x2_7 ∧ x2_7 < (((x2_5).l.length : Nat) : Int) then
    if (x2_7).toNat < ((x2_5).l).length then
     ((some (((x2_5).l).getD (x2_7).toNat 0))).bind fun y2_4_ =>
     if 0 ≤ y2_4_ ∧ y2_4_ < ((x2_1 : Nat) : Int) then
      if (y2_4_).toNat < (x2_0).length then
       some (.inl (((x2_0).set (y2_4_).toNat x2_2), (w64 (x2_7 + (1 : Int)))))
      else none
     else none
    else none
   else none
  else
   some (.inr x2_0)
def qge_ (n : Nat) (x2_1 : Nat) (x2_2 : Int) (x2_3 : WL rw_iiiiiiLu) (x2_4 : Int) (x2_5 : NL) (x2_6 : Int) (st : List Int × Int) : Option (List Int) := iterM (qcf_ n x2_1 x2_2 x2_3 x2_4 x2_5 x2_6) n st
theorem qkq_ (n : Nat) {rnd : Option Nat} (x2_1 : Nat) (x2_2 : Int) (x2_3 : WL rw_iiiiiiLu) (x2_4 : Int) (x2_5 : NL) (x2_6 : Int) (st : List Int × Int) (o : (List Int × Int) ⊕ (List Int)) (h : qcf_ n x2_1 x2_2 x2_3 x2_4 x2_5 x2_6 st = some o) : CG P rnd (fnN P 37) 0 (codeOf P 37 [false, false, true, true, false, false, true, true, false, false, true, false, true, true, true, true]) (qdt_ x2_1 x2_2 x2_3 x2_4 x2_5 x2_6 st) (Sum.elim (fun s => (.normal, qdt_ x2_1 x2_2 x2_3 x2_4 x2_5 x2_6 s)) (fun r => qdu_ x2_1 x2_2 x2_3 x2_4 x2_5 x2_6 r) o) := by
 obtain ⟨x2_0, x2_7⟩ := st
 unfold qcf_ at h
 dsimp only at h
 by_cases hy2_1 : x2_7 < x2_6
 ·rw [if_pos hy2_1] at h
  obtain ⟨hy2_2, h⟩ := gd h
  obtain ⟨hy2_3, h⟩ := gd h
  obtain ⟨y2_4_, hy2_4, h⟩ := oB h
  obtain ⟨hy2_5, h⟩ := gd h
  obtain ⟨hy2_6, h⟩ := gd h
  obtain rfl := oI h
  exact runC2 hm ⟨[3, 4, 16, 17, 18, 24, 25, 26], [(0, 0, true)], 1, 0, [], false, [], [], []⟩ (zz 1 (xdT hy2_1) <|
   zz 7 (xk9 (Nat.add (x2_5).num 64) (x2_5).off (x2_5).cap hy2_2) <|
   zz 8 (nk10 hy2_4 hy2_3) <|
   zz 13 (xk18 0 x2_1 hy2_5) <|
   yy 14 (.sto (layT (iv ((x2_0).set (y2_4_).toNat x2_2)))) <|
   ww (p := ∃ old, rdT (layT (iv x2_0)) 1 (y2_4_).toNat = some old) (Exists.elim (iv_st (x2_0) ((y2_4_).toNat) (x2_2) hy2_6) fun o h => ⟨o, h.1⟩) <|
   ww (p := layL [(i6 x2_2)] (y2_4_).toNat (layT (iv x2_0)) = layT (iv ((x2_0).set (y2_4_).toNat x2_2))) (Exists.elim (iv_st (x2_0) ((y2_4_).toNat) (x2_2) hy2_6) fun o h => h.2) <|
   ww (iv_flat ((x2_0).set (y2_4_).toNat x2_2) 3) <|
   ee) (by kernel_rfl)
 ·rw [if_neg hy2_1] at h
  obtain rfl := oI h
  exact runC2 hm ⟨[3, 16, 17, 18], [(0, 0, true)], 1, 0, [], false, [], [], []⟩ (zz 1 (xdF hy2_1) <|
   ww (iv_flat x2_0 3) <|
   ee) (by kernel_rfl)
theorem qmd_ (n : Nat) {rnd : Option Nat} (x2_1 : Nat) (x2_2 : Int) (x2_3 : WL rw_iiiiiiLu) (x2_4 : Int) (x2_5 : NL) (x2_6 : Int) (st : List Int × Int) (r : List Int) (h : qge_ n x2_1 x2_2 x2_3 x2_4 x2_5 x2_6 st = some r) : CG P rnd (fnN P 37) 0 (codeOf P 37 [false, true, true, false, false, true, true, false, false, true, false, true, true, true, true]) (qdt_ x2_1 x2_2 x2_3 x2_4 x2_5 x2_6 st) (qdu_ x2_1 x2_2 x2_3 x2_4 x2_5 x2_6 r) :=
 CG.iter (b := codeOf P 37 [false, false, true, true, false, false, true, true, false, false, true, false, true, true, true, true]) (by kernel_rfl) (body := qcf_ n x2_1 x2_2 x2_3 x2_4 x2_5 x2_6) (S := qdt_ x2_1 x2_2 x2_3 x2_4 x2_5 x2_6) (X := qdu_ x2_1 x2_2 x2_3 x2_4 x2_5 x2_6)
  (fun s s' h => qkq_ n x2_1 x2_2 x2_3 x2_4 x2_5 x2_6 s (.inl s') h)
  (fun s r h => qkq_ n x2_1 x2_2 x2_3 x2_4 x2_5 x2_6 s (.inr r) h)
  (fun r => by intro hx; cases hx) h
def qdv_ (x1_1 : Nat) (x1_2 : WL rw_iiiiiiLu) (x1_3 : Int) (st : List Int × Int) : XSt := match st with
 | (x1_0, x1_4) => (sT 37 [(3, (sN 0 0 x1_1 x1_1)), (16, (wlV x1_2)), (17, (i6 x1_3)), (18, (i6 x1_4))], [], ⟨sB [(0, (some (.cells (layT (iv x1_0)) 3)))], 1, 0⟩)
def qdw_ (x1_1 : Nat) (x1_2 : WL rw_iiiiiiLu) (x1_3 : Int) (r : List Int) : Ex × XSt := match r with
 | z1_0 => (.exit 0, (sT 37 [(3, (sN 0 0 x1_1 x1_1))], [], ⟨sB [(0, (some (.cells (layT (iv z1_0)) 3)))], 1, 0⟩))
abbrev Q_treeParentsq1_1 (rnd : Option Nat) (x1_1 : Nat) (x1_2 : WL rw_iiiiiiLu) (x1_3 : Int) (st : List Int × Int) (c : Ex × XSt) : Prop := CG P rnd (fnN P 37) 0 (codeOf P 37 [false, false, true, false, true, true, true, true]) (qdv_ x1_1 x1_2 x1_3 st) c
abbrev qnq_ (rd : Option Nat) (x1_1 : Nat) (x1_2 : WL rw_iiiiiiLu) (x1_3 : Int) (st : List Int × Int) (r : List Int) : Prop := CG P rd (fnN P 37) 0 (codeOf P 37 [false, true, false, true, true, true, true]) (qdv_ x1_1 x1_2 x1_3 st) (qdw_ x1_1 x1_2 x1_3 r)
def qcg_ (n : Nat) (x1_1 : Nat) (x1_2 : WL rw_iiiiiiLu) (x1_3 : Int) (st : List Int × Int) : Option ((List Int × Int) ⊕ (List Int)) := match st with
 | (x1_0, x1_4) =>
  if x1_4 < x1_3 then
   if 0 ≤ x1_4 ∧ x1_4 < (((x1_2).l.length : Nat) : Int) then
    ((some (((x1_2).l).getD (x1_4).toNat (0, 0, 0, 0, 0, 0, nl0, 0)))).bind fun y1_3_ =>
    (qge_ n x1_1 x1_4 x1_2 x1_3 (y1_3_.2.2.2.2.2.2.1) ((((y1_3_.2.2.2.2.2.2.1)).l.length : Nat) : Int) (x1_0, 0)).bind fun y1_4_ =>
    some (.inl (y1_4_, (w64 (x1_4 + (1 : Int)))))
   else none
  else
   some (.inr x1_0)
def qgf_ (n : Nat) (x1_1 : Nat) (x1_2 : WL rw_iiiiiiLu) (x1_3 : Int) (st : List Int × Int) : Option (List Int) := iterM (qcg_ n x1_1 x1_2 x1_3) n st
theorem qkr_ (n : Nat) {rnd : Option Nat} (x1_1 : Nat) (x1_2 : WL rw_iiiiiiLu) (x1_3 : Int) (st : List Int × Int) (o : (List Int × Int) ⊕ (List Int)) (h : qcg_ n x1_1 x1_2 x1_3 st = some o) : CG P rnd (fnN P 37) 0 (codeOf P 37 [false, false, true, false, true, true, true, true]) (qdv_ x1_1 x1_2 x1_3 st) (Sum.elim (fun s => (.normal, qdv_ x1_1 x1_2 x1_3 s)) (fun r => qdw_ x1_1 x1_2 x1_3 r) o) := by
 obtain ⟨x1_0, x1_4⟩ := st
 unfold qcg_ at h
 dsimp only at h
 by_cases hy1_1 : x1_4 < x1_3
 ·rw [if_pos hy1_1] at h
  obtain ⟨hy1_2, h⟩ := gd h
  obtain ⟨y1_3_, hy1_3, h⟩ := oB h
  obtain ⟨y1_4_, hy1_4, h⟩ := oB h
  obtain rfl := oI h
  exact runC2 hm ⟨[3, 16, 17, 18], [(0, 0, true)], 1, 0, [], false, [], [], []⟩ (zz 1 (xdT hy1_1) <|
   zz 8 (xk1 (x1_2).num (x1_2).off (x1_2).cap hy1_2) <|
   zz 9 (lk2 hy1_3 (toNatLt hy1_2)) <|
   ww (p := qnp_ rnd x1_1 x1_4 x1_2 x1_3 (y1_3_.2.2.2.2.2.2.1) ((((y1_3_.2.2.2.2.2.2.1)).l.length : Nat) : Int) (x1_0, 0) y1_4_) (qmd_ n x1_1 x1_4 x1_2 x1_3 (y1_3_.2.2.2.2.2.2.1) ((((y1_3_.2.2.2.2.2.2.1)).l.length : Nat) : Int) (x1_0, 0) y1_4_ hy1_4) <|
   ww (iv_flat x1_0 3) <|
   ll 19 ⟨⟨[3, 4, 16, 17, 18, 24, 25, 26], [(0, 0, true)], 1, 0, [], false, [], [], []⟩, (qdu_ x1_1 x1_4 x1_2 x1_3 (y1_3_.2.2.2.2.2.2.1) ((((y1_3_.2.2.2.2.2.2.1)).l.length : Nat) : Int) y1_4_).1, (qdu_ x1_1 x1_4 x1_2 x1_3 (y1_3_.2.2.2.2.2.2.1) ((((y1_3_.2.2.2.2.2.2.1)).l.length : Nat) : Int) y1_4_).2⟩ <|
   ww (iv_flat y1_4_ 3) <|
   ee) (by kernel_rfl)
 ·rw [if_neg hy1_1] at h
  obtain rfl := oI h
  exact runC2 hm ⟨[3], [(0, 0, true)], 1, 0, [], false, [], [], []⟩ (zz 1 (xdF hy1_1) <|
   ww (iv_flat x1_0 3) <|
   ee) (by kernel_rfl)
theorem qme_ (n : Nat) {rnd : Option Nat} (x1_1 : Nat) (x1_2 : WL rw_iiiiiiLu) (x1_3 : Int) (st : List Int × Int) (r : List Int) (h : qgf_ n x1_1 x1_2 x1_3 st = some r) : CG P rnd (fnN P 37) 0 (codeOf P 37 [false, true, false, true, true, true, true]) (qdv_ x1_1 x1_2 x1_3 st) (qdw_ x1_1 x1_2 x1_3 r) :=
 CG.iter (b := codeOf P 37 [false, false, true, false, true, true, true, true]) (by kernel_rfl) (body := qcg_ n x1_1 x1_2 x1_3) (S := qdv_ x1_1 x1_2 x1_3) (X := qdw_ x1_1 x1_2 x1_3)
  (fun s s' h => qkr_ n x1_1 x1_2 x1_3 s (.inl s') h)
  (fun s r h => qkr_ n x1_1 x1_2 x1_3 s (.inr r) h)
  (fun r => by intro hx; cases hx) h
def qc0_ (n : Nat) (a0 : WL rw_iiiiiiLu) : Option (NL) :=
 (qce_ n a0).bind fun c1_ =>
 if c1_ = (0 : Int) then
  if 0 ≤ (((a0).l.length : Nat) : Int) then
   if ((((a0).l.length : Nat) : Int)).toNat * 8 ≤ 140737488355328 then
    if 0 ≤ (0 : Int) ∧ (0 : Int) < ((((((a0).l.length : Nat) : Int)).toNat : Nat) : Int) then
     if ((0 : Int)).toNat < ((List.replicate ((((a0).l.length : Nat) : Int)).toNat (0 : Int))).length then
      (qgf_ n (((((a0).l.length : Nat) : Int)).toNat) a0 (((a0).l.length : Nat) : Int) ((((List.replicate ((((a0).l.length : Nat) : Int)).toNat (0 : Int))).set ((0 : Int)).toNat (-1 : Int)), 0)).bind fun c7_ =>
      if (((((a0).l.length : Nat) : Int)).toNat) = c7_.length then
       if hc9 : c7_.length ≤ 9223372036854775807 then
        some (frzL c7_ hc9)
       else none
      else none
     else none
    else none
   else none
  else none
 else
  some nl0
theorem qfe_ (n : Nat) (a0 : WL rw_iiiiiiLu) (r : NL) (h : qc0_ n a0 = some r) : Gv P (.func 37) (qjy_ a0) (qjz_ a0) (qj0_ a0 r) (qhy_ a0 r) := by
 unfold qc0_ at h
 obtain ⟨c1_, hc1, h⟩ := oB h
 have k0 := fun {A L l} (k : PL A L l) => yy 5 (.call (qez_ a0 c1_ [] [])) <|
  ww (qdj_ n a0 c1_ hc1) <|
  k
 by_cases hc2 : c1_ = (0 : Int)
 ·rw [if_pos hc2] at h
  obtain ⟨hc3, h⟩ := gd h
  obtain ⟨hc4, h⟩ := gd h
  obtain ⟨hc5, h⟩ := gd h
  obtain ⟨hc6, h⟩ := gd h
  obtain ⟨c7_, hc7, h⟩ := oB h
  obtain ⟨hc8, h⟩ := gd h
  obtain ⟨hc9, h⟩ := gdD h
  obtain rfl := oI h
  have k0_ : Gv P (.func 37) (qjy_ a0) (qjz_ a0) (Value.slice (some ⟨Nat.add (2 * cod c7_ + 1) 64, 0, some 1⟩) (((((a0).l.length : Nat) : Int)).toNat) (Nat.add big (((((a0).l.length : Nat) : Int)).toNat))) (qhy_ a0 (frzL c7_ hc9)) := runF2 hm ⟨[2], [], 0, 0, [(0, Nat.add (2 * cod c7_ + 1) 64)], true, [], [], []⟩ (k0 <|
  zz 6 (xnF hc2) <|
  yy 11 (.mk ((((a0).l.length : Nat) : Int)).toNat (iv (List.replicate ((((a0).l.length : Nat) : Int)).toNat (0 : Int)))) <|
  ww (p := natOf (i6 (((a0).l.length : Nat) : Int)) = some ((((a0).l.length : Nat) : Int)).toNat) (natOf_toNat hc3) <|
  ww (p := natOf (i6 (((a0).l.length : Nat) : Int)) = some ((((a0).l.length : Nat) : Int)).toNat) (natOf_toNat hc3) <|
  ww (p := fits ((((a0).l.length : Nat) : Int)).toNat 8 = true) (fits_ok hc4 (by omega)) <|
  ww (p := isZ8 [(i6 (0 : Int))] = false) (rfl) <|
  ww (p := reps [(i6 (0 : Int))] ((((a0).l.length : Nat) : Int)).toNat = (iv (List.replicate ((((a0).l.length : Nat) : Int)).toNat (0 : Int)))) (reps_iv _) <|
  zz 15 (xk18 0 ((((a0).l.length : Nat) : Int)).toNat hc5) <|
  yy 16 (.sto (layT (iv (((List.replicate ((((a0).l.length : Nat) : Int)).toNat (0 : Int))).set ((0 : Int)).toNat (-1 : Int))))) <|
  ww (p := ∃ old, rdT (layT (iv (List.replicate ((((a0).l.length : Nat) : Int)).toNat (0 : Int)))) 1 ((0 : Int)).toNat = some old) (Exists.elim (iv_st ((List.replicate ((((a0).l.length : Nat) : Int)).toNat (0 : Int))) (((0 : Int)).toNat) ((-1 : Int)) hc6) fun o h => ⟨o, h.1⟩) <|
  ww (p := layL [(i6 (-1 : Int))] ((0 : Int)).toNat (layT (iv (List.replicate ((((a0).l.length : Nat) : Int)).toNat (0 : Int)))) = layT (iv (((List.replicate ((((a0).l.length : Nat) : Int)).toNat (0 : Int))).set ((0 : Int)).toNat (-1 : Int)))) (Exists.elim (iv_st ((List.replicate ((((a0).l.length : Nat) : Int)).toNat (0 : Int))) (((0 : Int)).toNat) ((-1 : Int)) hc6) fun o h => h.2) <|
  ww (p := qnq_ none (((((a0).l.length : Nat) : Int)).toNat) a0 (((a0).l.length : Nat) : Int) ((((List.replicate ((((a0).l.length : Nat) : Int)).toNat (0 : Int))).set ((0 : Int)).toNat (-1 : Int)), 0) c7_) (qme_ n (((((a0).l.length : Nat) : Int)).toNat) a0 (((a0).l.length : Nat) : Int) ((((List.replicate ((((a0).l.length : Nat) : Int)).toNat (0 : Int))).set ((0 : Int)).toNat (-1 : Int)), 0) c7_ hc7) <|
  ww (iv_flat (((List.replicate ((((a0).l.length : Nat) : Int)).toNat (0 : Int))).set ((0 : Int)).toNat (-1 : Int)) 3) <|
  ll 23 ⟨⟨[3, 16, 17, 18], [(0, 0, true)], 1, 0, [], false, [], [], []⟩, (qdw_ (((((a0).l.length : Nat) : Int)).toNat) a0 (((a0).l.length : Nat) : Int) c7_).1, (qdw_ (((((a0).l.length : Nat) : Int)).toNat) a0 (((a0).l.length : Nat) : Int) c7_).2⟩ <|
  ww (frz_ok qbs_ qd1_ c7_) <|
  ee) (by kernel_rfl)
  have k1_ := gvLen (fn := fun m_ => (Value.slice (some ⟨Nat.add (2 * cod c7_ + 1) 64, 0, some 1⟩) m_ (Nat.add big m_))) hc8 k0_
  exact k1_
 ·rw [if_neg hc2] at h
  obtain rfl := oI h
  exact runF2 hm ⟨[2], [], 0, 0, [], true, [], [], [2]⟩ (k0 <|
   zz 6 (xnT hc2) <|
   ee) (by kernel_rfl)

def qd8_ (a0 : WL rw_iiiiiiLu) (a1 : Int) (a2 : WL rw_iiiiiiLu) (a3 : WL rw_iiiii) : List Value := [(wlV a0), (i6 a1), (wlV a2), (wlV a3)]
def qd9_ (a0 : WL rw_iiiiiiLu) (a1 : Int) (a2 : WL rw_iiiiiiLu) (a3 : WL rw_iiiii) : AH := ⟨sB [], 0, 0⟩
def qjb_ (a0 : WL rw_iiiiiiLu) (a1 : Int) (a2 : WL rw_iiiiiiLu) (a3 : WL rw_iiiii) (r : WL rw_iiiiiiLu × NL × Int) : Value := match r with
 | (o0, o1, o2) => (Value.tuple #[(wlV o0), (nlV o1), (i6 o2)])
def qdk_ (a0 : WL rw_iiiiiiLu) (a1 : Int) (a2 : WL rw_iiiiiiLu) (a3 : WL rw_iiiii) (r : WL rw_iiiiiiLu × NL × Int) : AH := match r with
 | (o0, o1, o2) => ⟨sB [], 0, 0⟩
abbrev G_spliceSpliceq1 (a0 : WL rw_iiiiiiLu) (a1 : Int) (a2 : WL rw_iiiiiiLu) (a3 : WL rw_iiiii) (r : WL rw_iiiiiiLu × NL × Int) : Prop := Gv P (.func 8) (qd8_ a0 a1 a2 a3) (qd9_ a0 a1 a2 a3) (qjb_ a0 a1 a2 a3 r) (qdk_ a0 a1 a2 a3 r)
abbrev qoc_ (a0 : WL rw_iiiiiiLu) (a1 : Int) (a2 : WL rw_iiiiiiLu) (a3 : WL rw_iiiii) (r : WL rw_iiiiiiLu × NL × Int) (ins outs : BL) : CallA := ⟨0, ins, qjb_ a0 a1 a2 a3 r, qdk_ a0 a1 a2 a3 r, outs⟩
def qdh_ (x1_0 : WL rw_iiiiiiLu) (x1_1 : Int) (x1_5 : WL rw_iiiii) (x1_6 : Int) (st : List R8 × List Int × Int × Int) : XSt := match st with
 | (x1_2, x1_3, x1_4, x1_7) => (sT 86 [(0, (wlV x1_0)), (1, (i6 x1_1)), (8, (slR x1_2 0 8)), (9, (slN x1_3 1)), (13, (Value.int .u64 x1_4)), (48, (wlV x1_5)), (49, (i6 x1_6)), (50, (i6 x1_7))], [], ⟨sB [(0, (nblkR rw_iiiiiiLu x1_2 49)), (1, (nblk x1_3 3))], 2, 0⟩)
def qc_ (x1_0 : WL rw_iiiiiiLu) (x1_1 : Int) (x1_5 : WL rw_iiiii) (x1_6 : Int) (r : List R8 × List Int × Int) : Ex × XSt := match r with
 | (z1_0, z1_1, z1_2) => (.exit 0, (sT 86 [(0, (wlV x1_0)), (1, (i6 x1_1)), (8, (slR z1_0 0 8)), (9, (slN z1_1 1)), (13, (Value.int .u64 z1_2))], [], ⟨sB [(0, (nblkR rw_iiiiiiLu z1_0 49)), (1, (nblk z1_1 3))], 2, 0⟩))
abbrev Q_spliceSpliceq1_1 (rnd : Option Nat) (x1_0 : WL rw_iiiiiiLu) (x1_1 : Int) (x1_5 : WL rw_iiiii) (x1_6 : Int) (st : List R8 × List Int × Int × Int) (c : Ex × XSt) : Prop := CG P rnd (fnN P 8) 0 (codeOf P 8 [false, false, true, false, true, true, true, true, true, true]) (qdh_ x1_0 x1_1 x1_5 x1_6 st) c
abbrev qb5_ (rd : Option Nat) (x1_0 : WL rw_iiiiiiLu) (x1_1 : Int) (x1_5 : WL rw_iiiii) (x1_6 : Int) (st : List R8 × List Int × Int × Int) (r : List R8 × List Int × Int) : Prop := CG P rd (fnN P 8) 0 (codeOf P 8 [false, true, false, true, true, true, true, true, true]) (qdh_ x1_0 x1_1 x1_5 x1_6 st) (qc_ x1_0 x1_1 x1_5 x1_6 r)
def qb6_ (n : Nat) (x1_0 : WL rw_iiiiiiLu) (x1_1 : Int) (x1_5 : WL rw_iiiii) (x1_6 : Int) (st : List R8 × List Int × Int × Int) : Option ((List R8 × List Int × Int × Int) ⊕ (List R8 × List Int × Int)) := match st with
 | (x1_2, x1_3, x1_4, x1_7) =>
  match x1_2 with
  | [] =>
   match x1_3 with
   | [] =>
    if x1_7 < x1_6 then
     if 0 ≤ x1_7 ∧ x1_7 < (((x1_5).l.length : Nat) : Int) then
      ((some (((x1_5).l).getD (x1_7).toNat (0, 0, 0, 0, 0)))).bind fun y1_3_ =>
      (qd0_ n x1_0 x1_1 (y1_3_.1) (y1_3_.2.1) (y1_3_.2.2.1) (y1_3_.2.2.2.1) (y1_3_.2.2.2.2)).bind fun y1_4_ =>
      if y1_4_ = true then
       if 0 ≤ (y1_3_.1) then
        some (.inl (([] : List R8), [(y1_3_.1)], (bAndNot .u64 x1_4 (shlV .u64 (1 : Int) (y1_3_.1))), (w64 (x1_7 + (1 : Int)))))
       else none
      else
       some (.inl (([] : List R8), ([] : List Int), x1_4, (w64 (x1_7 + (1 : Int)))))
     else none
    else
     some (.inr (([] : List R8), ([] : List Int), x1_4))
   | x1_3a :: x1_3t =>
    if x1_7 < x1_6 then
     if 0 ≤ x1_7 ∧ x1_7 < (((x1_5).l.length : Nat) : Int) then
      ((some (((x1_5).l).getD (x1_7).toNat (0, 0, 0, 0, 0)))).bind fun y1_3_ =>
      (qd0_ n x1_0 x1_1 (y1_3_.1) (y1_3_.2.1) (y1_3_.2.2.1) (y1_3_.2.2.2.1) (y1_3_.2.2.2.2)).bind fun y1_4_ =>
      if y1_4_ = true then
       if (((x1_3a :: x1_3t)).length + 1) * 8 ≤ 140737488355328 then
        if 0 ≤ (y1_3_.1) then
         some (.inl (([] : List R8), ((x1_3a :: x1_3t) ++ [(y1_3_.1)]), (bAndNot .u64 x1_4 (shlV .u64 (1 : Int) (y1_3_.1))), (w64 (x1_7 + (1 : Int)))))
        else none
       else none
      else
       some (.inl (([] : List R8), (x1_3a :: x1_3t), x1_4, (w64 (x1_7 + (1 : Int)))))
     else none
    else
     some (.inr (([] : List R8), (x1_3a :: x1_3t), x1_4))
  | x1_2a :: x1_2t =>
   match x1_3 with
   | [] =>
    if x1_7 < x1_6 then
     if 0 ≤ x1_7 ∧ x1_7 < (((x1_5).l.length : Nat) : Int) then
      ((some (((x1_5).l).getD (x1_7).toNat (0, 0, 0, 0, 0)))).bind fun y1_3_ =>
      (qd0_ n x1_0 x1_1 (y1_3_.1) (y1_3_.2.1) (y1_3_.2.2.1) (y1_3_.2.2.2.1) (y1_3_.2.2.2.2)).bind fun y1_4_ =>
      if y1_4_ = true then
       if 0 ≤ (y1_3_.1) then
        some (.inl ((x1_2a :: x1_2t), [(y1_3_.1)], (bAndNot .u64 x1_4 (shlV .u64 (1 : Int) (y1_3_.1))), (w64 (x1_7 + (1 : Int)))))
       else none
      else
       some (.inl ((x1_2a :: x1_2t), ([] : List Int), x1_4, (w64 (x1_7 + (1 : Int)))))
     else none
    else
     some (.inr ((x1_2a :: x1_2t), ([] : List Int), x1_4))
   | x1_3a :: x1_3t =>
    if x1_7 < x1_6 then
     if 0 ≤ x1_7 ∧ x1_7 < (((x1_5).l.length : Nat) : Int) then
      ((some (((x1_5).l).getD (x1_7).toNat (0, 0, 0, 0, 0)))).bind fun y1_3_ =>
      (qd0_ n x1_0 x1_1 (y1_3_.1) (y1_3_.2.1) (y1_3_.2.2.1) (y1_3_.2.2.2.1) (y1_3_.2.2.2.2)).bind fun y1_4_ =>
      if y1_4_ = true then
       if (((x1_3a :: x1_3t)).length + 1) * 8 ≤ 140737488355328 then
        if 0 ≤ (y1_3_.1) then
         some (.inl ((x1_2a :: x1_2t), ((x1_3a :: x1_3t) ++ [(y1_3_.1)]), (bAndNot .u64 x1_4 (shlV .u64 (1 : Int) (y1_3_.1))), (w64 (x1_7 + (1 : Int)))))
        else none
       else none
      else
       some (.inl ((x1_2a :: x1_2t), (x1_3a :: x1_3t), x1_4, (w64 (x1_7 + (1 : Int)))))
     else none
    else
     some (.inr ((x1_2a :: x1_2t), (x1_3a :: x1_3t), x1_4))
def qff_ (n : Nat) (x1_0 : WL rw_iiiiiiLu) (x1_1 : Int) (x1_5 : WL rw_iiiii) (x1_6 : Int) (st : List R8 × List Int × Int × Int) : Option (List R8 × List Int × Int) := iterM (qb6_ n x1_0 x1_1 x1_5 x1_6) n st
theorem qj6_ (n : Nat) {rnd : Option Nat} (x1_0 : WL rw_iiiiiiLu) (x1_1 : Int) (x1_5 : WL rw_iiiii) (x1_6 : Int) (st : List R8 × List Int × Int × Int) (o : (List R8 × List Int × Int × Int) ⊕ (List R8 × List Int × Int)) (h : qb6_ n x1_0 x1_1 x1_5 x1_6 st = some o) : CG P rnd (fnN P 8) 0 (codeOf P 8 [false, false, true, false, true, true, true, true, true, true]) (qdh_ x1_0 x1_1 x1_5 x1_6 st) (Sum.elim (fun s => (.normal, qdh_ x1_0 x1_1 x1_5 x1_6 s)) (fun r => qc_ x1_0 x1_1 x1_5 x1_6 r) o) := by
 obtain ⟨x1_2, x1_3, x1_4, x1_7⟩ := st
 unfold qb6_ at h
 dsimp only at h
 cases x1_2 with
 | nil =>
  dsimp only at h
  cases x1_3 with
  | nil =>
   dsimp only at h
   by_cases hy1_1 : x1_7 < x1_6
   ·rw [if_pos hy1_1] at h
    obtain ⟨hy1_2, h⟩ := gd h
    obtain ⟨y1_3_, hy1_3, h⟩ := oB h
    obtain ⟨y1_4_, hy1_4, h⟩ := oB h
    have k0 := fun {A L l} (k : PL A L l) => zz 1 (xdT hy1_1) <|
     zz 7 (xk19 (x1_5).num (x1_5).off (x1_5).cap hy1_2) <|
     zz 8 (lk20 hy1_3 (toNatLt hy1_2)) <|
     yy 15 (.call (qiw_ x1_0 x1_1 (y1_3_.1) (y1_3_.2.1) (y1_3_.2.2.1) (y1_3_.2.2.2.1) (y1_3_.2.2.2.2) y1_4_ [] [])) <|
     ww (qgd_ n x1_0 x1_1 (y1_3_.1) (y1_3_.2.1) (y1_3_.2.2.1) (y1_3_.2.2.2.1) (y1_3_.2.2.2.2) y1_4_ hy1_4) <|
     k
    by_cases hy1_5 : y1_4_ = true
    ·rw [if_pos hy1_5] at h
     obtain ⟨hy1_6, h⟩ := gd h
     obtain rfl := oI h
     exact runC2 hm ⟨[0, 1, 8, 9, 13, 48, 49, 50], [(1, 4, false)], 2, 0, [], false, [], [], []⟩ (k0 <|
      zz 16 (xbT hy1_5) <|
      yy 27 (.pur (Value.int .u64 (shlV .u64 (1 : Int) (y1_3_.1)))) <|
      ww (p := opBin P .shl 41 (.const (Value.int .u64 (1 : Int))) (.tmp 65) (Value.int .u64 (1 : Int)) (i6 (y1_3_.1)) Ax.h0 = some ((Value.int .u64 (shlV .u64 (1 : Int) (y1_3_.1))), Ax.h0)) (shl_u64_i64 hy1_6) <|
      ee) (by kernel_rfl)
    ·rw [if_neg hy1_5] at h
     obtain rfl := oI h
     exact runC2 hm ⟨[0, 1, 8, 9, 13, 48, 49, 50], [], 2, 0, [], false, [], [], []⟩ (k0 <|
      zz 16 (xbF hy1_5) <|
      ee) (by kernel_rfl)
   ·rw [if_neg hy1_1] at h
    obtain rfl := oI h
    exact runC2 hm ⟨[0, 1, 8, 9, 13], [], 2, 0, [], false, [], [], []⟩ (zz 1 (xdF hy1_1) <|
     ee) (by kernel_rfl)
  | cons x1_3a x1_3t =>
   dsimp only at h
   by_cases hy1_1 : x1_7 < x1_6
   ·rw [if_pos hy1_1] at h
    obtain ⟨hy1_2, h⟩ := gd h
    obtain ⟨y1_3_, hy1_3, h⟩ := oB h
    obtain ⟨y1_4_, hy1_4, h⟩ := oB h
    have k0 := fun {A L l} (k : PL A L l) => zz 1 (xdT hy1_1) <|
     zz 7 (xk19 (x1_5).num (x1_5).off (x1_5).cap hy1_2) <|
     zz 8 (lk20 hy1_3 (toNatLt hy1_2)) <|
     yy 15 (.call (qiw_ x1_0 x1_1 (y1_3_.1) (y1_3_.2.1) (y1_3_.2.2.1) (y1_3_.2.2.2.1) (y1_3_.2.2.2.2) y1_4_ [] [])) <|
     ww (qgd_ n x1_0 x1_1 (y1_3_.1) (y1_3_.2.1) (y1_3_.2.2.1) (y1_3_.2.2.2.1) (y1_3_.2.2.2.2) y1_4_ hy1_4) <|
     k
    by_cases hy1_5 : y1_4_ = true
    ·rw [if_pos hy1_5] at h
     obtain ⟨hy1_6, h⟩ := gd h
     obtain ⟨hy1_7, h⟩ := gd h
     obtain rfl := oI h
     exact runC2 hm ⟨[0, 1, 8, 9, 13, 48, 49, 50], [(1, 4, true)], 2, 0, [], false, [], [], []⟩ (k0 <|
      zz 16 (xbT hy1_5) <|
      yy 22 (.app ⟨none, iv (x1_3a :: x1_3t), (iv ((x1_3a :: x1_3t) ++ [(y1_3_.1)])), (((x1_3a :: x1_3t) ++ [(y1_3_.1)])).length, false⟩) <|
      ww (p := 0 < 1) ((by decide)) <|
      ww (p := rdT (layT (iv (x1_3a :: x1_3t))) (Nat.mul ((x1_3a :: x1_3t)).length 1) 0 = some (iv (x1_3a :: x1_3t))) (iv_rd _) <|
      ww (p := fits (Nat.add ((x1_3a :: x1_3t)).length 1) 8 = true) (fits_ok hy1_6 (by have := hy1_6; show (_ : Nat) + _ ≤ _; omega)) <|
      ww (p := allCells [(i6 (y1_3_.1))] = true) (rfl) <|
      ww (p := allCells (iv (x1_3a :: x1_3t)) = true) (iv_cells _) <|
      ww (p := iv (x1_3a :: x1_3t) ++ [(i6 (y1_3_.1))] = (iv ((x1_3a :: x1_3t) ++ [(y1_3_.1)]))) (by simp [iv]) <|
      ww (p := Nat.add ((x1_3a :: x1_3t)).length 1 = (((x1_3a :: x1_3t) ++ [(y1_3_.1)])).length) (by simp) <|
      yy 27 (.pur (Value.int .u64 (shlV .u64 (1 : Int) (y1_3_.1)))) <|
      ww (p := opBin P .shl 41 (.const (Value.int .u64 (1 : Int))) (.tmp 65) (Value.int .u64 (1 : Int)) (i6 (y1_3_.1)) Ax.h0 = some ((Value.int .u64 (shlV .u64 (1 : Int) (y1_3_.1))), Ax.h0)) (shl_u64_i64 hy1_7) <|
      ww (iv_flat ((x1_3a :: x1_3t) ++ [(y1_3_.1)]) 3) <|
      ee) (by kernel_rfl)
    ·rw [if_neg hy1_5] at h
     obtain rfl := oI h
     exact runC2 hm ⟨[0, 1, 8, 9, 13, 48, 49, 50], [(1, 1, true)], 2, 0, [], false, [], [], []⟩ (k0 <|
      zz 16 (xbF hy1_5) <|
      ww (iv_flat (x1_3a :: x1_3t) 3) <|
      ee) (by kernel_rfl)
   ·rw [if_neg hy1_1] at h
    obtain rfl := oI h
    exact runC2 hm ⟨[0, 1, 8, 9, 13], [(1, 1, true)], 2, 0, [], false, [], [], []⟩ (zz 1 (xdF hy1_1) <|
     ww (iv_flat (x1_3a :: x1_3t) 3) <|
     ee) (by kernel_rfl)
 | cons x1_2a x1_2t =>
  dsimp only at h
  cases x1_3 with
  | nil =>
   dsimp only at h
   by_cases hy1_1 : x1_7 < x1_6
   ·rw [if_pos hy1_1] at h
    obtain ⟨hy1_2, h⟩ := gd h
    obtain ⟨y1_3_, hy1_3, h⟩ := oB h
    obtain ⟨y1_4_, hy1_4, h⟩ := oB h
    have k0 := fun {A L l} (k : PL A L l) => zz 1 (xdT hy1_1) <|
     zz 7 (xk19 (x1_5).num (x1_5).off (x1_5).cap hy1_2) <|
     zz 8 (lk20 hy1_3 (toNatLt hy1_2)) <|
     yy 15 (.call (qiw_ x1_0 x1_1 (y1_3_.1) (y1_3_.2.1) (y1_3_.2.2.1) (y1_3_.2.2.2.1) (y1_3_.2.2.2.2) y1_4_ [] [])) <|
     ww (qgd_ n x1_0 x1_1 (y1_3_.1) (y1_3_.2.1) (y1_3_.2.2.1) (y1_3_.2.2.2.1) (y1_3_.2.2.2.2) y1_4_ hy1_4) <|
     k
    by_cases hy1_5 : y1_4_ = true
    ·rw [if_pos hy1_5] at h
     obtain ⟨hy1_6, h⟩ := gd h
     obtain rfl := oI h
     exact runC2 hm ⟨[0, 1, 8, 9, 13, 48, 49, 50], [(0, 0, true), (1, 4, false)], 2, 0, [], false, [], [], []⟩ (k0 <|
      zz 16 (xbT hy1_5) <|
      yy 27 (.pur (Value.int .u64 (shlV .u64 (1 : Int) (y1_3_.1)))) <|
      ww (p := opBin P .shl 41 (.const (Value.int .u64 (1 : Int))) (.tmp 65) (Value.int .u64 (1 : Int)) (i6 (y1_3_.1)) Ax.h0 = some ((Value.int .u64 (shlV .u64 (1 : Int) (y1_3_.1))), Ax.h0)) (shl_u64_i64 hy1_6) <|
      ww (rows_flat rwf_iiiiiiLu (x1_2a :: x1_2t) 49) <|
      ee) (by kernel_rfl)
    ·rw [if_neg hy1_5] at h
     obtain rfl := oI h
     exact runC2 hm ⟨[0, 1, 8, 9, 13, 48, 49, 50], [(0, 0, true)], 2, 0, [], false, [], [], []⟩ (k0 <|
      zz 16 (xbF hy1_5) <|
      ww (rows_flat rwf_iiiiiiLu (x1_2a :: x1_2t) 49) <|
      ee) (by kernel_rfl)
   ·rw [if_neg hy1_1] at h
    obtain rfl := oI h
    exact runC2 hm ⟨[0, 1, 8, 9, 13], [(0, 0, true)], 2, 0, [], false, [], [], []⟩ (zz 1 (xdF hy1_1) <|
     ww (rows_flat rwf_iiiiiiLu (x1_2a :: x1_2t) 49) <|
     ee) (by kernel_rfl)
  | cons x1_3a x1_3t =>
   dsimp only at h
   by_cases hy1_1 : x1_7 < x1_6
   ·rw [if_pos hy1_1] at h
    obtain ⟨hy1_2, h⟩ := gd h
    obtain ⟨y1_3_, hy1_3, h⟩ := oB h
    obtain ⟨y1_4_, hy1_4, h⟩ := oB h
    have k0 := fun {A L l} (k : PL A L l) => zz 1 (xdT hy1_1) <|
     zz 7 (xk19 (x1_5).num (x1_5).off (x1_5).cap hy1_2) <|
     zz 8 (lk20 hy1_3 (toNatLt hy1_2)) <|
     yy 15 (.call (qiw_ x1_0 x1_1 (y1_3_.1) (y1_3_.2.1) (y1_3_.2.2.1) (y1_3_.2.2.2.1) (y1_3_.2.2.2.2) y1_4_ [] [])) <|
     ww (qgd_ n x1_0 x1_1 (y1_3_.1) (y1_3_.2.1) (y1_3_.2.2.1) (y1_3_.2.2.2.1) (y1_3_.2.2.2.2) y1_4_ hy1_4) <|
     k
    by_cases hy1_5 : y1_4_ = true
    ·rw [if_pos hy1_5] at h
     obtain ⟨hy1_6, h⟩ := gd h
     obtain ⟨hy1_7, h⟩ := gd h
     obtain rfl := oI h
     exact runC2 hm ⟨[0, 1, 8, 9, 13, 48, 49, 50], [(0, 0, true), (1, 4, true)], 2, 0, [], false, [], [], []⟩ (k0 <|
      zz 16 (xbT hy1_5) <|
      yy 22 (.app ⟨none, iv (x1_3a :: x1_3t), (iv ((x1_3a :: x1_3t) ++ [(y1_3_.1)])), (((x1_3a :: x1_3t) ++ [(y1_3_.1)])).length, false⟩) <|
      ww (p := 0 < 1) ((by decide)) <|
      ww (p := rdT (layT (iv (x1_3a :: x1_3t))) (Nat.mul ((x1_3a :: x1_3t)).length 1) 0 = some (iv (x1_3a :: x1_3t))) (iv_rd _) <|
      ww (p := fits (Nat.add ((x1_3a :: x1_3t)).length 1) 8 = true) (fits_ok hy1_6 (by have := hy1_6; show (_ : Nat) + _ ≤ _; omega)) <|
      ww (p := allCells [(i6 (y1_3_.1))] = true) (rfl) <|
      ww (p := allCells (iv (x1_3a :: x1_3t)) = true) (iv_cells _) <|
      ww (p := iv (x1_3a :: x1_3t) ++ [(i6 (y1_3_.1))] = (iv ((x1_3a :: x1_3t) ++ [(y1_3_.1)]))) (by simp [iv]) <|
      ww (p := Nat.add ((x1_3a :: x1_3t)).length 1 = (((x1_3a :: x1_3t) ++ [(y1_3_.1)])).length) (by simp) <|
      yy 27 (.pur (Value.int .u64 (shlV .u64 (1 : Int) (y1_3_.1)))) <|
      ww (p := opBin P .shl 41 (.const (Value.int .u64 (1 : Int))) (.tmp 65) (Value.int .u64 (1 : Int)) (i6 (y1_3_.1)) Ax.h0 = some ((Value.int .u64 (shlV .u64 (1 : Int) (y1_3_.1))), Ax.h0)) (shl_u64_i64 hy1_7) <|
      ww (rows_flat rwf_iiiiiiLu (x1_2a :: x1_2t) 49) <|
      ww (iv_flat ((x1_3a :: x1_3t) ++ [(y1_3_.1)]) 3) <|
      ee) (by kernel_rfl)
    ·rw [if_neg hy1_5] at h
     obtain rfl := oI h
     exact runC2 hm ⟨[0, 1, 8, 9, 13, 48, 49, 50], [(0, 0, true), (1, 1, true)], 2, 0, [], false, [], [], []⟩ (k0 <|
      zz 16 (xbF hy1_5) <|
      ww (rows_flat rwf_iiiiiiLu (x1_2a :: x1_2t) 49) <|
      ww (iv_flat (x1_3a :: x1_3t) 3) <|
      ee) (by kernel_rfl)
   ·rw [if_neg hy1_1] at h
    obtain rfl := oI h
    exact runC2 hm ⟨[0, 1, 8, 9, 13], [(0, 0, true), (1, 1, true)], 2, 0, [], false, [], [], []⟩ (zz 1 (xdF hy1_1) <|
     ww (rows_flat rwf_iiiiiiLu (x1_2a :: x1_2t) 49) <|
     ww (iv_flat (x1_3a :: x1_3t) 3) <|
     ee) (by kernel_rfl)
theorem qbe_ (n : Nat) {rnd : Option Nat} (x1_0 : WL rw_iiiiiiLu) (x1_1 : Int) (x1_5 : WL rw_iiiii) (x1_6 : Int) (st : List R8 × List Int × Int × Int) (r : List R8 × List Int × Int) (h : qff_ n x1_0 x1_1 x1_5 x1_6 st = some r) : CG P rnd (fnN P 8) 0 (codeOf P 8 [false, true, false, true, true, true, true, true, true]) (qdh_ x1_0 x1_1 x1_5 x1_6 st) (qc_ x1_0 x1_1 x1_5 x1_6 r) :=
 CG.iter (b := codeOf P 8 [false, false, true, false, true, true, true, true, true, true]) (by kernel_rfl) (body := qb6_ n x1_0 x1_1 x1_5 x1_6) (S := qdh_ x1_0 x1_1 x1_5 x1_6) (X := qc_ x1_0 x1_1 x1_5 x1_6)
  (fun s s' h => qj6_ n x1_0 x1_1 x1_5 x1_6 s (.inl s') h)
  (fun s r h => qj6_ n x1_0 x1_1 x1_5 x1_6 s (.inr r) h)
  (fun r => by intro hx; cases hx) h
def qe4_ (n : Nat) (a0 : WL rw_iiiiiiLu) (a1 : Int) (a2 : WL rw_iiiiiiLu) (a3 : WL rw_iiiii) : Option (WL rw_iiiiiiLu × NL × Int) :=
 (qce_ n a0).bind fun c1_ =>
 if c1_ = (0 : Int) then
  (qce_ n a2).bind fun c3_ =>
  if c3_ = (0 : Int) then
   (qhb_ n a0 a1 a2).bind fun c5_ =>
   if c5_ = true then
    match qix_ n a0 a1 a2 with
    | none => none
    | some (.inl c7_) =>
     if c7_ = (0 : Int) then
      (qhu_ n a0 a1).bind fun c9_ =>
      (qcz_ n a0 a1 c9_).bind fun _ =>
      (qbj_ n a0 a1 c9_).bind fun c11_ =>
      (qff_ n a0 a1 a3 (((a3).l.length : Nat) : Int) (([] : List R8), ([] : List Int), c11_, 0)).bind fun t => match t with
      | (c12_0, c12_1, c12_2) =>
       match c12_0 with
       | [] =>
        match c12_1 with
        | [] =>
         if a1 > (0 : Int) then
          none
         else
          some ((wl0 : WL rw_iiiiiiLu), nl0, 0)
        | c12_1a :: c12_1t =>
         if a1 > (0 : Int) then
          none
         else
          if hc14 : (c12_1a :: c12_1t).length ≤ 9223372036854775807 then
           some ((wl0 : WL rw_iiiiiiLu), (frzL (c12_1a :: c12_1t) hc14), 0)
          else none
       | c12_0a :: c12_0t =>
        match c12_1 with
        | [] =>
         if a1 > (0 : Int) then
          (qc0_ n a0).bind fun c14_ =>
          if 0 ≤ a1 ∧ a1 < (((c14_).l.length : Nat) : Int) then
           if (a1).toNat < ((c14_).l).length then
            ((some (((c14_).l).getD (a1).toNat 0))).bind fun c17_ =>
            if 0 ≤ c17_ ∧ c17_ < ((((c12_0a :: c12_0t)).length : Nat) : Int) then
             ((some (((c12_0a :: c12_0t)).getD (c17_).toNat (0, 0, 0, 0, 0, 0, nl0, 0)))).bind fun c19_ =>
             if ((c12_0a :: c12_0t)).length = (((c12_0a :: c12_0t)).set (c17_).toNat ((c19_.1), (c19_.2.1), (c19_.2.2.1), (c19_.2.2.2.1), (c19_.2.2.2.2.1), (c19_.2.2.2.2.2.1), (c19_.2.2.2.2.2.2.1), (bOr .u64 (c19_.2.2.2.2.2.2.2) c12_2))).length then
              if hc21 : (((c12_0a :: c12_0t)).set (c17_).toNat ((c19_.1), (c19_.2.1), (c19_.2.2.1), (c19_.2.2.2.1), (c19_.2.2.2.2.1), (c19_.2.2.2.2.2.1), (c19_.2.2.2.2.2.2.1), (bOr .u64 (c19_.2.2.2.2.2.2.2) c12_2))).length ≤ 9223372036854775807 then
               some ((frzR qm_ (((c12_0a :: c12_0t)).set (c17_).toNat ((c19_.1), (c19_.2.1), (c19_.2.2.1), (c19_.2.2.2.1), (c19_.2.2.2.2.1), (c19_.2.2.2.2.2.1), (c19_.2.2.2.2.2.2.1), (bOr .u64 (c19_.2.2.2.2.2.2.2) c12_2))) hc21), nl0, 0)
              else none
             else none
            else none
           else none
          else none
         else
          if hc14 : (c12_0a :: c12_0t).length ≤ 9223372036854775807 then
           some ((frzR qm_ (c12_0a :: c12_0t) hc14), nl0, 0)
          else none
        | c12_1a :: c12_1t =>
         if a1 > (0 : Int) then
          (qc0_ n a0).bind fun c14_ =>
          if 0 ≤ a1 ∧ a1 < (((c14_).l.length : Nat) : Int) then
           if (a1).toNat < ((c14_).l).length then
            ((some (((c14_).l).getD (a1).toNat 0))).bind fun c17_ =>
            if 0 ≤ c17_ ∧ c17_ < ((((c12_0a :: c12_0t)).length : Nat) : Int) then
             ((some (((c12_0a :: c12_0t)).getD (c17_).toNat (0, 0, 0, 0, 0, 0, nl0, 0)))).bind fun c19_ =>
             if hc20 : (c12_1a :: c12_1t).length ≤ 9223372036854775807 then
              if ((c12_0a :: c12_0t)).length = (((c12_0a :: c12_0t)).set (c17_).toNat ((c19_.1), (c19_.2.1), (c19_.2.2.1), (c19_.2.2.2.1), (c19_.2.2.2.2.1), (c19_.2.2.2.2.2.1), (c19_.2.2.2.2.2.2.1), (bOr .u64 (c19_.2.2.2.2.2.2.2) c12_2))).length then
               if hc22 : (((c12_0a :: c12_0t)).set (c17_).toNat ((c19_.1), (c19_.2.1), (c19_.2.2.1), (c19_.2.2.2.1), (c19_.2.2.2.2.1), (c19_.2.2.2.2.2.1), (c19_.2.2.2.2.2.2.1), (bOr .u64 (c19_.2.2.2.2.2.2.2) c12_2))).length ≤ 9223372036854775807 then
                some ((frzR qm_ (((c12_0a :: c12_0t)).set (c17_).toNat ((c19_.1), (c19_.2.1), (c19_.2.2.1), (c19_.2.2.2.1), (c19_.2.2.2.2.1), (c19_.2.2.2.2.2.1), (c19_.2.2.2.2.2.2.1), (bOr .u64 (c19_.2.2.2.2.2.2.2) c12_2))) hc22), (frzL (c12_1a :: c12_1t) hc20), 0)
               else none
              else none
             else none
            else none
           else none
          else none
         else
          if hc14 : (c12_1a :: c12_1t).length ≤ 9223372036854775807 then
           if hc15 : (c12_0a :: c12_0t).length ≤ 9223372036854775807 then
            some ((frzR qm_ (c12_0a :: c12_0t) hc15), (frzL (c12_1a :: c12_1t) hc14), 0)
           else none
          else none
     else
      some ((wl0 : WL rw_iiiiiiLu), nl0, c7_)
    | some (.inr c7_) =>
     match c7_ with
     | [] =>
      none
     | c7_a :: c7_t =>
      (qhu_ n a0 a1).bind fun c8_ =>
      (qcz_ n a0 a1 c8_).bind fun _ =>
      (qbj_ n a0 a1 c8_).bind fun c10_ =>
      (qff_ n a0 a1 a3 (((a3).l.length : Nat) : Int) ((c7_a :: c7_t), ([] : List Int), c10_, 0)).bind fun t => match t with
      | (c11_0, c11_1, c11_2) =>
       match c11_0 with
       | [] =>
        match c11_1 with
        | [] =>
         if a1 > (0 : Int) then
          none
         else
          some ((wl0 : WL rw_iiiiiiLu), nl0, 0)
        | c11_1a :: c11_1t =>
         if a1 > (0 : Int) then
          none
         else
          if hc13 : (c11_1a :: c11_1t).length ≤ 9223372036854775807 then
           some ((wl0 : WL rw_iiiiiiLu), (frzL (c11_1a :: c11_1t) hc13), 0)
          else none
       | c11_0a :: c11_0t =>
        match c11_1 with
        | [] =>
         if a1 > (0 : Int) then
          (qc0_ n a0).bind fun c13_ =>
          if 0 ≤ a1 ∧ a1 < (((c13_).l.length : Nat) : Int) then
           if (a1).toNat < ((c13_).l).length then
            ((some (((c13_).l).getD (a1).toNat 0))).bind fun c16_ =>
            if 0 ≤ c16_ ∧ c16_ < ((((c11_0a :: c11_0t)).length : Nat) : Int) then
             ((some (((c11_0a :: c11_0t)).getD (c16_).toNat (0, 0, 0, 0, 0, 0, nl0, 0)))).bind fun c18_ =>
             if ((c11_0a :: c11_0t)).length = (((c11_0a :: c11_0t)).set (c16_).toNat ((c18_.1), (c18_.2.1), (c18_.2.2.1), (c18_.2.2.2.1), (c18_.2.2.2.2.1), (c18_.2.2.2.2.2.1), (c18_.2.2.2.2.2.2.1), (bOr .u64 (c18_.2.2.2.2.2.2.2) c11_2))).length then
              if hc20 : (((c11_0a :: c11_0t)).set (c16_).toNat ((c18_.1), (c18_.2.1), (c18_.2.2.1), (c18_.2.2.2.1), (c18_.2.2.2.2.1), (c18_.2.2.2.2.2.1), (c18_.2.2.2.2.2.2.1), (bOr .u64 (c18_.2.2.2.2.2.2.2) c11_2))).length ≤ 9223372036854775807 then
               some ((frzR qm_ (((c11_0a :: c11_0t)).set (c16_).toNat ((c18_.1), (c18_.2.1), (c18_.2.2.1), (c18_.2.2.2.1), (c18_.2.2.2.2.1), (c18_.2.2.2.2.2.1), (c18_.2.2.2.2.2.2.1), (bOr .u64 (c18_.2.2.2.2.2.2.2) c11_2))) hc20), nl0, 0)
              else none
             else none
            else none
           else none
          else none
         else
          if hc13 : (c11_0a :: c11_0t).length ≤ 9223372036854775807 then
           some ((frzR qm_ (c11_0a :: c11_0t) hc13), nl0, 0)
          else none
        | c11_1a :: c11_1t =>
         if a1 > (0 : Int) then
          (qc0_ n a0).bind fun c13_ =>
          if 0 ≤ a1 ∧ a1 < (((c13_).l.length : Nat) : Int) then
           if (a1).toNat < ((c13_).l).length then
            ((some (((c13_).l).getD (a1).toNat 0))).bind fun c16_ =>
            if 0 ≤ c16_ ∧ c16_ < ((((c11_0a :: c11_0t)).length : Nat) : Int) then
             ((some (((c11_0a :: c11_0t)).getD (c16_).toNat (0, 0, 0, 0, 0, 0, nl0, 0)))).bind fun c18_ =>
             if hc19 : (c11_1a :: c11_1t).length ≤ 9223372036854775807 then
              if ((c11_0a :: c11_0t)).length = (((c11_0a :: c11_0t)).set (c16_).toNat ((c18_.1), (c18_.2.1), (c18_.2.2.1), (c18_.2.2.2.1), (c18_.2.2.2.2.1), (c18_.2.2.2.2.2.1), (c18_.2.2.2.2.2.2.1), (bOr .u64 (c18_.2.2.2.2.2.2.2) c11_2))).length then
               if hc21 : (((c11_0a :: c11_0t)).set (c16_).toNat ((c18_.1), (c18_.2.1), (c18_.2.2.1), (c18_.2.2.2.1), (c18_.2.2.2.2.1), (c18_.2.2.2.2.2.1), (c18_.2.2.2.2.2.2.1), (bOr .u64 (c18_.2.2.2.2.2.2.2) c11_2))).length ≤ 9223372036854775807 then
                some ((frzR qm_ (((c11_0a :: c11_0t)).set (c16_).toNat ((c18_.1), (c18_.2.1), (c18_.2.2.1), (c18_.2.2.2.1), (c18_.2.2.2.2.1), (c18_.2.2.2.2.2.1), (c18_.2.2.2.2.2.2.1), (bOr .u64 (c18_.2.2.2.2.2.2.2) c11_2))) hc21), (frzL (c11_1a :: c11_1t) hc19), 0)
               else none
              else none
             else none
            else none
           else none
          else none
         else
          if hc13 : (c11_1a :: c11_1t).length ≤ 9223372036854775807 then
           if hc14 : (c11_0a :: c11_0t).length ≤ 9223372036854775807 then
            some ((frzR qm_ (c11_0a :: c11_0t) hc14), (frzL (c11_1a :: c11_1t) hc13), 0)
           else none
          else none
   else
    some ((wl0 : WL rw_iiiiiiLu), nl0, 2)
  else
   some ((wl0 : WL rw_iiiiiiLu), nl0, c3_)
 else
  some ((wl0 : WL rw_iiiiiiLu), nl0, c1_)
theorem qmq_ (n : Nat) (a0 : WL rw_iiiiiiLu) (a1 : Int) (a2 : WL rw_iiiiiiLu) (a3 : WL rw_iiiii) (r : WL rw_iiiiiiLu × NL × Int) (h : qe4_ n a0 a1 a2 a3 = some r) : Gv P (.func 8) (qd8_ a0 a1 a2 a3) (qd9_ a0 a1 a2 a3) (qjb_ a0 a1 a2 a3 r) (qdk_ a0 a1 a2 a3 r) := by
 unfold qe4_ at h
 obtain ⟨c1_, hc1, h⟩ := oB h
 have k0 := fun {A L l} (k : PL A L l) => yy 7 (.call (qez_ a0 c1_ [] [])) <|
  ww (qdj_ n a0 c1_ hc1) <|
  k
 by_cases hc2 : c1_ = (0 : Int)
 ·rw [if_pos hc2] at h
  obtain ⟨c3_, hc3, h⟩ := oB h
  have k2 := fun {A L l} (k : PL A L l) => zz 11 (xnF hc2) <|
   yy 16 (.call (qez_ a2 c3_ [] [])) <|
   ww (qdj_ n a2 c3_ hc3) <|
   k
  by_cases hc4 : c3_ = (0 : Int)
  ·rw [if_pos hc4] at h
   obtain ⟨c5_, hc5, h⟩ := oB h
   have k5 := fun {A L l} (k : PL A L l) => zz 20 (xnF hc4) <|
    yy 27 (.call (qo1_ a0 a1 a2 c5_ [] [])) <|
    ww (qnl_ n a0 a1 a2 c5_ hc5) <|
    k
   by_cases hc6 : c5_ = true
   ·rw [if_pos hc6] at h
    have k8 := fun {A L l} (k : PL A L l) => yy 28 (vf) <|
     ww (p := (Value.bool (!c5_)) = (Value.bool false)) (vBn hc6) <|
     k
    rcases hc7 : qix_ n a0 a1 a2 with _ | (c7_ | c7_)
    ·rw [hc7] at h; cases h
    ·rw [hc7] at h
     dsimp only at h
     have k10 := fun {A L l} (k : PL A L l) => yy 35 (.call (qoq_ a0 a1 a2 (.inl c7_) [] [])) <|
      ww (qmk_ n a0 a1 a2 (.inl c7_) hc7) <|
      k
     by_cases hc8 : c7_ = (0 : Int)
     ·rw [if_pos hc8] at h
      obtain ⟨c9_, hc9, h⟩ := oB h
      obtain ⟨_, hc10, h⟩ := oB h
      obtain ⟨c11_, hc11, h⟩ := oB h
      obtain ⟨⟨c12_0, c12_1, c12_2⟩, hc12, h⟩ := oB h
      dsimp only at h
      have k12 := fun {A L l} (k : PL A L l) => zz 43 (xnF hc8) <|
       yy 50 (.call (qm3_ a0 a1 c9_ [] [])) <|
       ww (qkc_ n a0 a1 c9_ hc9) <|
       yy 51 (.call (qhc_ a0 a1 c9_ () [] [(0, 0, false), (1, 1, false), (2, 2, false)])) <|
       ww (qek_ n a0 a1 c9_ () hc10) <|
       yy 52 (.call (qe3_ a0 a1 c9_ c11_ [(0, 0, false), (1, 1, false), (2, 2, false)] [(0, 0, false), (1, 1, false), (2, 2, false)])) <|
       ww (qdz_ n a0 a1 c9_ c11_ hc11) <|
       k
      cases c12_0 with
      | nil =>
       dsimp only at h
       cases c12_1 with
       | nil =>
        dsimp only at h
        have k19 := fun {A L l} (k : PL A L l) => ww (p := qb5_ none a0 a1 a3 (((a3).l.length : Nat) : Int) (([] : List R8), ([] : List Int), c11_, 0) (([] : List R8), ([] : List Int), c12_2)) (qbe_ n a0 a1 a3 (((a3).l.length : Nat) : Int) (([] : List R8), ([] : List Int), c11_, 0) (([] : List R8), ([] : List Int), c12_2) hc12) <|
         ll 60 ⟨⟨[0, 1, 8, 9, 13, 48, 49, 50], [], 2, 0, [], false, [], [], []⟩, (qc_ a0 a1 a3 (((a3).l.length : Nat) : Int) (([] : List R8), ([] : List Int), c12_2)).1, (qc_ a0 a1 a3 (((a3).l.length : Nat) : Int) (([] : List R8), ([] : List Int), c12_2)).2⟩ <|
         k
        by_cases hc13 : a1 > (0 : Int)
        ·rw [if_pos hc13] at h
         cases h
        ·rw [if_neg hc13] at h
         obtain rfl := oI h
         exact runF2 hm ⟨[8, 9, 10], [], 0, 0, [], true, [], [], [8, 9]⟩ (k0 <|
          k2 <|
          k5 <|
          k8 <|
          k10 <|
          k12 <|
          k19 <|
          zz 64 (xdF hc13) <|
          ee) (by kernel_rfl)
       | cons c12_1a c12_1t =>
        dsimp only at h
        have k19 := fun {A L l} (k : PL A L l) => ww (p := qb5_ none a0 a1 a3 (((a3).l.length : Nat) : Int) (([] : List R8), ([] : List Int), c11_, 0) (([] : List R8), (c12_1a :: c12_1t), c12_2)) (qbe_ n a0 a1 a3 (((a3).l.length : Nat) : Int) (([] : List R8), ([] : List Int), c11_, 0) (([] : List R8), (c12_1a :: c12_1t), c12_2) hc12) <|
         ll 60 ⟨⟨[0, 1, 8, 9, 13, 48, 49, 50], [], 2, 0, [], false, [], [], []⟩, (qc_ a0 a1 a3 (((a3).l.length : Nat) : Int) (([] : List R8), (c12_1a :: c12_1t), c12_2)).1, (qc_ a0 a1 a3 (((a3).l.length : Nat) : Int) (([] : List R8), (c12_1a :: c12_1t), c12_2)).2⟩ <|
         k
        by_cases hc13 : a1 > (0 : Int)
        ·rw [if_pos hc13] at h
         cases h
        ·rw [if_neg hc13] at h
         obtain ⟨hc14, h⟩ := gdD h
         obtain rfl := oI h
         exact runF2 hm ⟨[8, 9, 10], [], 0, 0, [(1, Nat.add (2 * cod (c12_1a :: c12_1t) + 1) 64)], true, [], [], [8]⟩ (k0 <|
          k2 <|
          k5 <|
          k8 <|
          k10 <|
          k12 <|
          k19 <|
          zz 64 (xdF hc13) <|
          ww (frz_ok qbs_ qd1_ (c12_1a :: c12_1t)) <|
          ee) (by kernel_rfl)
      | cons c12_0a c12_0t =>
       dsimp only at h
       cases c12_1 with
       | nil =>
        dsimp only at h
        have k19 := fun {A L l} (k : PL A L l) => ww (p := qb5_ none a0 a1 a3 (((a3).l.length : Nat) : Int) (([] : List R8), ([] : List Int), c11_, 0) ((c12_0a :: c12_0t), ([] : List Int), c12_2)) (qbe_ n a0 a1 a3 (((a3).l.length : Nat) : Int) (([] : List R8), ([] : List Int), c11_, 0) ((c12_0a :: c12_0t), ([] : List Int), c12_2) hc12) <|
         ll 60 ⟨⟨[0, 1, 8, 9, 13, 48, 49, 50], [], 2, 0, [], false, [], [], []⟩, (qc_ a0 a1 a3 (((a3).l.length : Nat) : Int) ((c12_0a :: c12_0t), ([] : List Int), c12_2)).1, (qc_ a0 a1 a3 (((a3).l.length : Nat) : Int) ((c12_0a :: c12_0t), ([] : List Int), c12_2)).2⟩ <|
         k
        by_cases hc13 : a1 > (0 : Int)
        ·rw [if_pos hc13] at h
         obtain ⟨c14_, hc14, h⟩ := oB h
         obtain ⟨hc15, h⟩ := gd h
         obtain ⟨hc16, h⟩ := gd h
         obtain ⟨c17_, hc17, h⟩ := oB h
         obtain ⟨hc18, h⟩ := gd h
         obtain ⟨c19_, hc19, h⟩ := oB h
         obtain ⟨hc20, h⟩ := gd h
         obtain ⟨hc21, h⟩ := gdD h
         have hr := oI h
         rw [← hr]
         clear hr h
         obtain ⟨za, zt, hz⟩ : ∃ a t, (((c12_0a :: c12_0t)).set (c17_).toNat ((c19_.1), (c19_.2.1), (c19_.2.2.1), (c19_.2.2.2.1), (c19_.2.2.2.2.1), (c19_.2.2.2.2.2.1), (c19_.2.2.2.2.2.2.1), (bOr .u64 (c19_.2.2.2.2.2.2.2) c12_2))) = a :: t := qmt_
         revert hc21
         rw [hz]
         intro hc21
         try rw [hz] at hc20
         try rw [hz] at k0
         try rw [hz] at k2
         try rw [hz] at k5
         try rw [hz] at k8
         try rw [hz] at k10
         try rw [hz] at k12
         try rw [hz] at k19
         have k0_ : Gv P (.func 8) (qd8_ a0 a1 a2 a3) (qd9_ a0 a1 a2 a3) (Value.tuple #[(Value.slice (some ⟨Nat.add (2 * codL (rows rw_iiiiiiLu (za :: zt)) + 1) 64, 0, some 1⟩) (((c12_0a :: c12_0t)).length) (Nat.add big (((c12_0a :: c12_0t)).length))), (nlV nl0), (i6 (0 : Int))]) (qdk_ a0 a1 a2 a3 ((frzR qm_ (za :: zt) hc21), nl0, 0)) := runF2 hm ⟨[8, 9, 10], [], 0, 0, [(0, Nat.add (2 * codL (rows rw_iiiiiiLu (za :: zt)) + 1) 64)], true, [], [], [9]⟩ (k0 <|
         k2 <|
         k5 <|
         k8 <|
         k10 <|
         k12 <|
         k19 <|
         zz 64 (xdT hc13) <|
         yy 68 (.call (qhz_ a0 c14_ [] [])) <|
         ww (qfe_ n a0 c14_ hc14) <|
         zz 70 (xk9 (Nat.add (c14_).num 64) (c14_).off (c14_).cap hc15) <|
         zz 71 (nk10 hc17 hc16) <|
         zz 72 (xk13 0 U8 hc18) <|
         zz 74 (ok21 hc19 (toNatLt hc18)) <|
         zz 77 (xk13 0 U8 hc18) <|
         yy 79 (.sto (layT (rows rw_iiiiiiLu (za :: zt)))) <|
         ww (p := ∃ old, rdT (layT (rows rw_iiiiiiLu (c12_0a :: c12_0t))) 1 (Nat.add ((c17_).toNat * 8) 7) = some old) (Exists.elim (rows_stN rwf_iiiiiiLu (0, 0, 0, 0, 0, 0, nl0, 0) (hr := hc19) (i := (c17_).toNat) (j := 7) (l := [(Value.int .u64 (bOr .u64 (c19_.2.2.2.2.2.2.2) c12_2))]) ((c19_.1), (c19_.2.1), (c19_.2.2.1), (c19_.2.2.2.1), (c19_.2.2.2.2.1), (c19_.2.2.2.2.2.1), (c19_.2.2.2.2.2.2.1), (bOr .u64 (c19_.2.2.2.2.2.2.2) c12_2)) (Nat.add ((c17_).toNat * 8) 7) rfl (toNatLt hc18) (Nat.le_of_ble_eq_true rfl) rfl) fun o h => ⟨o, h.1⟩) <|
         ww (p := layL [(Value.int .u64 (bOr .u64 (c19_.2.2.2.2.2.2.2) c12_2))] (Nat.add ((c17_).toNat * 8) 7) (layT (rows rw_iiiiiiLu (c12_0a :: c12_0t))) = layT (rows rw_iiiiiiLu (za :: zt))) (by rw [← hz]; exact (Exists.elim (rows_stN rwf_iiiiiiLu (0, 0, 0, 0, 0, 0, nl0, 0) (hr := hc19) (i := (c17_).toNat) (j := 7) (l := [(Value.int .u64 (bOr .u64 (c19_.2.2.2.2.2.2.2) c12_2))]) ((c19_.1), (c19_.2.1), (c19_.2.2.1), (c19_.2.2.2.1), (c19_.2.2.2.2.1), (c19_.2.2.2.2.2.1), (c19_.2.2.2.2.2.2.1), (bOr .u64 (c19_.2.2.2.2.2.2.2) c12_2)) (Nat.add ((c17_).toNat * 8) 7) rfl (toNatLt hc18) (Nat.le_of_ble_eq_true rfl) rfl) fun o h => h.2)) <|
         ww (frz_okR qbs_ qd1_ qm_ (za :: zt)) <|
         ee) (by kernel_rfl)
         have k1_ := gvLen (fn := fun m_ => (Value.tuple #[(Value.slice (some ⟨Nat.add (2 * codL (rows rw_iiiiiiLu (za :: zt)) + 1) 64, 0, some 1⟩) m_ (Nat.add big m_)), (nlV nl0), (i6 (0 : Int))])) hc20 k0_
         exact k1_
        ·rw [if_neg hc13] at h
         obtain ⟨hc14, h⟩ := gdD h
         obtain rfl := oI h
         exact runF2 hm ⟨[8, 9, 10], [], 0, 0, [(0, Nat.add (2 * codL (rows rw_iiiiiiLu (c12_0a :: c12_0t)) + 1) 64)], true, [], [], [9]⟩ (k0 <|
          k2 <|
          k5 <|
          k8 <|
          k10 <|
          k12 <|
          k19 <|
          zz 64 (xdF hc13) <|
          ww (frz_okR qbs_ qd1_ qm_ (c12_0a :: c12_0t)) <|
          ee) (by kernel_rfl)
       | cons c12_1a c12_1t =>
        dsimp only at h
        have k19 := fun {A L l} (k : PL A L l) => ww (p := qb5_ none a0 a1 a3 (((a3).l.length : Nat) : Int) (([] : List R8), ([] : List Int), c11_, 0) ((c12_0a :: c12_0t), (c12_1a :: c12_1t), c12_2)) (qbe_ n a0 a1 a3 (((a3).l.length : Nat) : Int) (([] : List R8), ([] : List Int), c11_, 0) ((c12_0a :: c12_0t), (c12_1a :: c12_1t), c12_2) hc12) <|
         ll 60 ⟨⟨[0, 1, 8, 9, 13, 48, 49, 50], [], 2, 0, [], false, [], [], []⟩, (qc_ a0 a1 a3 (((a3).l.length : Nat) : Int) ((c12_0a :: c12_0t), (c12_1a :: c12_1t), c12_2)).1, (qc_ a0 a1 a3 (((a3).l.length : Nat) : Int) ((c12_0a :: c12_0t), (c12_1a :: c12_1t), c12_2)).2⟩ <|
         k
        by_cases hc13 : a1 > (0 : Int)
        ·rw [if_pos hc13] at h
         obtain ⟨c14_, hc14, h⟩ := oB h
         obtain ⟨hc15, h⟩ := gd h
         obtain ⟨hc16, h⟩ := gd h
         obtain ⟨c17_, hc17, h⟩ := oB h
         obtain ⟨hc18, h⟩ := gd h
         obtain ⟨c19_, hc19, h⟩ := oB h
         obtain ⟨hc20, h⟩ := gdD h
         replace h := gd h
         obtain ⟨hc21, h⟩ := h
         replace h := gdD h
         obtain ⟨hc22, h⟩ := h
         have hr := oI h
         rw [← hr]
         clear hr h
         obtain ⟨za, zt, hz⟩ : ∃ a t, (((c12_0a :: c12_0t)).set (c17_).toNat ((c19_.1), (c19_.2.1), (c19_.2.2.1), (c19_.2.2.2.1), (c19_.2.2.2.2.1), (c19_.2.2.2.2.2.1), (c19_.2.2.2.2.2.2.1), (bOr .u64 (c19_.2.2.2.2.2.2.2) c12_2))) = a :: t := qmt_
         revert hc22
         rw [hz]
         intro hc22
         try rw [hz] at hc21
         try rw [hz] at k0
         try rw [hz] at k2
         try rw [hz] at k5
         try rw [hz] at k8
         try rw [hz] at k10
         try rw [hz] at k12
         try rw [hz] at k19
         have k0_ : Gv P (.func 8) (qd8_ a0 a1 a2 a3) (qd9_ a0 a1 a2 a3) (Value.tuple #[(Value.slice (some ⟨Nat.add (2 * codL (rows rw_iiiiiiLu (za :: zt)) + 1) 64, 0, some 1⟩) (((c12_0a :: c12_0t)).length) (Nat.add big (((c12_0a :: c12_0t)).length))), (nlV (frzL (c12_1a :: c12_1t) hc20)), (i6 (0 : Int))]) (qdk_ a0 a1 a2 a3 ((frzR qm_ (za :: zt) hc22), (frzL (c12_1a :: c12_1t) hc20), 0)) := runF2 hm ⟨[8, 9, 10], [], 0, 0, [(1, Nat.add (2 * cod (c12_1a :: c12_1t) + 1) 64), (0, Nat.add (2 * codL (rows rw_iiiiiiLu (za :: zt)) + 1) 64)], true, [], [], []⟩ (k0 <|
         k2 <|
         k5 <|
         k8 <|
         k10 <|
         k12 <|
         k19 <|
         zz 64 (xdT hc13) <|
         yy 68 (.call (qhz_ a0 c14_ [] [])) <|
         ww (qfe_ n a0 c14_ hc14) <|
         zz 70 (xk9 (Nat.add (c14_).num 64) (c14_).off (c14_).cap hc15) <|
         zz 71 (nk10 hc17 hc16) <|
         zz 72 (xk13 0 U8 hc18) <|
         zz 74 (ok21 hc19 (toNatLt hc18)) <|
         zz 77 (xk13 0 U8 hc18) <|
         yy 79 (.sto (layT (rows rw_iiiiiiLu (za :: zt)))) <|
         ww (p := ∃ old, rdT (layT (rows rw_iiiiiiLu (c12_0a :: c12_0t))) 1 (Nat.add ((c17_).toNat * 8) 7) = some old) (Exists.elim (rows_stN rwf_iiiiiiLu (0, 0, 0, 0, 0, 0, nl0, 0) (hr := hc19) (i := (c17_).toNat) (j := 7) (l := [(Value.int .u64 (bOr .u64 (c19_.2.2.2.2.2.2.2) c12_2))]) ((c19_.1), (c19_.2.1), (c19_.2.2.1), (c19_.2.2.2.1), (c19_.2.2.2.2.1), (c19_.2.2.2.2.2.1), (c19_.2.2.2.2.2.2.1), (bOr .u64 (c19_.2.2.2.2.2.2.2) c12_2)) (Nat.add ((c17_).toNat * 8) 7) rfl (toNatLt hc18) (Nat.le_of_ble_eq_true rfl) rfl) fun o h => ⟨o, h.1⟩) <|
         ww (p := layL [(Value.int .u64 (bOr .u64 (c19_.2.2.2.2.2.2.2) c12_2))] (Nat.add ((c17_).toNat * 8) 7) (layT (rows rw_iiiiiiLu (c12_0a :: c12_0t))) = layT (rows rw_iiiiiiLu (za :: zt))) (by rw [← hz]; exact (Exists.elim (rows_stN rwf_iiiiiiLu (0, 0, 0, 0, 0, 0, nl0, 0) (hr := hc19) (i := (c17_).toNat) (j := 7) (l := [(Value.int .u64 (bOr .u64 (c19_.2.2.2.2.2.2.2) c12_2))]) ((c19_.1), (c19_.2.1), (c19_.2.2.1), (c19_.2.2.2.1), (c19_.2.2.2.2.1), (c19_.2.2.2.2.2.1), (c19_.2.2.2.2.2.2.1), (bOr .u64 (c19_.2.2.2.2.2.2.2) c12_2)) (Nat.add ((c17_).toNat * 8) 7) rfl (toNatLt hc18) (Nat.le_of_ble_eq_true rfl) rfl) fun o h => h.2)) <|
         ww (frz_ok qbs_ qd1_ (c12_1a :: c12_1t)) <|
         ww (frz_okR qbs_ qd1_ qm_ (za :: zt)) <|
         ee) (by kernel_rfl)
         have k1_ := gvLen (fn := fun m_ => (Value.tuple #[(Value.slice (some ⟨Nat.add (2 * codL (rows rw_iiiiiiLu (za :: zt)) + 1) 64, 0, some 1⟩) m_ (Nat.add big m_)), (nlV (frzL (c12_1a :: c12_1t) hc20)), (i6 (0 : Int))])) hc21 k0_
         exact k1_
        ·rw [if_neg hc13] at h
         obtain ⟨hc14, h⟩ := gdD h
         replace h := gdD h
         obtain ⟨hc15, h⟩ := h
         obtain rfl := oI h
         exact runF2 hm ⟨[8, 9, 10], [], 0, 0, [(1, Nat.add (2 * cod (c12_1a :: c12_1t) + 1) 64), (0, Nat.add (2 * codL (rows rw_iiiiiiLu (c12_0a :: c12_0t)) + 1) 64)], true, [], [], []⟩ (k0 <|
          k2 <|
          k5 <|
          k8 <|
          k10 <|
          k12 <|
          k19 <|
          zz 64 (xdF hc13) <|
          ww (frz_ok qbs_ qd1_ (c12_1a :: c12_1t)) <|
          ww (frz_okR qbs_ qd1_ qm_ (c12_0a :: c12_0t)) <|
          ee) (by kernel_rfl)
     ·rw [if_neg hc8] at h
      obtain rfl := oI h
      exact runF2 hm ⟨[8, 9, 10], [], 0, 0, [], true, [], [], [8, 9]⟩ (k0 <|
       k2 <|
       k5 <|
       k8 <|
       k10 <|
       zz 43 (xnT hc8) <|
       ee) (by kernel_rfl)
    ·rw [hc7] at h
     dsimp only at h
     cases c7_ with
     | nil =>
      dsimp only at h
      cases h
     | cons c7_a c7_t =>
      dsimp only at h
      obtain ⟨c8_, hc8, h⟩ := oB h
      obtain ⟨_, hc9, h⟩ := oB h
      obtain ⟨c10_, hc10, h⟩ := oB h
      obtain ⟨⟨c11_0, c11_1, c11_2⟩, hc11, h⟩ := oB h
      dsimp only at h
      have k10 := fun {A L l} (k : PL A L l) => yy 35 (.call (qoq_ a0 a1 a2 (.inr (c7_a :: c7_t)) [] [(0, 0, true)])) <|
       ww (qmk_ n a0 a1 a2 (.inr (c7_a :: c7_t)) hc7) <|
       ww (rows_flat rwf_iiiiiiLu (c7_a :: c7_t) 49) <|
       yy 50 (.call (qm3_ a0 a1 c8_ [] [])) <|
       ww (qkc_ n a0 a1 c8_ hc8) <|
       yy 51 (.call (qhc_ a0 a1 c8_ () [] [(1, 0, false), (2, 1, false), (3, 2, false)])) <|
       ww (qek_ n a0 a1 c8_ () hc9) <|
       yy 52 (.call (qe3_ a0 a1 c8_ c10_ [(0, 1, false), (1, 2, false), (2, 3, false)] [(1, 0, false), (2, 1, false), (3, 2, false)])) <|
       ww (qdz_ n a0 a1 c8_ c10_ hc10) <|
       k
      cases c11_0 with
      | nil =>
       dsimp only at h
       cases c11_1 with
       | nil =>
        dsimp only at h
        have k19 := fun {A L l} (k : PL A L l) => ww (p := qb5_ none a0 a1 a3 (((a3).l.length : Nat) : Int) ((c7_a :: c7_t), ([] : List Int), c10_, 0) (([] : List R8), ([] : List Int), c11_2)) (qbe_ n a0 a1 a3 (((a3).l.length : Nat) : Int) ((c7_a :: c7_t), ([] : List Int), c10_, 0) (([] : List R8), ([] : List Int), c11_2) hc11) <|
         ww (rows_flat rwf_iiiiiiLu (c7_a :: c7_t) 49) <|
         ll 60 ⟨⟨[0, 1, 8, 9, 13, 48, 49, 50], [(0, 0, true)], 2, 0, [], false, [], [], []⟩, (qc_ a0 a1 a3 (((a3).l.length : Nat) : Int) (([] : List R8), ([] : List Int), c11_2)).1, (qc_ a0 a1 a3 (((a3).l.length : Nat) : Int) (([] : List R8), ([] : List Int), c11_2)).2⟩ <|
         k
        by_cases hc12 : a1 > (0 : Int)
        ·rw [if_pos hc12] at h
         cases h
        ·rw [if_neg hc12] at h
         obtain rfl := oI h
         exact runF2 hm ⟨[8, 9, 10], [], 0, 0, [], true, [], [], [8, 9]⟩ (k0 <|
          k2 <|
          k5 <|
          k8 <|
          k10 <|
          k19 <|
          zz 64 (xdF hc12) <|
          ee) (by kernel_rfl)
       | cons c11_1a c11_1t =>
        dsimp only at h
        have k19 := fun {A L l} (k : PL A L l) => ww (p := qb5_ none a0 a1 a3 (((a3).l.length : Nat) : Int) ((c7_a :: c7_t), ([] : List Int), c10_, 0) (([] : List R8), (c11_1a :: c11_1t), c11_2)) (qbe_ n a0 a1 a3 (((a3).l.length : Nat) : Int) ((c7_a :: c7_t), ([] : List Int), c10_, 0) (([] : List R8), (c11_1a :: c11_1t), c11_2) hc11) <|
         ww (rows_flat rwf_iiiiiiLu (c7_a :: c7_t) 49) <|
         ll 60 ⟨⟨[0, 1, 8, 9, 13, 48, 49, 50], [(0, 0, true)], 2, 0, [], false, [], [], []⟩, (qc_ a0 a1 a3 (((a3).l.length : Nat) : Int) (([] : List R8), (c11_1a :: c11_1t), c11_2)).1, (qc_ a0 a1 a3 (((a3).l.length : Nat) : Int) (([] : List R8), (c11_1a :: c11_1t), c11_2)).2⟩ <|
         k
        by_cases hc12 : a1 > (0 : Int)
        ·rw [if_pos hc12] at h
         cases h
        ·rw [if_neg hc12] at h
         obtain ⟨hc13, h⟩ := gdD h
         obtain rfl := oI h
         exact runF2 hm ⟨[8, 9, 10], [], 0, 0, [(1, Nat.add (2 * cod (c11_1a :: c11_1t) + 1) 64)], true, [], [], [8]⟩ (k0 <|
          k2 <|
          k5 <|
          k8 <|
          k10 <|
          k19 <|
          zz 64 (xdF hc12) <|
          ww (frz_ok qbs_ qd1_ (c11_1a :: c11_1t)) <|
          ee) (by kernel_rfl)
      | cons c11_0a c11_0t =>
       dsimp only at h
       cases c11_1 with
       | nil =>
        dsimp only at h
        have k19 := fun {A L l} (k : PL A L l) => ww (p := qb5_ none a0 a1 a3 (((a3).l.length : Nat) : Int) ((c7_a :: c7_t), ([] : List Int), c10_, 0) ((c11_0a :: c11_0t), ([] : List Int), c11_2)) (qbe_ n a0 a1 a3 (((a3).l.length : Nat) : Int) ((c7_a :: c7_t), ([] : List Int), c10_, 0) ((c11_0a :: c11_0t), ([] : List Int), c11_2) hc11) <|
         ww (rows_flat rwf_iiiiiiLu (c7_a :: c7_t) 49) <|
         ll 60 ⟨⟨[0, 1, 8, 9, 13, 48, 49, 50], [(0, 0, true)], 2, 0, [], false, [], [], []⟩, (qc_ a0 a1 a3 (((a3).l.length : Nat) : Int) ((c11_0a :: c11_0t), ([] : List Int), c11_2)).1, (qc_ a0 a1 a3 (((a3).l.length : Nat) : Int) ((c11_0a :: c11_0t), ([] : List Int), c11_2)).2⟩ <|
         k
        by_cases hc12 : a1 > (0 : Int)
        ·rw [if_pos hc12] at h
         obtain ⟨c13_, hc13, h⟩ := oB h
         obtain ⟨hc14, h⟩ := gd h
         obtain ⟨hc15, h⟩ := gd h
         obtain ⟨c16_, hc16, h⟩ := oB h
         obtain ⟨hc17, h⟩ := gd h
         obtain ⟨c18_, hc18, h⟩ := oB h
         obtain ⟨hc19, h⟩ := gd h
         obtain ⟨hc20, h⟩ := gdD h
         have hr := oI h
         rw [← hr]
         clear hr h
         obtain ⟨za, zt, hz⟩ : ∃ a t, (((c11_0a :: c11_0t)).set (c16_).toNat ((c18_.1), (c18_.2.1), (c18_.2.2.1), (c18_.2.2.2.1), (c18_.2.2.2.2.1), (c18_.2.2.2.2.2.1), (c18_.2.2.2.2.2.2.1), (bOr .u64 (c18_.2.2.2.2.2.2.2) c11_2))) = a :: t := qmt_
         revert hc20
         rw [hz]
         intro hc20
         try rw [hz] at hc19
         try rw [hz] at k0
         try rw [hz] at k2
         try rw [hz] at k5
         try rw [hz] at k8
         try rw [hz] at k10
         try rw [hz] at k19
         have k0_ : Gv P (.func 8) (qd8_ a0 a1 a2 a3) (qd9_ a0 a1 a2 a3) (Value.tuple #[(Value.slice (some ⟨Nat.add (2 * codL (rows rw_iiiiiiLu (za :: zt)) + 1) 64, 0, some 1⟩) (((c11_0a :: c11_0t)).length) (Nat.add big (((c11_0a :: c11_0t)).length))), (nlV nl0), (i6 (0 : Int))]) (qdk_ a0 a1 a2 a3 ((frzR qm_ (za :: zt) hc20), nl0, 0)) := runF2 hm ⟨[8, 9, 10], [], 0, 0, [(0, Nat.add (2 * codL (rows rw_iiiiiiLu (za :: zt)) + 1) 64)], true, [], [], [9]⟩ (k0 <|
         k2 <|
         k5 <|
         k8 <|
         k10 <|
         k19 <|
         zz 64 (xdT hc12) <|
         yy 68 (.call (qhz_ a0 c13_ [] [])) <|
         ww (qfe_ n a0 c13_ hc13) <|
         zz 70 (xk9 (Nat.add (c13_).num 64) (c13_).off (c13_).cap hc14) <|
         zz 71 (nk10 hc16 hc15) <|
         zz 72 (xk13 0 U8 hc17) <|
         zz 74 (ok21 hc18 (toNatLt hc17)) <|
         zz 77 (xk13 0 U8 hc17) <|
         yy 79 (.sto (layT (rows rw_iiiiiiLu (za :: zt)))) <|
         ww (p := ∃ old, rdT (layT (rows rw_iiiiiiLu (c11_0a :: c11_0t))) 1 (Nat.add ((c16_).toNat * 8) 7) = some old) (Exists.elim (rows_stN rwf_iiiiiiLu (0, 0, 0, 0, 0, 0, nl0, 0) (hr := hc18) (i := (c16_).toNat) (j := 7) (l := [(Value.int .u64 (bOr .u64 (c18_.2.2.2.2.2.2.2) c11_2))]) ((c18_.1), (c18_.2.1), (c18_.2.2.1), (c18_.2.2.2.1), (c18_.2.2.2.2.1), (c18_.2.2.2.2.2.1), (c18_.2.2.2.2.2.2.1), (bOr .u64 (c18_.2.2.2.2.2.2.2) c11_2)) (Nat.add ((c16_).toNat * 8) 7) rfl (toNatLt hc17) (Nat.le_of_ble_eq_true rfl) rfl) fun o h => ⟨o, h.1⟩) <|
         ww (p := layL [(Value.int .u64 (bOr .u64 (c18_.2.2.2.2.2.2.2) c11_2))] (Nat.add ((c16_).toNat * 8) 7) (layT (rows rw_iiiiiiLu (c11_0a :: c11_0t))) = layT (rows rw_iiiiiiLu (za :: zt))) (by rw [← hz]; exact (Exists.elim (rows_stN rwf_iiiiiiLu (0, 0, 0, 0, 0, 0, nl0, 0) (hr := hc18) (i := (c16_).toNat) (j := 7) (l := [(Value.int .u64 (bOr .u64 (c18_.2.2.2.2.2.2.2) c11_2))]) ((c18_.1), (c18_.2.1), (c18_.2.2.1), (c18_.2.2.2.1), (c18_.2.2.2.2.1), (c18_.2.2.2.2.2.1), (c18_.2.2.2.2.2.2.1), (bOr .u64 (c18_.2.2.2.2.2.2.2) c11_2)) (Nat.add ((c16_).toNat * 8) 7) rfl (toNatLt hc17) (Nat.le_of_ble_eq_true rfl) rfl) fun o h => h.2)) <|
         ww (frz_okR qbs_ qd1_ qm_ (za :: zt)) <|
         ee) (by kernel_rfl)
         have k1_ := gvLen (fn := fun m_ => (Value.tuple #[(Value.slice (some ⟨Nat.add (2 * codL (rows rw_iiiiiiLu (za :: zt)) + 1) 64, 0, some 1⟩) m_ (Nat.add big m_)), (nlV nl0), (i6 (0 : Int))])) hc19 k0_
         exact k1_
        ·rw [if_neg hc12] at h
         obtain ⟨hc13, h⟩ := gdD h
         obtain rfl := oI h
         exact runF2 hm ⟨[8, 9, 10], [], 0, 0, [(0, Nat.add (2 * codL (rows rw_iiiiiiLu (c11_0a :: c11_0t)) + 1) 64)], true, [], [], [9]⟩ (k0 <|
          k2 <|
          k5 <|
          k8 <|
          k10 <|
          k19 <|
          zz 64 (xdF hc12) <|
          ww (frz_okR qbs_ qd1_ qm_ (c11_0a :: c11_0t)) <|
          ee) (by kernel_rfl)
       | cons c11_1a c11_1t =>
        dsimp only at h
        have k19 := fun {A L l} (k : PL A L l) => ww (p := qb5_ none a0 a1 a3 (((a3).l.length : Nat) : Int) ((c7_a :: c7_t), ([] : List Int), c10_, 0) ((c11_0a :: c11_0t), (c11_1a :: c11_1t), c11_2)) (qbe_ n a0 a1 a3 (((a3).l.length : Nat) : Int) ((c7_a :: c7_t), ([] : List Int), c10_, 0) ((c11_0a :: c11_0t), (c11_1a :: c11_1t), c11_2) hc11) <|
         ww (rows_flat rwf_iiiiiiLu (c7_a :: c7_t) 49) <|
         ll 60 ⟨⟨[0, 1, 8, 9, 13, 48, 49, 50], [(0, 0, true)], 2, 0, [], false, [], [], []⟩, (qc_ a0 a1 a3 (((a3).l.length : Nat) : Int) ((c11_0a :: c11_0t), (c11_1a :: c11_1t), c11_2)).1, (qc_ a0 a1 a3 (((a3).l.length : Nat) : Int) ((c11_0a :: c11_0t), (c11_1a :: c11_1t), c11_2)).2⟩ <|
         k
        by_cases hc12 : a1 > (0 : Int)
        ·rw [if_pos hc12] at h
         obtain ⟨c13_, hc13, h⟩ := oB h
         obtain ⟨hc14, h⟩ := gd h
         obtain ⟨hc15, h⟩ := gd h
         obtain ⟨c16_, hc16, h⟩ := oB h
         obtain ⟨hc17, h⟩ := gd h
         obtain ⟨c18_, hc18, h⟩ := oB h
         obtain ⟨hc19, h⟩ := gdD h
         replace h := gd h
         obtain ⟨hc20, h⟩ := h
         replace h := gdD h
         obtain ⟨hc21, h⟩ := h
         have hr := oI h
         rw [← hr]
         clear hr h
         obtain ⟨za, zt, hz⟩ : ∃ a t, (((c11_0a :: c11_0t)).set (c16_).toNat ((c18_.1), (c18_.2.1), (c18_.2.2.1), (c18_.2.2.2.1), (c18_.2.2.2.2.1), (c18_.2.2.2.2.2.1), (c18_.2.2.2.2.2.2.1), (bOr .u64 (c18_.2.2.2.2.2.2.2) c11_2))) = a :: t := qmt_
         revert hc21
         rw [hz]
         intro hc21
         try rw [hz] at hc20
         try rw [hz] at k0
         try rw [hz] at k2
         try rw [hz] at k5
         try rw [hz] at k8
         try rw [hz] at k10
         try rw [hz] at k19
         have k0_ : Gv P (.func 8) (qd8_ a0 a1 a2 a3) (qd9_ a0 a1 a2 a3) (Value.tuple #[(Value.slice (some ⟨Nat.add (2 * codL (rows rw_iiiiiiLu (za :: zt)) + 1) 64, 0, some 1⟩) (((c11_0a :: c11_0t)).length) (Nat.add big (((c11_0a :: c11_0t)).length))), (nlV (frzL (c11_1a :: c11_1t) hc19)), (i6 (0 : Int))]) (qdk_ a0 a1 a2 a3 ((frzR qm_ (za :: zt) hc21), (frzL (c11_1a :: c11_1t) hc19), 0)) := runF2 hm ⟨[8, 9, 10], [], 0, 0, [(1, Nat.add (2 * cod (c11_1a :: c11_1t) + 1) 64), (0, Nat.add (2 * codL (rows rw_iiiiiiLu (za :: zt)) + 1) 64)], true, [], [], []⟩ (k0 <|
         k2 <|
         k5 <|
         k8 <|
         k10 <|
         k19 <|
         zz 64 (xdT hc12) <|
         yy 68 (.call (qhz_ a0 c13_ [] [])) <|
         ww (qfe_ n a0 c13_ hc13) <|
         zz 70 (xk9 (Nat.add (c13_).num 64) (c13_).off (c13_).cap hc14) <|
         zz 71 (nk10 hc16 hc15) <|
         zz 72 (xk13 0 U8 hc17) <|
         zz 74 (ok21 hc18 (toNatLt hc17)) <|
         zz 77 (xk13 0 U8 hc17) <|
         yy 79 (.sto (layT (rows rw_iiiiiiLu (za :: zt)))) <|
         ww (p := ∃ old, rdT (layT (rows rw_iiiiiiLu (c11_0a :: c11_0t))) 1 (Nat.add ((c16_).toNat * 8) 7) = some old) (Exists.elim (rows_stN rwf_iiiiiiLu (0, 0, 0, 0, 0, 0, nl0, 0) (hr := hc18) (i := (c16_).toNat) (j := 7) (l := [(Value.int .u64 (bOr .u64 (c18_.2.2.2.2.2.2.2) c11_2))]) ((c18_.1), (c18_.2.1), (c18_.2.2.1), (c18_.2.2.2.1), (c18_.2.2.2.2.1), (c18_.2.2.2.2.2.1), (c18_.2.2.2.2.2.2.1), (bOr .u64 (c18_.2.2.2.2.2.2.2) c11_2)) (Nat.add ((c16_).toNat * 8) 7) rfl (toNatLt hc17) (Nat.le_of_ble_eq_true rfl) rfl) fun o h => ⟨o, h.1⟩) <|
         ww (p := layL [(Value.int .u64 (bOr .u64 (c18_.2.2.2.2.2.2.2) c11_2))] (Nat.add ((c16_).toNat * 8) 7) (layT (rows rw_iiiiiiLu (c11_0a :: c11_0t))) = layT (rows rw_iiiiiiLu (za :: zt))) (by rw [← hz]; exact (Exists.elim (rows_stN rwf_iiiiiiLu (0, 0, 0, 0, 0, 0, nl0, 0) (hr := hc18) (i := (c16_).toNat) (j := 7) (l := [(Value.int .u64 (bOr .u64 (c18_.2.2.2.2.2.2.2) c11_2))]) ((c18_.1), (c18_.2.1), (c18_.2.2.1), (c18_.2.2.2.1), (c18_.2.2.2.2.1), (c18_.2.2.2.2.2.1), (c18_.2.2.2.2.2.2.1), (bOr .u64 (c18_.2.2.2.2.2.2.2) c11_2)) (Nat.add ((c16_).toNat * 8) 7) rfl (toNatLt hc17) (Nat.le_of_ble_eq_true rfl) rfl) fun o h => h.2)) <|
         ww (frz_ok qbs_ qd1_ (c11_1a :: c11_1t)) <|
         ww (frz_okR qbs_ qd1_ qm_ (za :: zt)) <|
         ee) (by kernel_rfl)
         have k1_ := gvLen (fn := fun m_ => (Value.tuple #[(Value.slice (some ⟨Nat.add (2 * codL (rows rw_iiiiiiLu (za :: zt)) + 1) 64, 0, some 1⟩) m_ (Nat.add big m_)), (nlV (frzL (c11_1a :: c11_1t) hc19)), (i6 (0 : Int))])) hc20 k0_
         exact k1_
        ·rw [if_neg hc12] at h
         obtain ⟨hc13, h⟩ := gdD h
         replace h := gdD h
         obtain ⟨hc14, h⟩ := h
         obtain rfl := oI h
         exact runF2 hm ⟨[8, 9, 10], [], 0, 0, [(1, Nat.add (2 * cod (c11_1a :: c11_1t) + 1) 64), (0, Nat.add (2 * codL (rows rw_iiiiiiLu (c11_0a :: c11_0t)) + 1) 64)], true, [], [], []⟩ (k0 <|
          k2 <|
          k5 <|
          k8 <|
          k10 <|
          k19 <|
          zz 64 (xdF hc12) <|
          ww (frz_ok qbs_ qd1_ (c11_1a :: c11_1t)) <|
          ww (frz_okR qbs_ qd1_ qm_ (c11_0a :: c11_0t)) <|
          ee) (by kernel_rfl)
   ·rw [if_neg hc6] at h
    obtain rfl := oI h
    exact runF2 hm ⟨[8, 9, 10], [], 0, 0, [], true, [], [], [8, 9]⟩ (k0 <|
     k2 <|
     k5 <|
     yy 28 (vt) <|
     ww (p := (Value.bool (!c5_)) = (Value.bool true)) (vBn (Bool.eq_false_iff.2 hc6)) <|
     ee) (by kernel_rfl)
  ·rw [if_neg hc4] at h
   obtain rfl := oI h
   exact runF2 hm ⟨[8, 9, 10], [], 0, 0, [], true, [], [], [8, 9]⟩ (k0 <|
    k2 <|
    zz 20 (xnT hc4) <|
    ee) (by kernel_rfl)
 ·rw [if_neg hc2] at h
  obtain rfl := oI h
  exact runF2 hm ⟨[8, 9, 10], [], 0, 0, [], true, [], [], [8, 9]⟩ (k0 <|
   zz 11 (xnT hc2) <|
   ee) (by kernel_rfl)

def qit_ (a0 : WL rw_iiiiiiLu) (a1 : WL rw_iiiiiiLu) : List Value := [(wlV a0), (wlV a1)]
def qiu_ (a0 : WL rw_iiiiiiLu) (a1 : WL rw_iiiiiiLu) : AH := ⟨sB [], 0, 0⟩
def qf5_ (a0 : WL rw_iiiiiiLu) (a1 : WL rw_iiiiiiLu) (r : Bool) : Value := match r with
 | o0 => (bO o0)
def qf6_ (a0 : WL rw_iiiiiiLu) (a1 : WL rw_iiiiiiLu) (r : Bool) : AH := match r with
 | o0 => ⟨sB [], 0, 0⟩
abbrev G_viewportref16Sameq1 (a0 : WL rw_iiiiiiLu) (a1 : WL rw_iiiiiiLu) (r : Bool) : Prop := Gv P (.func 13) (qit_ a0 a1) (qiu_ a0 a1) (qf5_ a0 a1 r) (qf6_ a0 a1 r)
abbrev qlp_ (a0 : WL rw_iiiiiiLu) (a1 : WL rw_iiiiiiLu) (r : Bool) (ins outs : BL) : CallA := ⟨0, ins, qf5_ a0 a1 r, qf6_ a0 a1 r, outs⟩
def qbv_ (x2_0 : WL rw_iiiiiiLu) (x2_1 : WL rw_iiiiiiLu) (x2_2 : Int) (x2_3 : Int) (x2_4 : Int) (x2_5 : Int) (x2_6 : Int) (x2_7 : Int) (x2_8 : Int) (x2_9 : NL) (x2_10 : Int) (x2_11 : Int) (x2_12 : Int) (x2_13 : Int) (x2_14 : Int) (x2_15 : Int) (x2_16 : Int) (x2_17 : NL) (x2_18 : Int) (st : Int) : XSt := match st with
 | x2_19 => (sT 102 [(0, (wlV x2_0)), (1, (wlV x2_1)), (5, (i6 x2_2)), (6, (pN 0 0)), (7, (pN 1 0)), (8, (i6 x2_19))], [], ⟨sB [(0, (some (.cells (layT [(i6 x2_3), (i6 x2_4), (i6 x2_5), (i6 x2_6), (i6 x2_7), (i6 x2_8), (nlV x2_9), (Value.int .u64 x2_10)]) 49))), (1, (some (.cells (layT [(i6 x2_11), (i6 x2_12), (i6 x2_13), (i6 x2_14), (i6 x2_15), (i6 x2_16), (nlV x2_17), (Value.int .u64 x2_18)]) 49)))], 2, 0⟩)
def qx_ (x2_0 : WL rw_iiiiiiLu) (x2_1 : WL rw_iiiiiiLu) (x2_2 : Int) (x2_3 : Int) (x2_4 : Int) (x2_5 : Int) (x2_6 : Int) (x2_7 : Int) (x2_8 : Int) (x2_9 : NL) (x2_10 : Int) (x2_11 : Int) (x2_12 : Int) (x2_13 : Int) (x2_14 : Int) (x2_15 : Int) (x2_16 : Int) (x2_17 : NL) (x2_18 : Int) (r : (Unit) ⊕ (Unit)) : Ex × XSt := match r with
 | .inl _ => (.ret, (sT 102 [(4, (bO false))], [], ⟨sB [], 0, 0⟩))
 | .inr _ => (.exit 2, (sT 102 [(0, (wlV x2_0)), (1, (wlV x2_1)), (5, (i6 x2_2))], [], ⟨sB [], 0, 0⟩))
abbrev Q_viewportref16Sameq1_2 (rnd : Option Nat) (x2_0 : WL rw_iiiiiiLu) (x2_1 : WL rw_iiiiiiLu) (x2_2 : Int) (x2_3 : Int) (x2_4 : Int) (x2_5 : Int) (x2_6 : Int) (x2_7 : Int) (x2_8 : Int) (x2_9 : NL) (x2_10 : Int) (x2_11 : Int) (x2_12 : Int) (x2_13 : Int) (x2_14 : Int) (x2_15 : Int) (x2_16 : Int) (x2_17 : NL) (x2_18 : Int) (st : Int) (c : Ex × XSt) : Prop := CG P rnd (fnN P 13) 0 (codeOf P 13 [false, false, true, true, true, false, false, true, false, false, true, false, true, true]) (qbv_ x2_0 x2_1 x2_2 x2_3 x2_4 x2_5 x2_6 x2_7 x2_8 x2_9 x2_10 x2_11 x2_12 x2_13 x2_14 x2_15 x2_16 x2_17 x2_18 st) c
abbrev qhj_ (rd : Option Nat) (x2_0 : WL rw_iiiiiiLu) (x2_1 : WL rw_iiiiiiLu) (x2_2 : Int) (x2_3 : Int) (x2_4 : Int) (x2_5 : Int) (x2_6 : Int) (x2_7 : Int) (x2_8 : Int) (x2_9 : NL) (x2_10 : Int) (x2_11 : Int) (x2_12 : Int) (x2_13 : Int) (x2_14 : Int) (x2_15 : Int) (x2_16 : Int) (x2_17 : NL) (x2_18 : Int) (st : Int) (r : (Unit) ⊕ (Unit)) : Prop := CG P rd (fnN P 13) 0 (codeOf P 13 [false, true, true, true, false, false, true, false, false, true, false, true, true]) (qbv_ x2_0 x2_1 x2_2 x2_3 x2_4 x2_5 x2_6 x2_7 x2_8 x2_9 x2_10 x2_11 x2_12 x2_13 x2_14 x2_15 x2_16 x2_17 x2_18 st) (qx_ x2_0 x2_1 x2_2 x2_3 x2_4 x2_5 x2_6 x2_7 x2_8 x2_9 x2_10 x2_11 x2_12 x2_13 x2_14 x2_15 x2_16 x2_17 x2_18 r)
def qbg_ (n : Nat) (x2_0 : WL rw_iiiiiiLu) (x2_1 : WL rw_iiiiiiLu) (x2_2 : Int) (x2_3 : Int) (x2_4 : Int) (x2_5 : Int) (x2_6 : Int) (x2_7 : Int) (x2_8 : Int) (x2_9 : NL) (x2_10 : Int) (x2_11 : Int) (x2_12 : Int) (x2_13 : Int) (x2_14 : Int) (x2_15 : Int) (x2_16 : Int) (x2_17 : NL) (x2_18 : Int) (st : Int) : Option ((Int) ⊕ ((Unit) ⊕ (Unit))) := match st with
 | x2_19 =>
  if x2_19 < (((x2_9).l.length : Nat) : Int) then
   if 0 ≤ x2_19 ∧ x2_19 < (((x2_9).l.length : Nat) : Int) then
    if (x2_19).toNat < ((x2_9).l).length then
     ((some (((x2_9).l).getD (x2_19).toNat 0))).bind fun y2_4_ =>
     if 0 ≤ x2_19 ∧ x2_19 < (((x2_17).l.length : Nat) : Int) then
      if (x2_19).toNat < ((x2_17).l).length then
       ((some (((x2_17).l).getD (x2_19).toNat 0))).bind fun y2_7_ =>
       if y2_4_ = y2_7_ then
        some (.inl (w64 (x2_19 + (1 : Int))))
       else
        some (.inr (.inl ()))
      else none
     else none
    else none
   else none
  else
   some (.inr (.inr ()))
def qdm_ (n : Nat) (x2_0 : WL rw_iiiiiiLu) (x2_1 : WL rw_iiiiiiLu) (x2_2 : Int) (x2_3 : Int) (x2_4 : Int) (x2_5 : Int) (x2_6 : Int) (x2_7 : Int) (x2_8 : Int) (x2_9 : NL) (x2_10 : Int) (x2_11 : Int) (x2_12 : Int) (x2_13 : Int) (x2_14 : Int) (x2_15 : Int) (x2_16 : Int) (x2_17 : NL) (x2_18 : Int) (st : Int) : Option ((Unit) ⊕ (Unit)) := iterM (qbg_ n x2_0 x2_1 x2_2 x2_3 x2_4 x2_5 x2_6 x2_7 x2_8 x2_9 x2_10 x2_11 x2_12 x2_13 x2_14 x2_15 x2_16 x2_17 x2_18) n st
theorem qhk_ (n : Nat) {rnd : Option Nat} (x2_0 : WL rw_iiiiiiLu) (x2_1 : WL rw_iiiiiiLu) (x2_2 : Int) (x2_3 : Int) (x2_4 : Int) (x2_5 : Int) (x2_6 : Int) (x2_7 : Int) (x2_8 : Int) (x2_9 : NL) (x2_10 : Int) (x2_11 : Int) (x2_12 : Int) (x2_13 : Int) (x2_14 : Int) (x2_15 : Int) (x2_16 : Int) (x2_17 : NL) (x2_18 : Int) (x2_19 : Int) (o : (Int) ⊕ ((Unit) ⊕ (Unit))) (h : qbg_ n x2_0 x2_1 x2_2 x2_3 x2_4 x2_5 x2_6 x2_7 x2_8 x2_9 x2_10 x2_11 x2_12 x2_13 x2_14 x2_15 x2_16 x2_17 x2_18 x2_19 = some o) : CG P rnd (fnN P 13) 0 (codeOf P 13 [false, false, true, true, true, false, false, true, false, false, true, false, true, true]) (qbv_ x2_0 x2_1 x2_2 x2_3 x2_4 x2_5 x2_6 x2_7 x2_8 x2_9 x2_10 x2_11 x2_12 x2_13 x2_14 x2_15 x2_16 x2_17 x2_18 x2_19) (Sum.elim (fun s => (.normal, qbv_ x2_0 x2_1 x2_2 x2_3 x2_4 x2_5 x2_6 x2_7 x2_8 x2_9 x2_10 x2_11 x2_12 x2_13 x2_14 x2_15 x2_16 x2_17 x2_18 s)) (fun r => qx_ x2_0 x2_1 x2_2 x2_3 x2_4 x2_5 x2_6 x2_7 x2_8 x2_9 x2_10 x2_11 x2_12 x2_13 x2_14 x2_15 x2_16 x2_17 x2_18 r) o) := by
 unfold qbg_ at h
 dsimp only at h
 by_cases hy2_1 : x2_19 < (((x2_9).l.length : Nat) : Int)
 ·rw [if_pos hy2_1] at h
  obtain ⟨hy2_2, h⟩ := gd h
  obtain ⟨hy2_3, h⟩ := gd h
  obtain ⟨y2_4_, hy2_4, h⟩ := oB h
  obtain ⟨hy2_5, h⟩ := gd h
  obtain ⟨hy2_6, h⟩ := gd h
  obtain ⟨y2_7_, hy2_7, h⟩ := oB h
  have k0 := fun {A L l} (k : PL A L l) => zz 6 (xdT hy2_1) <|
   zz 14 (xk9 (Nat.add (x2_9).num 64) (x2_9).off (x2_9).cap hy2_2) <|
   zz 15 (nk10 hy2_4 hy2_3) <|
   zz 19 (xk9 (Nat.add (x2_17).num 64) (x2_17).off (x2_17).cap hy2_5) <|
   zz 20 (nk10 hy2_7 hy2_6) <|
   k
  by_cases hy2_8 : y2_4_ = y2_7_
  ·rw [if_pos hy2_8] at h
   obtain rfl := oI h
   exact runC2 hm ⟨[0, 1, 5, 6, 7, 8], [(0, 0, false), (1, 1, false)], 2, 0, [], false, [], [], []⟩ (k0 <|
    zz 21 (xnF hy2_8) <|
    ee) (by kernel_rfl)
  ·rw [if_neg hy2_8] at h
   obtain rfl := oI h
   exact runC2 hm ⟨[4], [], 0, 0, [], false, [], [], []⟩ (k0 <|
    zz 21 (xnT hy2_8) <|
    ee) (by kernel_rfl)
 ·rw [if_neg hy2_1] at h
  obtain rfl := oI h
  exact runC2 hm ⟨[0, 1, 5], [], 0, 0, [], false, [], [], []⟩ (zz 6 (xdF hy2_1) <|
   ee) (by kernel_rfl)
theorem qf9_ (n : Nat) {rnd : Option Nat} (x2_0 : WL rw_iiiiiiLu) (x2_1 : WL rw_iiiiiiLu) (x2_2 : Int) (x2_3 : Int) (x2_4 : Int) (x2_5 : Int) (x2_6 : Int) (x2_7 : Int) (x2_8 : Int) (x2_9 : NL) (x2_10 : Int) (x2_11 : Int) (x2_12 : Int) (x2_13 : Int) (x2_14 : Int) (x2_15 : Int) (x2_16 : Int) (x2_17 : NL) (x2_18 : Int) (st : Int) (r : (Unit) ⊕ (Unit)) (h : qdm_ n x2_0 x2_1 x2_2 x2_3 x2_4 x2_5 x2_6 x2_7 x2_8 x2_9 x2_10 x2_11 x2_12 x2_13 x2_14 x2_15 x2_16 x2_17 x2_18 st = some r) : CG P rnd (fnN P 13) 0 (codeOf P 13 [false, true, true, true, false, false, true, false, false, true, false, true, true]) (qbv_ x2_0 x2_1 x2_2 x2_3 x2_4 x2_5 x2_6 x2_7 x2_8 x2_9 x2_10 x2_11 x2_12 x2_13 x2_14 x2_15 x2_16 x2_17 x2_18 st) (qx_ x2_0 x2_1 x2_2 x2_3 x2_4 x2_5 x2_6 x2_7 x2_8 x2_9 x2_10 x2_11 x2_12 x2_13 x2_14 x2_15 x2_16 x2_17 x2_18 r) :=
 CG.iter (b := codeOf P 13 [false, false, true, true, true, false, false, true, false, false, true, false, true, true]) (by kernel_rfl) (body := qbg_ n x2_0 x2_1 x2_2 x2_3 x2_4 x2_5 x2_6 x2_7 x2_8 x2_9 x2_10 x2_11 x2_12 x2_13 x2_14 x2_15 x2_16 x2_17 x2_18) (S := qbv_ x2_0 x2_1 x2_2 x2_3 x2_4 x2_5 x2_6 x2_7 x2_8 x2_9 x2_10 x2_11 x2_12 x2_13 x2_14 x2_15 x2_16 x2_17 x2_18) (X := qx_ x2_0 x2_1 x2_2 x2_3 x2_4 x2_5 x2_6 x2_7 x2_8 x2_9 x2_10 x2_11 x2_12 x2_13 x2_14 x2_15 x2_16 x2_17 x2_18)
  (fun s s' h => qhk_ n x2_0 x2_1 x2_2 x2_3 x2_4 x2_5 x2_6 x2_7 x2_8 x2_9 x2_10 x2_11 x2_12 x2_13 x2_14 x2_15 x2_16 x2_17 x2_18 s (.inl s') h)
  (fun s r h => qhk_ n x2_0 x2_1 x2_2 x2_3 x2_4 x2_5 x2_6 x2_7 x2_8 x2_9 x2_10 x2_11 x2_12 x2_13 x2_14 x2_15 x2_16 x2_17 x2_18 s (.inr r) h)
  (fun r => by intro hx; rcases r with _ | _ <;> cases hx) h
def qbw_ (x1_0 : WL rw_iiiiiiLu) (x1_1 : WL rw_iiiiiiLu) (st : Int) : XSt := match st with
 | x1_2 => (sT 102 [(0, (wlV x1_0)), (1, (wlV x1_1)), (5, (i6 x1_2))], [], ⟨sB [], 0, 0⟩)
def qy_ (x1_0 : WL rw_iiiiiiLu) (x1_1 : WL rw_iiiiiiLu) (r : (Unit) ⊕ (Unit)) : Ex × XSt := match r with
 | .inl _ => (.ret, (sT 102 [(4, (bO false))], [], ⟨sB [], 0, 0⟩))
 | .inr _ => (.exit 0, (sT 102 [], [], ⟨sB [], 0, 0⟩))
abbrev Q_viewportref16Sameq1_1 (rnd : Option Nat) (x1_0 : WL rw_iiiiiiLu) (x1_1 : WL rw_iiiiiiLu) (st : Int) (c : Ex × XSt) : Prop := CG P rnd (fnN P 13) 0 (codeOf P 13 [false, false, true, false, true, true]) (qbw_ x1_0 x1_1 st) c
abbrev qhl_ (rd : Option Nat) (x1_0 : WL rw_iiiiiiLu) (x1_1 : WL rw_iiiiiiLu) (st : Int) (r : (Unit) ⊕ (Unit)) : Prop := CG P rd (fnN P 13) 0 (codeOf P 13 [false, true, false, true, true]) (qbw_ x1_0 x1_1 st) (qy_ x1_0 x1_1 r)
def qbh_ (n : Nat) (x1_0 : WL rw_iiiiiiLu) (x1_1 : WL rw_iiiiiiLu) (st : Int) : Option ((Int) ⊕ ((Unit) ⊕ (Unit))) := match st with
 | x1_2 =>
  if x1_2 < (((x1_0).l.length : Nat) : Int) then
   if 0 ≤ x1_2 ∧ x1_2 < (((x1_0).l.length : Nat) : Int) then
    ((some (((x1_0).l).getD (x1_2).toNat (0, 0, 0, 0, 0, 0, nl0, 0)))).bind fun y1_3_ =>
    if 0 ≤ x1_2 ∧ x1_2 < (((x1_1).l.length : Nat) : Int) then
     ((some (((x1_1).l).getD (x1_2).toNat (0, 0, 0, 0, 0, 0, nl0, 0)))).bind fun y1_5_ =>
     if (y1_3_.1) = (y1_5_.1) then
      if (y1_3_.2.1) = (y1_5_.2.1) then
       if (y1_3_.2.2.1) = (y1_5_.2.2.1) then
        if (y1_3_.2.2.2.1) = (y1_5_.2.2.2.1) then
         if (y1_3_.2.2.2.2.1) = (y1_5_.2.2.2.2.1) then
          if (y1_3_.2.2.2.2.2.1) = (y1_5_.2.2.2.2.2.1) then
           if (y1_3_.2.2.2.2.2.2.2) = (y1_5_.2.2.2.2.2.2.2) then
            if ((((y1_3_.2.2.2.2.2.2.1)).l.length : Nat) : Int) = ((((y1_5_.2.2.2.2.2.2.1)).l.length : Nat) : Int) then
             match qdm_ n x1_0 x1_1 x1_2 (y1_3_.1) (y1_3_.2.1) (y1_3_.2.2.1) (y1_3_.2.2.2.1) (y1_3_.2.2.2.2.1) (y1_3_.2.2.2.2.2.1) (y1_3_.2.2.2.2.2.2.1) (y1_3_.2.2.2.2.2.2.2) (y1_5_.1) (y1_5_.2.1) (y1_5_.2.2.1) (y1_5_.2.2.2.1) (y1_5_.2.2.2.2.1) (y1_5_.2.2.2.2.2.1) (y1_5_.2.2.2.2.2.2.1) (y1_5_.2.2.2.2.2.2.2) 0 with
             | none => none
             | some (.inl _) =>
              some (.inr (.inl ()))
             | some (.inr _) =>
              some (.inl (w64 (x1_2 + (1 : Int))))
            else
             some (.inr (.inl ()))
           else
            some (.inr (.inl ()))
          else
           some (.inr (.inl ()))
         else
          some (.inr (.inl ()))
        else
         some (.inr (.inl ()))
       else
        some (.inr (.inl ()))
      else
       some (.inr (.inl ()))
     else
      some (.inr (.inl ()))
    else none
   else none
  else
   some (.inr (.inr ()))
def qdn_ (n : Nat) (x1_0 : WL rw_iiiiiiLu) (x1_1 : WL rw_iiiiiiLu) (st : Int) : Option ((Unit) ⊕ (Unit)) := iterM (qbh_ n x1_0 x1_1) n st
theorem qhm_ (n : Nat) {rnd : Option Nat} (x1_0 : WL rw_iiiiiiLu) (x1_1 : WL rw_iiiiiiLu) (x1_2 : Int) (o : (Int) ⊕ ((Unit) ⊕ (Unit))) (h : qbh_ n x1_0 x1_1 x1_2 = some o) : CG P rnd (fnN P 13) 0 (codeOf P 13 [false, false, true, false, true, true]) (qbw_ x1_0 x1_1 x1_2) (Sum.elim (fun s => (.normal, qbw_ x1_0 x1_1 s)) (fun r => qy_ x1_0 x1_1 r) o) := by
 unfold qbh_ at h
 dsimp only at h
 by_cases hy1_1 : x1_2 < (((x1_0).l.length : Nat) : Int)
 ·rw [if_pos hy1_1] at h
  obtain ⟨hy1_2, h⟩ := gd h
  obtain ⟨y1_3_, hy1_3, h⟩ := oB h
  obtain ⟨hy1_4, h⟩ := gd h
  obtain ⟨y1_5_, hy1_5, h⟩ := oB h
  have k0 := fun {A L l} (k : PL A L l) => zz 5 (xdT hy1_1) <|
   zz 12 (xk1 (x1_0).num (x1_0).off (x1_0).cap hy1_2) <|
   zz 13 (lk2 hy1_3 (toNatLt hy1_2)) <|
   zz 16 (xk1 (x1_1).num (x1_1).off (x1_1).cap hy1_4) <|
   zz 17 (lk2 hy1_5 (toNatLt hy1_4)) <|
   k
  by_cases hy1_6 : (y1_3_.1) = (y1_5_.1)
  ·rw [if_pos hy1_6] at h
   have k5 := fun {A L l} (k : PL A L l) => zz 28 (xnF hy1_6) <|
    k
   by_cases hy1_7 : (y1_3_.2.1) = (y1_5_.2.1)
   ·rw [if_pos hy1_7] at h
    have k6 := fun {A L l} (k : PL A L l) => zz 34 (xnF hy1_7) <|
     k
    by_cases hy1_8 : (y1_3_.2.2.1) = (y1_5_.2.2.1)
    ·rw [if_pos hy1_8] at h
     have k7 := fun {A L l} (k : PL A L l) => zz 41 (xnF hy1_8) <|
      k
     by_cases hy1_9 : (y1_3_.2.2.2.1) = (y1_5_.2.2.2.1)
     ·rw [if_pos hy1_9] at h
      have k8 := fun {A L l} (k : PL A L l) => zz 48 (xnF hy1_9) <|
       k
      by_cases hy1_10 : (y1_3_.2.2.2.2.1) = (y1_5_.2.2.2.2.1)
      ·rw [if_pos hy1_10] at h
       have k9 := fun {A L l} (k : PL A L l) => zz 55 (xnF hy1_10) <|
        k
       by_cases hy1_11 : (y1_3_.2.2.2.2.2.1) = (y1_5_.2.2.2.2.2.1)
       ·rw [if_pos hy1_11] at h
        have k10 := fun {A L l} (k : PL A L l) => zz 62 (xnF hy1_11) <|
         k
        by_cases hy1_12 : (y1_3_.2.2.2.2.2.2.2) = (y1_5_.2.2.2.2.2.2.2)
        ·rw [if_pos hy1_12] at h
         have k11 := fun {A L l} (k : PL A L l) => zz 69 (xnF hy1_12) <|
          k
         by_cases hy1_13 : ((((y1_3_.2.2.2.2.2.2.1)).l.length : Nat) : Int) = ((((y1_5_.2.2.2.2.2.2.1)).l.length : Nat) : Int)
         ·rw [if_pos hy1_13] at h
          have k12 := fun {A L l} (k : PL A L l) => zz 78 (xnF hy1_13) <|
           k
          rcases hy1_14 : qdm_ n x1_0 x1_1 x1_2 (y1_3_.1) (y1_3_.2.1) (y1_3_.2.2.1) (y1_3_.2.2.2.1) (y1_3_.2.2.2.2.1) (y1_3_.2.2.2.2.2.1) (y1_3_.2.2.2.2.2.2.1) (y1_3_.2.2.2.2.2.2.2) (y1_5_.1) (y1_5_.2.1) (y1_5_.2.2.1) (y1_5_.2.2.2.1) (y1_5_.2.2.2.2.1) (y1_5_.2.2.2.2.2.1) (y1_5_.2.2.2.2.2.2.1) (y1_5_.2.2.2.2.2.2.2) 0 with _ | (⟨⟩ | ⟨⟩)
          ·rw [hy1_14] at h; cases h
          ·rw [hy1_14] at h
           dsimp only at h
           obtain rfl := oI h
           exact runC2 hm ⟨[4], [], 0, 0, [], false, [], [], []⟩ (k0 <|
            k5 <|
            k6 <|
            k7 <|
            k8 <|
            k9 <|
            k10 <|
            k11 <|
            k12 <|
            ww (p := qhj_ rnd x1_0 x1_1 x1_2 (y1_3_.1) (y1_3_.2.1) (y1_3_.2.2.1) (y1_3_.2.2.2.1) (y1_3_.2.2.2.2.1) (y1_3_.2.2.2.2.2.1) (y1_3_.2.2.2.2.2.2.1) (y1_3_.2.2.2.2.2.2.2) (y1_5_.1) (y1_5_.2.1) (y1_5_.2.2.1) (y1_5_.2.2.2.1) (y1_5_.2.2.2.2.1) (y1_5_.2.2.2.2.2.1) (y1_5_.2.2.2.2.2.2.1) (y1_5_.2.2.2.2.2.2.2) 0 (.inl ())) (qf9_ n x1_0 x1_1 x1_2 (y1_3_.1) (y1_3_.2.1) (y1_3_.2.2.1) (y1_3_.2.2.2.1) (y1_3_.2.2.2.2.1) (y1_3_.2.2.2.2.2.1) (y1_3_.2.2.2.2.2.2.1) (y1_3_.2.2.2.2.2.2.2) (y1_5_.1) (y1_5_.2.1) (y1_5_.2.2.1) (y1_5_.2.2.2.1) (y1_5_.2.2.2.2.1) (y1_5_.2.2.2.2.2.1) (y1_5_.2.2.2.2.2.2.1) (y1_5_.2.2.2.2.2.2.2) 0 (.inl ()) hy1_14) <|
            ll 84 ⟨⟨[0, 1, 5, 6, 7, 8], [(0, 8, false), (1, 9, false)], 2, 0, [], false, [], [], []⟩, (qx_ x1_0 x1_1 x1_2 (y1_3_.1) (y1_3_.2.1) (y1_3_.2.2.1) (y1_3_.2.2.2.1) (y1_3_.2.2.2.2.1) (y1_3_.2.2.2.2.2.1) (y1_3_.2.2.2.2.2.2.1) (y1_3_.2.2.2.2.2.2.2) (y1_5_.1) (y1_5_.2.1) (y1_5_.2.2.1) (y1_5_.2.2.2.1) (y1_5_.2.2.2.2.1) (y1_5_.2.2.2.2.2.1) (y1_5_.2.2.2.2.2.2.1) (y1_5_.2.2.2.2.2.2.2) (.inl ())).1, (qx_ x1_0 x1_1 x1_2 (y1_3_.1) (y1_3_.2.1) (y1_3_.2.2.1) (y1_3_.2.2.2.1) (y1_3_.2.2.2.2.1) (y1_3_.2.2.2.2.2.1) (y1_3_.2.2.2.2.2.2.1) (y1_3_.2.2.2.2.2.2.2) (y1_5_.1) (y1_5_.2.1) (y1_5_.2.2.1) (y1_5_.2.2.2.1) (y1_5_.2.2.2.2.1) (y1_5_.2.2.2.2.2.1) (y1_5_.2.2.2.2.2.2.1) (y1_5_.2.2.2.2.2.2.2) (.inl ())).2⟩ <|
            ee) (by kernel_rfl)
          ·rw [hy1_14] at h
           dsimp only at h
           obtain rfl := oI h
           exact runC2 hm ⟨[0, 1, 5], [], 0, 0, [], false, [], [], []⟩ (k0 <|
            k5 <|
            k6 <|
            k7 <|
            k8 <|
            k9 <|
            k10 <|
            k11 <|
            k12 <|
            ww (p := qhj_ rnd x1_0 x1_1 x1_2 (y1_3_.1) (y1_3_.2.1) (y1_3_.2.2.1) (y1_3_.2.2.2.1) (y1_3_.2.2.2.2.1) (y1_3_.2.2.2.2.2.1) (y1_3_.2.2.2.2.2.2.1) (y1_3_.2.2.2.2.2.2.2) (y1_5_.1) (y1_5_.2.1) (y1_5_.2.2.1) (y1_5_.2.2.2.1) (y1_5_.2.2.2.2.1) (y1_5_.2.2.2.2.2.1) (y1_5_.2.2.2.2.2.2.1) (y1_5_.2.2.2.2.2.2.2) 0 (.inr ())) (qf9_ n x1_0 x1_1 x1_2 (y1_3_.1) (y1_3_.2.1) (y1_3_.2.2.1) (y1_3_.2.2.2.1) (y1_3_.2.2.2.2.1) (y1_3_.2.2.2.2.2.1) (y1_3_.2.2.2.2.2.2.1) (y1_3_.2.2.2.2.2.2.2) (y1_5_.1) (y1_5_.2.1) (y1_5_.2.2.1) (y1_5_.2.2.2.1) (y1_5_.2.2.2.2.1) (y1_5_.2.2.2.2.2.1) (y1_5_.2.2.2.2.2.2.1) (y1_5_.2.2.2.2.2.2.2) 0 (.inr ()) hy1_14) <|
            ll 84 ⟨⟨[0, 1, 5, 6, 7, 8], [(0, 8, false), (1, 9, false)], 2, 0, [], false, [], [], []⟩, (qx_ x1_0 x1_1 x1_2 (y1_3_.1) (y1_3_.2.1) (y1_3_.2.2.1) (y1_3_.2.2.2.1) (y1_3_.2.2.2.2.1) (y1_3_.2.2.2.2.2.1) (y1_3_.2.2.2.2.2.2.1) (y1_3_.2.2.2.2.2.2.2) (y1_5_.1) (y1_5_.2.1) (y1_5_.2.2.1) (y1_5_.2.2.2.1) (y1_5_.2.2.2.2.1) (y1_5_.2.2.2.2.2.1) (y1_5_.2.2.2.2.2.2.1) (y1_5_.2.2.2.2.2.2.2) (.inr ())).1, (qx_ x1_0 x1_1 x1_2 (y1_3_.1) (y1_3_.2.1) (y1_3_.2.2.1) (y1_3_.2.2.2.1) (y1_3_.2.2.2.2.1) (y1_3_.2.2.2.2.2.1) (y1_3_.2.2.2.2.2.2.1) (y1_3_.2.2.2.2.2.2.2) (y1_5_.1) (y1_5_.2.1) (y1_5_.2.2.1) (y1_5_.2.2.2.1) (y1_5_.2.2.2.2.1) (y1_5_.2.2.2.2.2.1) (y1_5_.2.2.2.2.2.2.1) (y1_5_.2.2.2.2.2.2.2) (.inr ())).2⟩ <|
            ee) (by kernel_rfl)
         ·rw [if_neg hy1_13] at h
          obtain rfl := oI h
          exact runC2 hm ⟨[4], [], 0, 0, [], false, [], [], []⟩ (k0 <|
           k5 <|
           k6 <|
           k7 <|
           k8 <|
           k9 <|
           k10 <|
           k11 <|
           zz 78 (xnT hy1_13) <|
           ee) (by kernel_rfl)
        ·rw [if_neg hy1_12] at h
         obtain rfl := oI h
         exact runC2 hm ⟨[4], [], 0, 0, [], false, [], [], []⟩ (k0 <|
          k5 <|
          k6 <|
          k7 <|
          k8 <|
          k9 <|
          k10 <|
          zz 69 (xnT hy1_12) <|
          ee) (by kernel_rfl)
       ·rw [if_neg hy1_11] at h
        obtain rfl := oI h
        exact runC2 hm ⟨[4], [], 0, 0, [], false, [], [], []⟩ (k0 <|
         k5 <|
         k6 <|
         k7 <|
         k8 <|
         k9 <|
         zz 62 (xnT hy1_11) <|
         ee) (by kernel_rfl)
      ·rw [if_neg hy1_10] at h
       obtain rfl := oI h
       exact runC2 hm ⟨[4], [], 0, 0, [], false, [], [], []⟩ (k0 <|
        k5 <|
        k6 <|
        k7 <|
        k8 <|
        zz 55 (xnT hy1_10) <|
        ee) (by kernel_rfl)
     ·rw [if_neg hy1_9] at h
      obtain rfl := oI h
      exact runC2 hm ⟨[4], [], 0, 0, [], false, [], [], []⟩ (k0 <|
       k5 <|
       k6 <|
       k7 <|
       zz 48 (xnT hy1_9) <|
       ee) (by kernel_rfl)
    ·rw [if_neg hy1_8] at h
     obtain rfl := oI h
     exact runC2 hm ⟨[4], [], 0, 0, [], false, [], [], []⟩ (k0 <|
      k5 <|
      k6 <|
      zz 41 (xnT hy1_8) <|
      ee) (by kernel_rfl)
   ·rw [if_neg hy1_7] at h
    obtain rfl := oI h
    exact runC2 hm ⟨[4], [], 0, 0, [], false, [], [], []⟩ (k0 <|
     k5 <|
     zz 34 (xnT hy1_7) <|
     ee) (by kernel_rfl)
  ·rw [if_neg hy1_6] at h
   obtain rfl := oI h
   exact runC2 hm ⟨[4], [], 0, 0, [], false, [], [], []⟩ (k0 <|
    zz 28 (xnT hy1_6) <|
    ee) (by kernel_rfl)
 ·rw [if_neg hy1_1] at h
  obtain rfl := oI h
  exact runC2 hm ⟨[], [], 0, 0, [], false, [], [], []⟩ (zz 5 (xdF hy1_1) <|
   ee) (by kernel_rfl)
theorem qga_ (n : Nat) {rnd : Option Nat} (x1_0 : WL rw_iiiiiiLu) (x1_1 : WL rw_iiiiiiLu) (st : Int) (r : (Unit) ⊕ (Unit)) (h : qdn_ n x1_0 x1_1 st = some r) : CG P rnd (fnN P 13) 0 (codeOf P 13 [false, true, false, true, true]) (qbw_ x1_0 x1_1 st) (qy_ x1_0 x1_1 r) :=
 CG.iter (b := codeOf P 13 [false, false, true, false, true, true]) (by kernel_rfl) (body := qbh_ n x1_0 x1_1) (S := qbw_ x1_0 x1_1) (X := qy_ x1_0 x1_1)
  (fun s s' h => qhm_ n x1_0 x1_1 s (.inl s') h)
  (fun s r h => qhm_ n x1_0 x1_1 s (.inr r) h)
  (fun r => by intro hx; rcases r with _ | _ <;> cases hx) h
def qc7_ (n : Nat) (a0 : WL rw_iiiiiiLu) (a1 : WL rw_iiiiiiLu) : Option (Bool) :=
 if (((a0).l.length : Nat) : Int) = (((a1).l.length : Nat) : Int) then
  match qdn_ n a0 a1 0 with
  | none => none
  | some (.inl _) =>
   some false
  | some (.inr _) =>
   some true
 else
  some false
theorem qki_ (n : Nat) (a0 : WL rw_iiiiiiLu) (a1 : WL rw_iiiiiiLu) (r : Bool) (h : qc7_ n a0 a1 = some r) : Gv P (.func 13) (qit_ a0 a1) (qiu_ a0 a1) (qf5_ a0 a1 r) (qf6_ a0 a1 r) := by
 unfold qc7_ at h
 by_cases hc1 : (((a0).l.length : Nat) : Int) = (((a1).l.length : Nat) : Int)
 ·rw [if_pos hc1] at h
  have k0 := fun {A L l} (k : PL A L l) => zz 8 (xnF hc1) <|
   k
  rcases hc2 : qdn_ n a0 a1 0 with _ | (⟨⟩ | ⟨⟩)
  ·rw [hc2] at h; cases h
  ·rw [hc2] at h
   dsimp only at h
   obtain rfl := oI h
   exact runF2 hm ⟨[4], [], 0, 0, [], false, [], [], []⟩ (k0 <|
    ww (p := qhl_ none a0 a1 0 (.inl ())) (qga_ n a0 a1 0 (.inl ()) hc2) <|
    ll 14 ⟨⟨[0, 1, 5], [], 0, 0, [], false, [], [], []⟩, (qy_ a0 a1 (.inl ())).1, (qy_ a0 a1 (.inl ())).2⟩ <|
    ee) (by kernel_rfl)
  ·rw [hc2] at h
   dsimp only at h
   obtain rfl := oI h
   exact runF2 hm ⟨[4], [], 0, 0, [], false, [], [], []⟩ (k0 <|
    ww (p := qhl_ none a0 a1 0 (.inr ())) (qga_ n a0 a1 0 (.inr ()) hc2) <|
    ll 14 ⟨⟨[0, 1, 5], [], 0, 0, [], false, [], [], []⟩, (qy_ a0 a1 (.inr ())).1, (qy_ a0 a1 (.inr ())).2⟩ <|
    ee) (by kernel_rfl)
 ·rw [if_neg hc1] at h
  obtain rfl := oI h
  exact runF2 hm ⟨[4], [], 0, 0, [], false, [], [], []⟩ (zz 8 (xnT hc1) <|
   ee) (by kernel_rfl)

def qmr_ (a0 : WL rw_iiiiiiLu) : List Value := [(wlV a0)]
def qms_ (a0 : WL rw_iiiiiiLu) : AH := ⟨sB [], 0, 0⟩
def qkj_ (a0 : WL rw_iiiiiiLu) (r : Int) : Value := match r with
 | o0 => (Value.int .u64 o0)
def qkk_ (a0 : WL rw_iiiiiiLu) (r : Int) : AH := match r with
 | o0 => ⟨sB [], 0, 0⟩
abbrev G_spliceBitsq1 (a0 : WL rw_iiiiiiLu) (r : Int) : Prop := Gv P (.func 21) (qmr_ a0) (qms_ a0) (qkj_ a0 r) (qkk_ a0 r)
abbrev qhg_ (a0 : WL rw_iiiiiiLu) (r : Int) (ins outs : BL) : CallA := ⟨0, ins, qkj_ a0 r, qkk_ a0 r, outs⟩
def qdd_ (n : Nat) (a0 : WL rw_iiiiiiLu) : Option (Int) :=
 (qce_ n a0).bind fun c1_ =>
 if c1_ = (0 : Int) then
  (qcz_ n a0 0 (((a0).l.length : Nat) : Int)).bind fun _ =>
  (qbj_ n a0 0 (((a0).l.length : Nat) : Int)).bind fun c4_ =>
  some c4_
 else
  some 0
theorem qel_ (n : Nat) (a0 : WL rw_iiiiiiLu) (r : Int) (h : qdd_ n a0 = some r) : Gv P (.func 21) (qmr_ a0) (qms_ a0) (qkj_ a0 r) (qkk_ a0 r) := by
 unfold qdd_ at h
 obtain ⟨c1_, hc1, h⟩ := oB h
 have k0 := fun {A L l} (k : PL A L l) => yy 5 (.call (qez_ a0 c1_ [] [])) <|
  ww (qdj_ n a0 c1_ hc1) <|
  k
 by_cases hc2 : c1_ = (0 : Int)
 ·rw [if_pos hc2] at h
  obtain ⟨_, hc3, h⟩ := oB h
  obtain ⟨c4_, hc4, h⟩ := oB h
  obtain rfl := oI h
  exact runF2 hm ⟨[2], [], 0, 0, [], false, [], [], []⟩ (k0 <|
   zz 6 (xnF hc2) <|
   yy 12 (.call (qhc_ a0 0 (((a0).l.length : Nat) : Int) () [] [(0, 0, false), (1, 1, false), (2, 2, false)])) <|
   ww (qek_ n a0 0 (((a0).l.length : Nat) : Int) () hc3) <|
   yy 13 (.call (qe3_ a0 0 (((a0).l.length : Nat) : Int) c4_ [(0, 0, false), (1, 1, false), (2, 2, false)] [(0, 0, false), (1, 1, false), (2, 2, false)])) <|
   ww (qdz_ n a0 0 (((a0).l.length : Nat) : Int) c4_ hc4) <|
   ee) (by kernel_rfl)
 ·rw [if_neg hc2] at h
  obtain rfl := oI h
  exact runF2 hm ⟨[2], [], 0, 0, [], false, [], [], []⟩ (k0 <|
   zz 6 (xnT hc2) <|
   ee) (by kernel_rfl)

def qea_ (g1 : Int) : List Value := [(wlV wA), (i6 g1), (wlV wB)]
def qg1_ (g1 : Int) : AH := ⟨sB [], 0, 0⟩
def qeb_ (g1 : Int) (r : Unit) : Value := match r with
 | _ => (bO true)
def qec_ (g1 : Int) (r : Unit) : AH := match r with
 | _ => ⟨sB [], 0, 0⟩
abbrev qov_ (g1 : Int) (r : Unit) : Prop := Gv P (.func 4) (qea_ g1) (qg1_ g1) (qeb_ g1 r) (qec_ g1 r)
abbrev qow_ (g1 : Int) (r : Unit) (ins outs : BL) : CallA := ⟨0, ins, qeb_ g1 r, qec_ g1 r, outs⟩
def qz_ (x11_0 : WL rw_iiiiiiLu) (x11_1 : Int) (x11_2 : WL rw_iiiiiiLu) (x11_3 : NL) (st : Int × Int) : XSt := match st with
 | (x11_4, x11_5) => (sT 91 [(0, (wlV x11_0)), (1, (i6 x11_1)), (8, (wlV x11_2)), (9, (nlV x11_3)), (11, (Value.int .u64 x11_4)), (12, (i6 x11_5))], [], ⟨sB [], 0, 0⟩)
def q0_ (x11_0 : WL rw_iiiiiiLu) (x11_1 : Int) (x11_2 : WL rw_iiiiiiLu) (x11_3 : NL) (r : Int) : Ex × XSt := match r with
 | z11_0 => (.exit 0, (sT 91 [(0, (wlV x11_0)), (1, (i6 x11_1)), (8, (wlV x11_2)), (11, (Value.int .u64 z11_0))], [], ⟨sB [], 0, 0⟩))
abbrev qod_ (rnd : Option Nat) (x11_0 : WL rw_iiiiiiLu) (x11_1 : Int) (x11_2 : WL rw_iiiiiiLu) (x11_3 : NL) (st : Int × Int) (c : Ex × XSt) : Prop := CG P rnd (fnN P 4) 0 (codeOf P 4 [false, false, true, false, true, true, true, true, true, true, true, true]) (qz_ x11_0 x11_1 x11_2 x11_3 st) c
abbrev qjc_ (rd : Option Nat) (x11_0 : WL rw_iiiiiiLu) (x11_1 : Int) (x11_2 : WL rw_iiiiiiLu) (x11_3 : NL) (st : Int × Int) (r : Int) : Prop := CG P rd (fnN P 4) 0 (codeOf P 4 [false, true, false, true, true, true, true, true, true, true, true]) (qz_ x11_0 x11_1 x11_2 x11_3 st) (q0_ x11_0 x11_1 x11_2 x11_3 r)
def qr_ (n : Nat) (x11_0 : WL rw_iiiiiiLu) (x11_1 : Int) (x11_2 : WL rw_iiiiiiLu) (x11_3 : NL) (st : Int × Int) : Option ((Int × Int) ⊕ (Int)) := match st with
 | (x11_4, x11_5) =>
  if x11_5 < (((x11_3).l.length : Nat) : Int) then
   if 0 ≤ x11_5 ∧ x11_5 < (((x11_3).l.length : Nat) : Int) then
    if (x11_5).toNat < ((x11_3).l).length then
     ((some (((x11_3).l).getD (x11_5).toNat 0))).bind fun y11_4_ =>
     if 0 ≤ (IntKind.u64.wrap y11_4_) then
      some (.inl ((bAndNot .u64 x11_4 (shlV .u64 (1 : Int) (IntKind.u64.wrap y11_4_))), (w64 (x11_5 + (1 : Int)))))
     else none
    else none
   else none
  else
   some (.inr x11_4)
def qdl_ (n : Nat) (x11_0 : WL rw_iiiiiiLu) (x11_1 : Int) (x11_2 : WL rw_iiiiiiLu) (x11_3 : NL) (st : Int × Int) : Option (Int) := iterM (qr_ n x11_0 x11_1 x11_2 x11_3) n st
theorem qe5_ (n : Nat) {rnd : Option Nat} (x11_0 : WL rw_iiiiiiLu) (x11_1 : Int) (x11_2 : WL rw_iiiiiiLu) (x11_3 : NL) (st : Int × Int) (o : (Int × Int) ⊕ (Int)) (h : qr_ n x11_0 x11_1 x11_2 x11_3 st = some o) : CG P rnd (fnN P 4) 0 (codeOf P 4 [false, false, true, false, true, true, true, true, true, true, true, true]) (qz_ x11_0 x11_1 x11_2 x11_3 st) (Sum.elim (fun s => (.normal, qz_ x11_0 x11_1 x11_2 x11_3 s)) (fun r => q0_ x11_0 x11_1 x11_2 x11_3 r) o) := by
 obtain ⟨x11_4, x11_5⟩ := st
 unfold qr_ at h
 dsimp only at h
 by_cases hy11_1 : x11_5 < (((x11_3).l.length : Nat) : Int)
 ·rw [if_pos hy11_1] at h
  obtain ⟨hy11_2, h⟩ := gd h
  obtain ⟨hy11_3, h⟩ := gd h
  obtain ⟨y11_4_, hy11_4, h⟩ := oB h
  obtain ⟨hy11_5, h⟩ := gd h
  obtain rfl := oI h
  exact runC2 hm ⟨[0, 1, 8, 9, 11, 12], [], 0, 0, [], false, [], [], []⟩ (zz 5 (xdT hy11_1) <|
   zz 12 (xk9 (Nat.add (x11_3).num 64) (x11_3).off (x11_3).cap hy11_2) <|
   zz 13 (nk10 hy11_4 hy11_3) <|
   yy 15 (.pur (Value.int .u64 (shlV .u64 (1 : Int) (IntKind.u64.wrap y11_4_)))) <|
   ww (p := opBin P .shl 41 (.const (Value.int .u64 (1 : Int))) (.tmp 69) (Value.int .u64 (1 : Int)) (Value.int .u64 (IntKind.u64.wrap y11_4_)) Ax.h0 = some ((Value.int .u64 (shlV .u64 (1 : Int) (IntKind.u64.wrap y11_4_))), Ax.h0)) (shl_u64_u64 hy11_5) <|
   ee) (by kernel_rfl)
 ·rw [if_neg hy11_1] at h
  obtain rfl := oI h
  exact runC2 hm ⟨[0, 1, 8, 11], [], 0, 0, [], false, [], [], []⟩ (zz 5 (xdF hy11_1) <|
   ee) (by kernel_rfl)
theorem qh8_ (n : Nat) {rnd : Option Nat} (x11_0 : WL rw_iiiiiiLu) (x11_1 : Int) (x11_2 : WL rw_iiiiiiLu) (x11_3 : NL) (st : Int × Int) (r : Int) (h : qdl_ n x11_0 x11_1 x11_2 x11_3 st = some r) : CG P rnd (fnN P 4) 0 (codeOf P 4 [false, true, false, true, true, true, true, true, true, true, true]) (qz_ x11_0 x11_1 x11_2 x11_3 st) (q0_ x11_0 x11_1 x11_2 x11_3 r) :=
 CG.iter (b := codeOf P 4 [false, false, true, false, true, true, true, true, true, true, true, true]) (by kernel_rfl) (body := qr_ n x11_0 x11_1 x11_2 x11_3) (S := qz_ x11_0 x11_1 x11_2 x11_3) (X := q0_ x11_0 x11_1 x11_2 x11_3)
  (fun s s' h => qe5_ n x11_0 x11_1 x11_2 x11_3 s (.inl s') h)
  (fun s r h => qe5_ n x11_0 x11_1 x11_2 x11_3 s (.inr r) h)
  (fun r => by intro hx; cases hx) h
def qe6_ (x13_0 : WL rw_iiiiiiLu) (x13_1 : WL rw_iiiiiiLu) (x13_2 : Int) (st : Unit) : XSt := (sT 91 [(0, (wlV x13_0)), (8, (wlV x13_1)), (11, (Value.int .u64 x13_2))], [], ⟨sB [], 0, 0⟩)
def qb9_ (x13_0 : WL rw_iiiiiiLu) (x13_1 : WL rw_iiiiiiLu) (x13_2 : Int) (r : Unit) : Ex × XSt := match r with
 | _ => (.ret, (sT 91 [(6, (bO true))], [], ⟨sB [], 0, 0⟩))
abbrev qjd_ (rd : Option Nat) (x13_0 : WL rw_iiiiiiLu) (x13_1 : WL rw_iiiiiiLu) (x13_2 : Int) (st : Unit) (r : Unit) : Prop := CG P rd (fnN P 4) 0 (codeOf P 4 [true, true, true, true, true, true, true, true, true, true]) (qe6_ x13_0 x13_1 x13_2 st) (qb9_ x13_0 x13_1 x13_2 r)
def qca_ (n : Nat) (x13_0 : WL rw_iiiiiiLu) (x13_1 : WL rw_iiiiiiLu) (x13_2 : Int) (st : Unit) : Option (Unit) :=
 (qdd_ n x13_1).bind fun y13_1_ =>
 if (bOr .u64 y13_1_ (bNot .u64 x13_2)) = (18446744073709551615 : Int) then
  (qdd_ n x13_1).bind fun y13_3_ =>
  (qdd_ n x13_0).bind fun y13_4_ =>
  if (bAndNot .u64 y13_3_ y13_4_) = (0 : Int) then
   some ()
  else
   none
 else
  none
theorem qh9_ (n : Nat) {rnd : Option Nat} (x13_0 : WL rw_iiiiiiLu) (x13_1 : WL rw_iiiiiiLu) (x13_2 : Int) (st : Unit) (r : Unit) (h : qca_ n x13_0 x13_1 x13_2 st = some r) : CG P rnd (fnN P 4) 0 (codeOf P 4 [true, true, true, true, true, true, true, true, true, true]) (qe6_ x13_0 x13_1 x13_2 st) (qb9_ x13_0 x13_1 x13_2 r) := by
 unfold qca_ at h
 obtain ⟨y13_1_, hy13_1, h⟩ := oB h
 have k0 := fun {A L l} (k : PL A L l) => yy 2 (.call (qhg_ x13_1 y13_1_ [] [])) <|
  ww (qel_ n x13_1 y13_1_ hy13_1) <|
  k
 by_cases hy13_2 : (bOr .u64 y13_1_ (bNot .u64 x13_2)) = (18446744073709551615 : Int)
 ·rw [if_pos hy13_2] at h
  obtain ⟨y13_3_, hy13_3, h⟩ := oB h
  obtain ⟨y13_4_, hy13_4, h⟩ := oB h
  have k2 := fun {A L l} (k : PL A L l) => zz 6 (xeT hy13_2) <|
   yy 9 (.call (qhg_ x13_1 y13_3_ [] [])) <|
   ww (qel_ n x13_1 y13_3_ hy13_3) <|
   yy 11 (.call (qhg_ x13_0 y13_4_ [] [])) <|
   ww (qel_ n x13_0 y13_4_ hy13_4) <|
   k
  by_cases hy13_5 : (bAndNot .u64 y13_3_ y13_4_) = (0 : Int)
  ·rw [if_pos hy13_5] at h
   obtain rfl := oI h
   exact runC2 hm ⟨[6], [], 0, 0, [], false, [], [], []⟩ (k0 <|
    k2 <|
    zz 13 (xeT hy13_5) <|
    ee) (by kernel_rfl)
  ·rw [if_neg hy13_5] at h
   cases h
 ·rw [if_neg hy13_2] at h
  cases h
def qe7_ (x12_0 : WL rw_iiiiiiLu) (x12_1 : Int) (x12_2 : WL rw_iiiiiiLu) (x12_3 : Int) (st : Unit) : XSt := (sT 91 [(0, (wlV x12_0)), (1, (i6 x12_1)), (8, (wlV x12_2)), (11, (Value.int .u64 x12_3))], [], ⟨sB [], 0, 0⟩)
def qcb_ (x12_0 : WL rw_iiiiiiLu) (x12_1 : Int) (x12_2 : WL rw_iiiiiiLu) (x12_3 : Int) (r : Unit) : Ex × XSt := match r with
 | _ => (.ret, (sT 91 [(6, (bO true))], [], ⟨sB [], 0, 0⟩))
abbrev qje_ (rd : Option Nat) (x12_0 : WL rw_iiiiiiLu) (x12_1 : Int) (x12_2 : WL rw_iiiiiiLu) (x12_3 : Int) (st : Unit) (r : Unit) : Prop := CG P rd (fnN P 4) 0 (codeOf P 4 [true, true, true, true, true, true, true, true, true]) (qe7_ x12_0 x12_1 x12_2 x12_3 st) (qcb_ x12_0 x12_1 x12_2 x12_3 r)
def qbk_ (n : Nat) (x12_0 : WL rw_iiiiiiLu) (x12_1 : Int) (x12_2 : WL rw_iiiiiiLu) (x12_3 : Int) (st : Unit) : Option (Unit) :=
 if x12_1 = (0 : Int) then
  (qdd_ n x12_2).bind fun y12_2_ =>
  if y12_2_ = (0 : Int) then
   some ()
  else
   none
 else
  (qca_ n x12_0 x12_2 x12_3 ()).bind fun _ =>
  some ()
theorem qia_ (n : Nat) {rnd : Option Nat} (x12_0 : WL rw_iiiiiiLu) (x12_1 : Int) (x12_2 : WL rw_iiiiiiLu) (x12_3 : Int) (st : Unit) (r : Unit) (h : qbk_ n x12_0 x12_1 x12_2 x12_3 st = some r) : CG P rnd (fnN P 4) 0 (codeOf P 4 [true, true, true, true, true, true, true, true, true]) (qe7_ x12_0 x12_1 x12_2 x12_3 st) (qcb_ x12_0 x12_1 x12_2 x12_3 r) := by
 unfold qbk_ at h
 by_cases hy12_1 : x12_1 = (0 : Int)
 ·rw [if_pos hy12_1] at h
  obtain ⟨y12_2_, hy12_2, h⟩ := oB h
  have k0 := fun {A L l} (k : PL A L l) => zz 3 (xeT hy12_1) <|
   yy 7 (.call (qhg_ x12_2 y12_2_ [] [])) <|
   ww (qel_ n x12_2 y12_2_ hy12_2) <|
   k
  by_cases hy12_3 : y12_2_ = (0 : Int)
  ·rw [if_pos hy12_3] at h
   obtain rfl := oI h
   exact runC2 hm ⟨[6], [], 0, 0, [], false, [], [], []⟩ (k0 <|
    zz 8 (xeT hy12_3) <|
    ee) (by kernel_rfl)
  ·rw [if_neg hy12_3] at h
   cases h
 ·rw [if_neg hy12_1] at h
  obtain ⟨_, hy12_2, h⟩ := oB h
  obtain rfl := oI h
  exact runC2 hm ⟨[6], [], 0, 0, [], false, [], [], []⟩ (zz 3 (xeF hy12_1) <|
   ww (p := qjd_ rnd x12_0 x12_2 x12_3 () ()) (qh9_ n x12_0 x12_2 x12_3 () () hy12_2) <|
   ll 5 ⟨⟨[0, 8, 11], [], 0, 0, [], false, [], [], []⟩, (qb9_ x12_0 x12_2 x12_3 ()).1, (qb9_ x12_0 x12_2 x12_3 ()).2⟩ <|
   ee) (by kernel_rfl)
def qfm_ (x8_0 : WL rw_iiiiiiLu) (x8_1 : Int) (x8_2 : WL rw_iiiiiiLu) (x8_3 : NL) (x8_4 : Bool) (st : Unit) : XSt := (sT 91 [(0, (wlV x8_0)), (1, (i6 x8_1)), (8, (wlV x8_2)), (9, (nlV x8_3)), (55, (bO x8_4))], [], ⟨sB [], 0, 0⟩)
def qe_ (x8_0 : WL rw_iiiiiiLu) (x8_1 : Int) (x8_2 : WL rw_iiiiiiLu) (x8_3 : NL) (x8_4 : Bool) (r : Unit) : Ex × XSt := match r with
 | _ => (.normal, (sT 91 [(0, (wlV x8_0)), (1, (i6 x8_1)), (8, (wlV x8_2)), (9, (nlV x8_3))], [], ⟨sB [], 0, 0⟩))
abbrev qck_ (rd : Option Nat) (x8_0 : WL rw_iiiiiiLu) (x8_1 : Int) (x8_2 : WL rw_iiiiiiLu) (x8_3 : NL) (x8_4 : Bool) (st : Unit) (r : Unit) : Prop := CG P rd (fnN P 4) 0 (codeOf P 4 [true, false, true, true, true, true, true, true]) (qfm_ x8_0 x8_1 x8_2 x8_3 x8_4 st) (qe_ x8_0 x8_1 x8_2 x8_3 x8_4 r)
def q7_ (n : Nat) (x8_0 : WL rw_iiiiiiLu) (x8_1 : Int) (x8_2 : WL rw_iiiiiiLu) (x8_3 : NL) (x8_4 : Bool) (st : Unit) : Option (Unit) :=
 if x8_4 = true then
  none
 else
  some ()
theorem qbx_ (n : Nat) {rnd : Option Nat} (x8_0 : WL rw_iiiiiiLu) (x8_1 : Int) (x8_2 : WL rw_iiiiiiLu) (x8_3 : NL) (x8_4 : Bool) (st : Unit) (r : Unit) (h : q7_ n x8_0 x8_1 x8_2 x8_3 x8_4 st = some r) : CG P rnd (fnN P 4) 0 (codeOf P 4 [true, false, true, true, true, true, true, true]) (qfm_ x8_0 x8_1 x8_2 x8_3 x8_4 st) (qe_ x8_0 x8_1 x8_2 x8_3 x8_4 r) := by
 unfold q7_ at h
 by_cases hy8_1 : x8_4 = true
 ·rw [if_pos hy8_1] at h
  cases h
 ·rw [if_neg hy8_1] at h
  obtain rfl := oI h
  exact runC2 hm ⟨[0, 1, 8, 9], [], 0, 0, [], false, [], [], []⟩ (zz 0 (xbF hy8_1) <|
   ee) (by kernel_rfl)
def qe8_ (x10_0 : WL rw_iiiiiiLu) (x10_1 : Int) (x10_2 : WL rw_iiiiiiLu) (x10_3 : NL) (x10_4 : Int) (st : Unit) : XSt := (sT 91 [(0, (wlV x10_0)), (1, (i6 x10_1)), (8, (wlV x10_2)), (9, (nlV x10_3)), (11, (Value.int .u64 x10_4))], [], ⟨sB [], 0, 0⟩)
def qcc_ (x10_0 : WL rw_iiiiiiLu) (x10_1 : Int) (x10_2 : WL rw_iiiiiiLu) (x10_3 : NL) (x10_4 : Int) (r : Unit) : Ex × XSt := match r with
 | _ => (.ret, (sT 91 [(6, (bO true))], [], ⟨sB [], 0, 0⟩))
abbrev qjf_ (rd : Option Nat) (x10_0 : WL rw_iiiiiiLu) (x10_1 : Int) (x10_2 : WL rw_iiiiiiLu) (x10_3 : NL) (x10_4 : Int) (st : Unit) (r : Unit) : Prop := CG P rd (fnN P 4) 0 (codeOf P 4 [true, true, true, true, true, true, true, true]) (qe8_ x10_0 x10_1 x10_2 x10_3 x10_4 st) (qcc_ x10_0 x10_1 x10_2 x10_3 x10_4 r)
def qcd_ (n : Nat) (x10_0 : WL rw_iiiiiiLu) (x10_1 : Int) (x10_2 : WL rw_iiiiiiLu) (x10_3 : NL) (x10_4 : Int) (st : Unit) : Option (Unit) :=
 (qdl_ n x10_0 x10_1 x10_2 x10_3 (x10_4, 0)).bind fun y10_1_ =>
 (qbk_ n x10_0 x10_1 x10_2 y10_1_ ()).bind fun _ =>
 some ()
theorem qib_ (n : Nat) {rnd : Option Nat} (x10_0 : WL rw_iiiiiiLu) (x10_1 : Int) (x10_2 : WL rw_iiiiiiLu) (x10_3 : NL) (x10_4 : Int) (st : Unit) (r : Unit) (h : qcd_ n x10_0 x10_1 x10_2 x10_3 x10_4 st = some r) : CG P rnd (fnN P 4) 0 (codeOf P 4 [true, true, true, true, true, true, true, true]) (qe8_ x10_0 x10_1 x10_2 x10_3 x10_4 st) (qcc_ x10_0 x10_1 x10_2 x10_3 x10_4 r) := by
 unfold qcd_ at h
 obtain ⟨y10_1_, hy10_1, h⟩ := oB h
 obtain ⟨_, hy10_2, h⟩ := oB h
 obtain rfl := oI h
 exact runC2 hm ⟨[6], [], 0, 0, [], false, [], [], []⟩ (ww (p := qjc_ rnd x10_0 x10_1 x10_2 x10_3 (x10_4, 0) y10_1_) (qh8_ n x10_0 x10_1 x10_2 x10_3 (x10_4, 0) y10_1_ hy10_1) <|
  ll 4 ⟨⟨[0, 1, 8, 9, 11, 12], [], 0, 0, [], false, [], [], []⟩, (q0_ x10_0 x10_1 x10_2 x10_3 y10_1_).1, (q0_ x10_0 x10_1 x10_2 x10_3 y10_1_).2⟩ <|
  ww (p := qje_ rnd x10_0 x10_1 x10_2 y10_1_ () ()) (qia_ n x10_0 x10_1 x10_2 y10_1_ () () hy10_2) <|
  ll 5 ⟨⟨[0, 1, 8, 11], [], 0, 0, [], false, [], [], []⟩, (qcb_ x10_0 x10_1 x10_2 y10_1_ ()).1, (qcb_ x10_0 x10_1 x10_2 y10_1_ ()).2⟩ <|
  ee) (by kernel_rfl)
def qfn_ (x9_0 : WL rw_iiiiiiLu) (x9_1 : Int) (x9_2 : WL rw_iiiiiiLu) (x9_3 : NL) (st : Unit) : XSt := (sT 91 [(0, (wlV x9_0)), (1, (i6 x9_1)), (8, (wlV x9_2)), (9, (nlV x9_3))], [], ⟨sB [], 0, 0⟩)
def qf_ (x9_0 : WL rw_iiiiiiLu) (x9_1 : Int) (x9_2 : WL rw_iiiiiiLu) (x9_3 : NL) (r : Unit) : Ex × XSt := match r with
 | _ => (.ret, (sT 91 [(6, (bO true))], [], ⟨sB [], 0, 0⟩))
abbrev qcl_ (rd : Option Nat) (x9_0 : WL rw_iiiiiiLu) (x9_1 : Int) (x9_2 : WL rw_iiiiiiLu) (x9_3 : NL) (st : Unit) (r : Unit) : Prop := CG P rd (fnN P 4) 0 (codeOf P 4 [true, true, true, true, true, true, true]) (qfn_ x9_0 x9_1 x9_2 x9_3 st) (qf_ x9_0 x9_1 x9_2 x9_3 r)
def qo_ (n : Nat) (x9_0 : WL rw_iiiiiiLu) (x9_1 : Int) (x9_2 : WL rw_iiiiiiLu) (x9_3 : NL) (st : Unit) : Option (Unit) :=
 (qdd_ n x9_0).bind fun y9_1_ =>
 (qcd_ n x9_0 x9_1 x9_2 x9_3 y9_1_ ()).bind fun _ =>
 some ()
theorem qby_ (n : Nat) {rnd : Option Nat} (x9_0 : WL rw_iiiiiiLu) (x9_1 : Int) (x9_2 : WL rw_iiiiiiLu) (x9_3 : NL) (st : Unit) (r : Unit) (h : qo_ n x9_0 x9_1 x9_2 x9_3 st = some r) : CG P rnd (fnN P 4) 0 (codeOf P 4 [true, true, true, true, true, true, true]) (qfn_ x9_0 x9_1 x9_2 x9_3 st) (qf_ x9_0 x9_1 x9_2 x9_3 r) := by
 unfold qo_ at h
 obtain ⟨y9_1_, hy9_1, h⟩ := oB h
 obtain ⟨_, hy9_2, h⟩ := oB h
 obtain rfl := oI h
 exact runC2 hm ⟨[6], [], 0, 0, [], false, [], [], []⟩ (yy 2 (.call (qhg_ x9_0 y9_1_ [] [])) <|
  ww (qel_ n x9_0 y9_1_ hy9_1) <|
  ww (p := qjf_ rnd x9_0 x9_1 x9_2 x9_3 y9_1_ () ()) (qib_ n x9_0 x9_1 x9_2 x9_3 y9_1_ () () hy9_2) <|
  ll 4 ⟨⟨[0, 1, 8, 9, 11], [], 0, 0, [], false, [], [], []⟩, (qcc_ x9_0 x9_1 x9_2 x9_3 y9_1_ ()).1, (qcc_ x9_0 x9_1 x9_2 x9_3 y9_1_ ()).2⟩ <|
  ee) (by kernel_rfl)
def qfo_ (x7_0 : WL rw_iiiiiiLu) (x7_1 : Int) (x7_2 : WL rw_iiiiiiLu) (x7_3 : NL) (x7_4 : Int) (st : Unit) : XSt := (sT 91 [(0, (wlV x7_0)), (1, (i6 x7_1)), (8, (wlV x7_2)), (9, (nlV x7_3)), (10, (i6 x7_4))], [], ⟨sB [], 0, 0⟩)
def qcm_ (x7_0 : WL rw_iiiiiiLu) (x7_1 : Int) (x7_2 : WL rw_iiiiiiLu) (x7_3 : NL) (x7_4 : Int) (r : Unit) : Ex × XSt := match r with
 | _ => (.ret, (sT 91 [(6, (bO true))], [], ⟨sB [], 0, 0⟩))
abbrev qjj_ (rd : Option Nat) (x7_0 : WL rw_iiiiiiLu) (x7_1 : Int) (x7_2 : WL rw_iiiiiiLu) (x7_3 : NL) (x7_4 : Int) (st : Unit) (r : Unit) : Prop := CG P rd (fnN P 4) 0 (codeOf P 4 [true, true, true, true, true, true]) (qfo_ x7_0 x7_1 x7_2 x7_3 x7_4 st) (qcm_ x7_0 x7_1 x7_2 x7_3 x7_4 r)
def qbp_ (n : Nat) (x7_0 : WL rw_iiiiiiLu) (x7_1 : Int) (x7_2 : WL rw_iiiiiiLu) (x7_3 : NL) (x7_4 : Int) (st : Unit) : Option (Unit) :=
 if x7_4 = (0 : Int) then
  (ql_ n x7_2).bind fun y7_2_ =>
  if y7_2_ = (0 : Int) then
   (qbr_ n x7_2).bind fun y7_4_ =>
   (qbr_ n x7_0).bind fun y7_5_ =>
   (qc7_ n y7_4_ y7_5_).bind fun y7_6_ =>
   if y7_6_ = true then
    (q7_ n x7_0 x7_1 x7_2 x7_3 false ()).bind fun _ =>
    (qo_ n x7_0 x7_1 x7_2 x7_3 ()).bind fun _ =>
    some ()
   else
    (q7_ n x7_0 x7_1 x7_2 x7_3 true ()).bind fun _ =>
    (qo_ n x7_0 x7_1 x7_2 x7_3 ()).bind fun _ =>
    some ()
  else
   (q7_ n x7_0 x7_1 x7_2 x7_3 true ()).bind fun _ =>
   (qo_ n x7_0 x7_1 x7_2 x7_3 ()).bind fun _ =>
   some ()
 else
  (q7_ n x7_0 x7_1 x7_2 x7_3 true ()).bind fun _ =>
  (qo_ n x7_0 x7_1 x7_2 x7_3 ()).bind fun _ =>
  some ()
theorem qih_ (n : Nat) {rnd : Option Nat} (x7_0 : WL rw_iiiiiiLu) (x7_1 : Int) (x7_2 : WL rw_iiiiiiLu) (x7_3 : NL) (x7_4 : Int) (st : Unit) (r : Unit) (h : qbp_ n x7_0 x7_1 x7_2 x7_3 x7_4 st = some r) : CG P rnd (fnN P 4) 0 (codeOf P 4 [true, true, true, true, true, true]) (qfo_ x7_0 x7_1 x7_2 x7_3 x7_4 st) (qcm_ x7_0 x7_1 x7_2 x7_3 x7_4 r) := by
 unfold qbp_ at h
 by_cases hy7_1 : x7_4 = (0 : Int)
 ·rw [if_pos hy7_1] at h
  obtain ⟨y7_2_, hy7_2, h⟩ := oB h
  have k0 := fun {A L l} (k : PL A L l) => zz 3 (xnF hy7_1) <|
   yy 6 (.call (qdx_ x7_2 y7_2_ [] [])) <|
   ww (qc3_ n x7_2 y7_2_ hy7_2) <|
   k
  by_cases hy7_3 : y7_2_ = (0 : Int)
  ·rw [if_pos hy7_3] at h
   obtain ⟨y7_4_, hy7_4, h⟩ := oB h
   obtain ⟨y7_5_, hy7_5, h⟩ := oB h
   obtain ⟨y7_6_, hy7_6, h⟩ := oB h
   have k3 := fun {A L l} (k : PL A L l) => zz 7 (xnF hy7_3) <|
    yy 11 (.call (qf4_ x7_2 y7_4_ [] [])) <|
    ww (qeg_ n x7_2 y7_4_ hy7_4) <|
    yy 13 (.call (qf4_ x7_0 y7_5_ [] [])) <|
    ww (qeg_ n x7_0 y7_5_ hy7_5) <|
    yy 14 (.call (qlp_ y7_4_ y7_5_ y7_6_ [] [])) <|
    ww (qki_ n y7_4_ y7_5_ y7_6_ hy7_6) <|
    k
   by_cases hy7_7 : y7_6_ = true
   ·rw [if_pos hy7_7] at h
    obtain ⟨_, hy7_8, h⟩ := oB h
    obtain ⟨_, hy7_9, h⟩ := oB h
    obtain rfl := oI h
    exact runC2 hm ⟨[6], [], 0, 0, [], false, [], [], []⟩ (k0 <|
     k3 <|
     yy 15 (vf) <|
     ww (p := (Value.bool (!y7_6_)) = (Value.bool false)) (vBn hy7_7) <|
     ww (p := qck_ rnd x7_0 x7_1 x7_2 x7_3 false () ()) (qbx_ n x7_0 x7_1 x7_2 x7_3 false () () hy7_8) <|
     ll 17 ⟨⟨[0, 1, 8, 9, 55], [], 0, 0, [], false, [], [], []⟩, (qe_ x7_0 x7_1 x7_2 x7_3 false ()).1, (qe_ x7_0 x7_1 x7_2 x7_3 false ()).2⟩ <|
     ww (p := qcl_ rnd x7_0 x7_1 x7_2 x7_3 () ()) (qby_ n x7_0 x7_1 x7_2 x7_3 () () hy7_9) <|
     ll 18 ⟨⟨[0, 1, 8, 9], [], 0, 0, [], false, [], [], []⟩, (qf_ x7_0 x7_1 x7_2 x7_3 ()).1, (qf_ x7_0 x7_1 x7_2 x7_3 ()).2⟩ <|
     ee) (by kernel_rfl)
   ·rw [if_neg hy7_7] at h
    obtain ⟨_, hy7_8, h⟩ := oB h
    obtain ⟨_, hy7_9, h⟩ := oB h
    obtain rfl := oI h
    exact runC2 hm ⟨[6], [], 0, 0, [], false, [], [], []⟩ (k0 <|
     k3 <|
     yy 15 (vt) <|
     ww (p := (Value.bool (!y7_6_)) = (Value.bool true)) (vBn (Bool.eq_false_iff.2 hy7_7)) <|
     ww (p := qck_ rnd x7_0 x7_1 x7_2 x7_3 true () ()) (qbx_ n x7_0 x7_1 x7_2 x7_3 true () () hy7_8) <|
     ll 17 ⟨⟨[0, 1, 8, 9, 55], [], 0, 0, [], false, [], [], []⟩, (qe_ x7_0 x7_1 x7_2 x7_3 true ()).1, (qe_ x7_0 x7_1 x7_2 x7_3 true ()).2⟩ <|
     ww (p := qcl_ rnd x7_0 x7_1 x7_2 x7_3 () ()) (qby_ n x7_0 x7_1 x7_2 x7_3 () () hy7_9) <|
     ll 18 ⟨⟨[0, 1, 8, 9], [], 0, 0, [], false, [], [], []⟩, (qf_ x7_0 x7_1 x7_2 x7_3 ()).1, (qf_ x7_0 x7_1 x7_2 x7_3 ()).2⟩ <|
     ee) (by kernel_rfl)
  ·rw [if_neg hy7_3] at h
   obtain ⟨_, hy7_4, h⟩ := oB h
   obtain ⟨_, hy7_5, h⟩ := oB h
   obtain rfl := oI h
   exact runC2 hm ⟨[6], [], 0, 0, [], false, [], [], []⟩ (k0 <|
    zz 7 (xnT hy7_3) <|
    ww (p := qck_ rnd x7_0 x7_1 x7_2 x7_3 true () ()) (qbx_ n x7_0 x7_1 x7_2 x7_3 true () () hy7_4) <|
    ll 17 ⟨⟨[0, 1, 8, 9, 55], [], 0, 0, [], false, [], [], []⟩, (qe_ x7_0 x7_1 x7_2 x7_3 true ()).1, (qe_ x7_0 x7_1 x7_2 x7_3 true ()).2⟩ <|
    ww (p := qcl_ rnd x7_0 x7_1 x7_2 x7_3 () ()) (qby_ n x7_0 x7_1 x7_2 x7_3 () () hy7_5) <|
    ll 18 ⟨⟨[0, 1, 8, 9], [], 0, 0, [], false, [], [], []⟩, (qf_ x7_0 x7_1 x7_2 x7_3 ()).1, (qf_ x7_0 x7_1 x7_2 x7_3 ()).2⟩ <|
    ee) (by kernel_rfl)
 ·rw [if_neg hy7_1] at h
  obtain ⟨_, hy7_2, h⟩ := oB h
  obtain ⟨_, hy7_3, h⟩ := oB h
  obtain rfl := oI h
  exact runC2 hm ⟨[6], [], 0, 0, [], false, [], [], []⟩ (zz 3 (xnT hy7_1) <|
   ww (p := qck_ rnd x7_0 x7_1 x7_2 x7_3 true () ()) (qbx_ n x7_0 x7_1 x7_2 x7_3 true () () hy7_2) <|
   ll 17 ⟨⟨[0, 1, 8, 9, 55], [], 0, 0, [], false, [], [], []⟩, (qe_ x7_0 x7_1 x7_2 x7_3 true ()).1, (qe_ x7_0 x7_1 x7_2 x7_3 true ()).2⟩ <|
   ww (p := qcl_ rnd x7_0 x7_1 x7_2 x7_3 () ()) (qby_ n x7_0 x7_1 x7_2 x7_3 () () hy7_3) <|
   ll 18 ⟨⟨[0, 1, 8, 9], [], 0, 0, [], false, [], [], []⟩, (qf_ x7_0 x7_1 x7_2 x7_3 ()).1, (qf_ x7_0 x7_1 x7_2 x7_3 ()).2⟩ <|
   ee) (by kernel_rfl)
def qfp_ (x6_0 : WL rw_iiiiiiLu) (x6_1 : Int) (x6_2 : WL rw_iiiii) (x6_3 : WL rw_iiiiiiLu) (st : Unit) : XSt := (sT 91 [(0, (wlV x6_0)), (1, (i6 x6_1)), (2, (wlV x6_2)), (7, (wlV x6_3))], [], ⟨sB [], 0, 0⟩)
def qcn_ (x6_0 : WL rw_iiiiiiLu) (x6_1 : Int) (x6_2 : WL rw_iiiii) (x6_3 : WL rw_iiiiiiLu) (r : Unit) : Ex × XSt := match r with
 | _ => (.ret, (sT 91 [(6, (bO true))], [], ⟨sB [], 0, 0⟩))
abbrev qjk_ (rd : Option Nat) (x6_0 : WL rw_iiiiiiLu) (x6_1 : Int) (x6_2 : WL rw_iiiii) (x6_3 : WL rw_iiiiiiLu) (st : Unit) (r : Unit) : Prop := CG P rd (fnN P 4) 0 (codeOf P 4 [true, true, true, true, true]) (qfp_ x6_0 x6_1 x6_2 x6_3 st) (qcn_ x6_0 x6_1 x6_2 x6_3 r)
def qco_ (n : Nat) (x6_0 : WL rw_iiiiiiLu) (x6_1 : Int) (x6_2 : WL rw_iiiii) (x6_3 : WL rw_iiiiiiLu) (st : Unit) : Option (Unit) :=
 (qe4_ n x6_0 x6_1 x6_3 x6_2).bind fun t => match t with
 | (y6_1_0, y6_1_1, y6_1_2) =>
  (qbp_ n x6_0 x6_1 y6_1_0 y6_1_1 y6_1_2 ()).bind fun _ =>
  some ()
theorem qii_ (n : Nat) {rnd : Option Nat} (x6_0 : WL rw_iiiiiiLu) (x6_1 : Int) (x6_2 : WL rw_iiiii) (x6_3 : WL rw_iiiiiiLu) (st : Unit) (r : Unit) (h : qco_ n x6_0 x6_1 x6_2 x6_3 st = some r) : CG P rnd (fnN P 4) 0 (codeOf P 4 [true, true, true, true, true]) (qfp_ x6_0 x6_1 x6_2 x6_3 st) (qcn_ x6_0 x6_1 x6_2 x6_3 r) := by
 unfold qco_ at h
 obtain ⟨⟨y6_1_0, y6_1_1, y6_1_2⟩, hy6_1, h⟩ := oB h
 dsimp only at h
 obtain ⟨_, hy6_2, h⟩ := oB h
 obtain rfl := oI h
 exact runC2 hm ⟨[6], [], 0, 0, [], false, [], [], []⟩ (yy 5 (.call (qoc_ x6_0 x6_1 x6_3 x6_2 (y6_1_0, y6_1_1, y6_1_2) [] [])) <|
  ww (qmq_ n x6_0 x6_1 x6_3 x6_2 (y6_1_0, y6_1_1, y6_1_2) hy6_1) <|
  ww (p := qjj_ rnd x6_0 x6_1 y6_1_0 y6_1_1 y6_1_2 () ()) (qih_ n x6_0 x6_1 y6_1_0 y6_1_1 y6_1_2 () () hy6_2) <|
  ll 13 ⟨⟨[0, 1, 8, 9, 10], [], 0, 0, [], false, [], [], []⟩, (qcm_ x6_0 x6_1 y6_1_0 y6_1_1 y6_1_2 ()).1, (qcm_ x6_0 x6_1 y6_1_0 y6_1_1 y6_1_2 ()).2⟩ <|
  ee) (by kernel_rfl)
def qfq_ (x3_0 : WL rw_iiiiiiLu) (x3_1 : Int) (x3_2 : WL rw_iiiii) (x3_3 : Bool) (st : Unit) : XSt := (sT 91 [(0, (wlV x3_0)), (1, (i6 x3_1)), (2, (wlV x3_2)), (23, (bO x3_3))], [], ⟨sB [], 0, 0⟩)
def qb_ (x3_0 : WL rw_iiiiiiLu) (x3_1 : Int) (x3_2 : WL rw_iiiii) (x3_3 : Bool) (r : (Unit) ⊕ (Unit)) : Ex × XSt := match r with
 | .inl _ => (.ret, (sT 91 [(6, (bO true))], [], ⟨sB [], 0, 0⟩))
 | .inr _ => (.normal, (sT 91 [(0, (wlV x3_0)), (1, (i6 x3_1)), (2, (wlV x3_2))], [], ⟨sB [], 0, 0⟩))
abbrev q8_ (rd : Option Nat) (x3_0 : WL rw_iiiiiiLu) (x3_1 : Int) (x3_2 : WL rw_iiiii) (x3_3 : Bool) (st : Unit) (r : (Unit) ⊕ (Unit)) : Prop := CG P rd (fnN P 4) 0 (codeOf P 4 [true, false, true, true]) (qfq_ x3_0 x3_1 x3_2 x3_3 st) (qb_ x3_0 x3_1 x3_2 x3_3 r)
def qj_ (n : Nat) (x3_0 : WL rw_iiiiiiLu) (x3_1 : Int) (x3_2 : WL rw_iiiii) (x3_3 : Bool) (st : Unit) : Option ((Unit) ⊕ (Unit)) :=
 if x3_3 = true then
  some (.inl ())
 else
  some (.inr ())
theorem qt_ (n : Nat) {rnd : Option Nat} (x3_0 : WL rw_iiiiiiLu) (x3_1 : Int) (x3_2 : WL rw_iiiii) (x3_3 : Bool) (st : Unit) (r : (Unit) ⊕ (Unit)) (h : qj_ n x3_0 x3_1 x3_2 x3_3 st = some r) : CG P rnd (fnN P 4) 0 (codeOf P 4 [true, false, true, true]) (qfq_ x3_0 x3_1 x3_2 x3_3 st) (qb_ x3_0 x3_1 x3_2 x3_3 r) := by
 unfold qj_ at h
 by_cases hy3_1 : x3_3 = true
 ·rw [if_pos hy3_1] at h
  obtain rfl := oI h
  exact runC2 hm ⟨[6], [], 0, 0, [], false, [], [], []⟩ (zz 0 (xbT hy3_1) <|
   ee) (by kernel_rfl)
 ·rw [if_neg hy3_1] at h
  obtain rfl := oI h
  exact runC2 hm ⟨[0, 1, 2], [], 0, 0, [], false, [], [], []⟩ (zz 0 (xbF hy3_1) <|
   ee) (by kernel_rfl)
def qfr_ (x5_0 : WL rw_iiiiiiLu) (x5_1 : Int) (x5_2 : WL rw_iiiii) (st : Unit) : XSt := (sT 91 [(0, (wlV x5_0)), (1, (i6 x5_1)), (2, (wlV x5_2))], [], ⟨sB [], 0, 0⟩)
def qcp_ (x5_0 : WL rw_iiiiiiLu) (x5_1 : Int) (x5_2 : WL rw_iiiii) (r : Unit) : Ex × XSt := match r with
 | _ => (.ret, (sT 91 [(6, (bO true))], [], ⟨sB [], 0, 0⟩))
abbrev qjl_ (rd : Option Nat) (x5_0 : WL rw_iiiiiiLu) (x5_1 : Int) (x5_2 : WL rw_iiiii) (st : Unit) (r : Unit) : Prop := CG P rd (fnN P 4) 0 (codeOf P 4 [true, true, true, true]) (qfr_ x5_0 x5_1 x5_2 st) (qcp_ x5_0 x5_1 x5_2 r)
def qbq_ (n : Nat) (x5_0 : WL rw_iiiiiiLu) (x5_1 : Int) (x5_2 : WL rw_iiiii) (st : Unit) : Option (Unit) :=
 (qdi_ n x5_0 x5_1).bind fun y5_1_ =>
 (qbr_ n y5_1_).bind fun y5_2_ =>
 (qco_ n x5_0 x5_1 x5_2 y5_2_ ()).bind fun _ =>
 some ()
theorem qij_ (n : Nat) {rnd : Option Nat} (x5_0 : WL rw_iiiiiiLu) (x5_1 : Int) (x5_2 : WL rw_iiiii) (st : Unit) (r : Unit) (h : qbq_ n x5_0 x5_1 x5_2 st = some r) : CG P rnd (fnN P 4) 0 (codeOf P 4 [true, true, true, true]) (qfr_ x5_0 x5_1 x5_2 st) (qcp_ x5_0 x5_1 x5_2 r) := by
 unfold qbq_ at h
 obtain ⟨y5_1_, hy5_1, h⟩ := oB h
 obtain ⟨y5_2_, hy5_2, h⟩ := oB h
 obtain ⟨_, hy5_3, h⟩ := oB h
 obtain rfl := oI h
 exact runC2 hm ⟨[6], [], 0, 0, [], false, [], [], []⟩ (yy 3 (.call (qly_ x5_0 x5_1 y5_1_ [] [])) <|
  ww (qku_ n x5_0 x5_1 y5_1_ hy5_1) <|
  yy 4 (.call (qf4_ y5_1_ y5_2_ [] [])) <|
  ww (qeg_ n y5_1_ y5_2_ hy5_2) <|
  ww (p := qjk_ rnd x5_0 x5_1 x5_2 y5_2_ () ()) (qii_ n x5_0 x5_1 x5_2 y5_2_ () () hy5_3) <|
  ll 6 ⟨⟨[0, 1, 2, 7], [], 0, 0, [], false, [], [], []⟩, (qcn_ x5_0 x5_1 x5_2 y5_2_ ()).1, (qcn_ x5_0 x5_1 x5_2 y5_2_ ()).2⟩ <|
  ee) (by kernel_rfl)
def qfs_ (x1_0 : WL rw_iiiiiiLu) (x1_1 : Int) (x1_2 : WL rw_iiiii) (st : Unit) : XSt := (sT 91 [(0, (wlV x1_0)), (1, (i6 x1_1)), (2, (wlV x1_2)), (14, (bO false))], [], ⟨sB [], 0, 0⟩)
def qcq_ (x1_0 : WL rw_iiiiiiLu) (x1_1 : Int) (x1_2 : WL rw_iiiii) (r : Unit) : Ex × XSt := match r with
 | _ => (.normal, (sT 91 [(0, (wlV x1_0)), (1, (i6 x1_1)), (2, (wlV x1_2))], [], ⟨sB [], 0, 0⟩))
abbrev qjm_ (rd : Option Nat) (x1_0 : WL rw_iiiiiiLu) (x1_1 : Int) (x1_2 : WL rw_iiiii) (st : Unit) (r : Unit) : Prop := CG P rd (fnN P 4) 0 (codeOf P 4 [true, false, true]) (qfs_ x1_0 x1_1 x1_2 st) (qcq_ x1_0 x1_1 x1_2 r)
def qdo_ (n : Nat) (x1_0 : WL rw_iiiiiiLu) (x1_1 : Int) (x1_2 : WL rw_iiiii) (st : Unit) : Option (Unit) :=
 some ()
theorem qik_ (n : Nat) {rnd : Option Nat} (x1_0 : WL rw_iiiiiiLu) (x1_1 : Int) (x1_2 : WL rw_iiiii) (st : Unit) (r : Unit) (h : qdo_ n x1_0 x1_1 x1_2 st = some r) : CG P rnd (fnN P 4) 0 (codeOf P 4 [true, false, true]) (qfs_ x1_0 x1_1 x1_2 st) (qcq_ x1_0 x1_1 x1_2 r) := by
 unfold qdo_ at h
 obtain rfl := oI h
 exact runC2 hm ⟨[0, 1, 2], [], 0, 0, [], false, [], [], []⟩ (ee) (by kernel_rfl)
def qft_ (x4_0 : WL rw_iiiiiiLu) (x4_1 : Int) (x4_2 : WL rw_iiiii) (st : Unit) : XSt := (sT 91 [(0, (wlV x4_0)), (1, (i6 x4_1)), (2, (wlV x4_2))], [], ⟨sB [], 0, 0⟩)
def qp_ (x4_0 : WL rw_iiiiiiLu) (x4_1 : Int) (x4_2 : WL rw_iiiii) (r : Unit) : Ex × XSt := match r with
 | _ => (.ret, (sT 91 [(6, (bO true))], [], ⟨sB [], 0, 0⟩))
abbrev qdp_ (rd : Option Nat) (x4_0 : WL rw_iiiiiiLu) (x4_1 : Int) (x4_2 : WL rw_iiiii) (st : Unit) (r : Unit) : Prop := CG P rd (fnN P 4) 0 (codeOf P 4 [true, true, true]) (qft_ x4_0 x4_1 x4_2 st) (qp_ x4_0 x4_1 x4_2 r)
def qq_ (n : Nat) (x4_0 : WL rw_iiiiiiLu) (x4_1 : Int) (x4_2 : WL rw_iiiii) (st : Unit) : Option (Unit) :=
 (qdy_ n x4_1 (((x4_0).l.length : Nat) : Int)).bind fun y4_1_ =>
 (qbq_ n x4_0 y4_1_ x4_2 ()).bind fun _ =>
 some ()
theorem qc5_ (n : Nat) {rnd : Option Nat} (x4_0 : WL rw_iiiiiiLu) (x4_1 : Int) (x4_2 : WL rw_iiiii) (st : Unit) (r : Unit) (h : qq_ n x4_0 x4_1 x4_2 st = some r) : CG P rnd (fnN P 4) 0 (codeOf P 4 [true, true, true]) (qft_ x4_0 x4_1 x4_2 st) (qp_ x4_0 x4_1 x4_2 r) := by
 unfold qq_ at h
 obtain ⟨y4_1_, hy4_1, h⟩ := oB h
 obtain ⟨_, hy4_2, h⟩ := oB h
 obtain rfl := oI h
 exact runC2 hm ⟨[6], [], 0, 0, [], false, [], [], []⟩ (yy 4 (.call (qmf_ x4_1 (((x4_0).l.length : Nat) : Int) y4_1_ [] [])) <|
  ww (qkz_ n x4_1 (((x4_0).l.length : Nat) : Int) y4_1_ hy4_1) <|
  ww (p := qjl_ rnd x4_0 y4_1_ x4_2 () ()) (qij_ n x4_0 y4_1_ x4_2 () () hy4_2) <|
  ll 6 ⟨⟨[0, 1, 2], [], 0, 0, [], false, [], [], []⟩, (qcp_ x4_0 y4_1_ x4_2 ()).1, (qcp_ x4_0 y4_1_ x4_2 ()).2⟩ <|
  ee) (by kernel_rfl)
def qfu_ (x2_0 : WL rw_iiiiiiLu) (x2_1 : Int) (x2_2 : WL rw_iiiii) (st : Unit) : XSt := (sT 91 [(0, (wlV x2_0)), (1, (i6 x2_1)), (2, (wlV x2_2))], [], ⟨sB [], 0, 0⟩)
def qcr_ (x2_0 : WL rw_iiiiiiLu) (x2_1 : Int) (x2_2 : WL rw_iiiii) (r : Unit) : Ex × XSt := match r with
 | _ => (.ret, (sT 91 [(6, (bO true))], [], ⟨sB [], 0, 0⟩))
abbrev qjn_ (rd : Option Nat) (x2_0 : WL rw_iiiiiiLu) (x2_1 : Int) (x2_2 : WL rw_iiiii) (st : Unit) (r : Unit) : Prop := CG P rd (fnN P 4) 0 (codeOf P 4 [true, true]) (qfu_ x2_0 x2_1 x2_2 st) (qcr_ x2_0 x2_1 x2_2 r)
def q9_ (n : Nat) (x2_0 : WL rw_iiiiiiLu) (x2_1 : Int) (x2_2 : WL rw_iiiii) (st : Unit) : Option (Unit) :=
 (qc1_ n x2_0 x2_2).bind fun y2_1_ =>
 if y2_1_ = true then
  (ql_ n x2_0).bind fun y2_3_ =>
  if y2_3_ = (0 : Int) then
   match qj_ n x2_0 x2_1 x2_2 false () with
   | none => none
   | some (.inl _) =>
    some ()
   | some (.inr _) =>
    (qq_ n x2_0 x2_1 x2_2 ()).bind fun _ =>
    some ()
  else
   match qj_ n x2_0 x2_1 x2_2 true () with
   | none => none
   | some (.inl _) =>
    some ()
   | some (.inr _) =>
    (qq_ n x2_0 x2_1 x2_2 ()).bind fun _ =>
    some ()
 else
  match qj_ n x2_0 x2_1 x2_2 true () with
  | none => none
  | some (.inl _) =>
   some ()
  | some (.inr _) =>
   (qq_ n x2_0 x2_1 x2_2 ()).bind fun _ =>
   some ()
theorem qil_ (n : Nat) {rnd : Option Nat} (x2_0 : WL rw_iiiiiiLu) (x2_1 : Int) (x2_2 : WL rw_iiiii) (st : Unit) (r : Unit) (h : q9_ n x2_0 x2_1 x2_2 st = some r) : CG P rnd (fnN P 4) 0 (codeOf P 4 [true, true]) (qfu_ x2_0 x2_1 x2_2 st) (qcr_ x2_0 x2_1 x2_2 r) := by
 unfold q9_ at h
 obtain ⟨y2_1_, hy2_1, h⟩ := oB h
 have k0 := fun {A L l} (k : PL A L l) => yy 4 (.call (qky_ x2_0 x2_2 y2_1_ [] [])) <|
  ww (qj3_ n x2_0 x2_2 y2_1_ hy2_1) <|
  k
 by_cases hy2_2 : y2_1_ = true
 ·rw [if_pos hy2_2] at h
  obtain ⟨y2_3_, hy2_3, h⟩ := oB h
  have k2 := fun {A L l} (k : PL A L l) => yy 5 (vf) <|
   ww (p := (Value.bool (!y2_1_)) = (Value.bool false)) (vBn hy2_2) <|
   yy 8 (.call (qdx_ x2_0 y2_3_ [] [])) <|
   ww (qc3_ n x2_0 y2_3_ hy2_3) <|
   k
  by_cases hy2_4 : y2_3_ = (0 : Int)
  ·rw [if_pos hy2_4] at h
   have k6 := fun {A L l} (k : PL A L l) => zz 9 (xnF hy2_4) <|
    k
   rcases hy2_5 : qj_ n x2_0 x2_1 x2_2 false () with _ | (⟨⟩ | ⟨⟩)
   ·rw [hy2_5] at h; cases h
   ·rw [hy2_5] at h
    dsimp only at h
    obtain rfl := oI h
    exact runC2 hm ⟨[6], [], 0, 0, [], false, [], [], []⟩ (k0 <|
     k2 <|
     k6 <|
     ww (p := q8_ rnd x2_0 x2_1 x2_2 false () (.inl ())) (qt_ n x2_0 x2_1 x2_2 false () (.inl ()) hy2_5) <|
     ll 11 ⟨⟨[0, 1, 2, 23], [], 0, 0, [], false, [], [], []⟩, (qb_ x2_0 x2_1 x2_2 false (.inl ())).1, (qb_ x2_0 x2_1 x2_2 false (.inl ())).2⟩ <|
     ee) (by kernel_rfl)
   ·rw [hy2_5] at h
    dsimp only at h
    obtain ⟨_, hy2_6, h⟩ := oB h
    obtain rfl := oI h
    exact runC2 hm ⟨[6], [], 0, 0, [], false, [], [], []⟩ (k0 <|
     k2 <|
     k6 <|
     ww (p := q8_ rnd x2_0 x2_1 x2_2 false () (.inr ())) (qt_ n x2_0 x2_1 x2_2 false () (.inr ()) hy2_5) <|
     ll 11 ⟨⟨[0, 1, 2, 23], [], 0, 0, [], false, [], [], []⟩, (qb_ x2_0 x2_1 x2_2 false (.inr ())).1, (qb_ x2_0 x2_1 x2_2 false (.inr ())).2⟩ <|
     ww (p := qdp_ rnd x2_0 x2_1 x2_2 () ()) (qc5_ n x2_0 x2_1 x2_2 () () hy2_6) <|
     ll 12 ⟨⟨[0, 1, 2], [], 0, 0, [], false, [], [], []⟩, (qp_ x2_0 x2_1 x2_2 ()).1, (qp_ x2_0 x2_1 x2_2 ()).2⟩ <|
     ee) (by kernel_rfl)
  ·rw [if_neg hy2_4] at h
   have k6 := fun {A L l} (k : PL A L l) => zz 9 (xnT hy2_4) <|
    k
   rcases hy2_5 : qj_ n x2_0 x2_1 x2_2 true () with _ | (⟨⟩ | ⟨⟩)
   ·rw [hy2_5] at h; cases h
   ·rw [hy2_5] at h
    dsimp only at h
    obtain rfl := oI h
    exact runC2 hm ⟨[6], [], 0, 0, [], false, [], [], []⟩ (k0 <|
     k2 <|
     k6 <|
     ww (p := q8_ rnd x2_0 x2_1 x2_2 true () (.inl ())) (qt_ n x2_0 x2_1 x2_2 true () (.inl ()) hy2_5) <|
     ll 11 ⟨⟨[0, 1, 2, 23], [], 0, 0, [], false, [], [], []⟩, (qb_ x2_0 x2_1 x2_2 true (.inl ())).1, (qb_ x2_0 x2_1 x2_2 true (.inl ())).2⟩ <|
     ee) (by kernel_rfl)
   ·rw [hy2_5] at h
    dsimp only at h
    obtain ⟨_, hy2_6, h⟩ := oB h
    obtain rfl := oI h
    exact runC2 hm ⟨[6], [], 0, 0, [], false, [], [], []⟩ (k0 <|
     k2 <|
     k6 <|
     ww (p := q8_ rnd x2_0 x2_1 x2_2 true () (.inr ())) (qt_ n x2_0 x2_1 x2_2 true () (.inr ()) hy2_5) <|
     ll 11 ⟨⟨[0, 1, 2, 23], [], 0, 0, [], false, [], [], []⟩, (qb_ x2_0 x2_1 x2_2 true (.inr ())).1, (qb_ x2_0 x2_1 x2_2 true (.inr ())).2⟩ <|
     ww (p := qdp_ rnd x2_0 x2_1 x2_2 () ()) (qc5_ n x2_0 x2_1 x2_2 () () hy2_6) <|
     ll 12 ⟨⟨[0, 1, 2], [], 0, 0, [], false, [], [], []⟩, (qp_ x2_0 x2_1 x2_2 ()).1, (qp_ x2_0 x2_1 x2_2 ()).2⟩ <|
     ee) (by kernel_rfl)
 ·rw [if_neg hy2_2] at h
  have k2 := fun {A L l} (k : PL A L l) => yy 5 (vt) <|
   ww (p := (Value.bool (!y2_1_)) = (Value.bool true)) (vBn (Bool.eq_false_iff.2 hy2_2)) <|
   k
  rcases hy2_3 : qj_ n x2_0 x2_1 x2_2 true () with _ | (⟨⟩ | ⟨⟩)
  ·rw [hy2_3] at h; cases h
  ·rw [hy2_3] at h
   dsimp only at h
   obtain rfl := oI h
   exact runC2 hm ⟨[6], [], 0, 0, [], false, [], [], []⟩ (k0 <|
    k2 <|
    ww (p := q8_ rnd x2_0 x2_1 x2_2 true () (.inl ())) (qt_ n x2_0 x2_1 x2_2 true () (.inl ()) hy2_3) <|
    ll 11 ⟨⟨[0, 1, 2, 23], [], 0, 0, [], false, [], [], []⟩, (qb_ x2_0 x2_1 x2_2 true (.inl ())).1, (qb_ x2_0 x2_1 x2_2 true (.inl ())).2⟩ <|
    ee) (by kernel_rfl)
  ·rw [hy2_3] at h
   dsimp only at h
   obtain ⟨_, hy2_4, h⟩ := oB h
   obtain rfl := oI h
   exact runC2 hm ⟨[6], [], 0, 0, [], false, [], [], []⟩ (k0 <|
    k2 <|
    ww (p := q8_ rnd x2_0 x2_1 x2_2 true () (.inr ())) (qt_ n x2_0 x2_1 x2_2 true () (.inr ()) hy2_3) <|
    ll 11 ⟨⟨[0, 1, 2, 23], [], 0, 0, [], false, [], [], []⟩, (qb_ x2_0 x2_1 x2_2 true (.inr ())).1, (qb_ x2_0 x2_1 x2_2 true (.inr ())).2⟩ <|
    ww (p := qdp_ rnd x2_0 x2_1 x2_2 () ()) (qc5_ n x2_0 x2_1 x2_2 () () hy2_4) <|
    ll 12 ⟨⟨[0, 1, 2], [], 0, 0, [], false, [], [], []⟩, (qp_ x2_0 x2_1 x2_2 ()).1, (qp_ x2_0 x2_1 x2_2 ()).2⟩ <|
    ee) (by kernel_rfl)
def qed_ (n : Nat) (g1 : Int) : Option (Unit) :=
 (qiy_ n).bind fun _ =>
 (qdo_ n wA g1 wB ()).bind fun _ =>
 (q9_ n wA g1 wB ()).bind fun _ =>
 some ()
theorem qjg_ (n : Nat) (g1 : Int) (r : Unit) (h : qed_ n g1 = some r) : Gv P (.func 4) (qea_ g1) (qg1_ g1) (qeb_ g1 r) (qec_ g1 r) := by
 unfold qed_ at h
 obtain ⟨_, hc1, h⟩ := oB h
 obtain ⟨_, hc2, h⟩ := oB h
 obtain ⟨_, hc3, h⟩ := oB h
 obtain rfl := oI h
 exact runF2 hm ⟨[6], [], 0, 0, [], false, [], [], []⟩ (yy 4 (.call ⟨0, [], (Value.bool true), Ax.h0, []⟩) <|
  ww (qks_ n  () hc1) <|
  ww (p := qjm_ none wA g1 wB () ()) (qik_ n wA g1 wB () () hc2) <|
  ll 6 ⟨⟨[0, 1, 2, 14], [], 0, 0, [], false, [], [], []⟩, (qcq_ wA g1 wB ()).1, (qcq_ wA g1 wB ()).2⟩ <|
  ww (p := qjn_ none wA g1 wB () ()) (qil_ n wA g1 wB () () hc3) <|
  ll 7 ⟨⟨[0, 1, 2], [], 0, 0, [], false, [], [], []⟩, (qcr_ wA g1 wB ()).1, (qcr_ wA g1 wB ()).2⟩ <|
  ee) (by kernel_rfl)

end Go.Proofs.Ytofkckljnmphdaa.spb20
