/-
  What functions do, told by pure functions. No condition.
-/
import Derived.Test.YtdjkjpmcmpihgaaDoorClpATold
set_option linter.unusedSimpArgs false
set_option linter.unusedVariables false
set_option linter.unusedSectionVars false
set_option linter.unnecessarySimpa false
set_option maxRecDepth 100000
noncomputable section
namespace Go.Proofs.YtdjkjpmcmpihgaaDoor.clp01
open Go Go.Proofs.YtdjkjpmcmpihgaaDoor Ax
variable [Args]
def qiy_ (a0 : List (Int × Int × Int × Int)) (a1 : Nat) (a2 : Nat) (a3 : Int) (a4 : Int) (a5 : Int) (a6 : List Int) : List Value := [(sN 0 0 a1 a2), (i6 a3), (i6 a4), (i6 a5), (pN 1 0), (Value.func (.func 38) #[] #[])]
def qiz_ (a0 : List (Int × Int × Int × Int)) (a1 : Nat) (a2 : Nat) (a3 : Int) (a4 : Int) (a5 : Int) (a6 : List Int) : AH := ⟨sB [(0, (some (.cells (layT (rows rw_uuuu a0)) 24))), (1, (some (.cells (layT (iv a6)) 3)))], 2, 2⟩
def qgf_ (a0 : List (Int × Int × Int × Int)) (a1 : Nat) (a2 : Nat) (a3 : Int) (a4 : Int) (a5 : Int) (a6 : List Int) (r : List Int × Int) : Value := match r with
 | (o0, o1) => (i6 o1)
def qgg_ (a0 : List (Int × Int × Int × Int)) (a1 : Nat) (a2 : Nat) (a3 : Int) (a4 : Int) (a5 : Int) (a6 : List Int) (r : List Int × Int) : AH := match r with
 | (o0, o1) => ⟨sB [(1, (some (.cells (layT (iv o0)) 3)))], 2, 1⟩
abbrev qtj_ (a0 : List (Int × Int × Int × Int)) (a1 : Nat) (a2 : Nat) (a3 : Int) (a4 : Int) (a5 : Int) (a6 : List Int) (r : List Int × Int) : Prop := Gv P (.func 61) (qiy_ a0 a1 a2 a3 a4 a5 a6) (qiz_ a0 a1 a2 a3 a4 a5 a6) (qgf_ a0 a1 a2 a3 a4 a5 a6 r) (qgg_ a0 a1 a2 a3 a4 a5 a6 r)
abbrev qi0_ (a0 : List (Int × Int × Int × Int)) (a1 : Nat) (a2 : Nat) (a3 : Int) (a4 : Int) (a5 : Int) (a6 : List Int) (r : List Int × Int) (ins outs : BL) : CallA := ⟨2, ins, qgf_ a0 a1 a2 a3 a4 a5 a6 r, qgg_ a0 a1 a2 a3 a4 a5 a6 r, outs⟩
def qdl_ (n : Nat) (a0 : List (Int × Int × Int × Int)) (a1 : Nat) (a2 : Nat) (a3 : Int) (a4 : Int) (a5 : Int) (a6 : List Int) : Option (List Int × Int) :=
 (qbh_ n a0 a1 a2 a3 a4 a6).bind fun t => match t with
 | (c1_0, c1_1, c1_2) =>
  (qbh_ n a0 a1 a2 c1_2 a5 c1_0).bind fun t => match t with
  | (c2_0, c2_1, c2_2) =>
   (qbh_ n a0 a1 a2 c1_1 c2_1 c2_0).bind fun t => match t with
   | (c3_0, c3_1, c3_2) =>
    some (c3_0, c3_2)
theorem qhu_ (n : Nat) (a0 : List (Int × Int × Int × Int)) (a1 : Nat) (a2 : Nat) (a3 : Int) (a4 : Int) (a5 : Int) (a6 : List Int) (r : List Int × Int) (h : qdl_ n a0 a1 a2 a3 a4 a5 a6 = some r) : Gv P (.func 61) (qiy_ a0 a1 a2 a3 a4 a5 a6) (qiz_ a0 a1 a2 a3 a4 a5 a6) (qgf_ a0 a1 a2 a3 a4 a5 a6 r) (qgg_ a0 a1 a2 a3 a4 a5 a6 r) := by
 unfold qdl_ at h
 obtain ⟨⟨c1_0, c1_1, c1_2⟩, hc1, h⟩ := oB h
 dsimp only at h
 obtain ⟨⟨c2_0, c2_1, c2_2⟩, hc2, h⟩ := oB h
 dsimp only at h
 obtain ⟨⟨c3_0, c3_1, c3_2⟩, hc3, h⟩ := oB h
 dsimp only at h
 obtain rfl := oI h
 exact runF2 hm ⟨[12], [(1, 1, true)], 2, 1, [], false, [], [], []⟩ (yy 8 (.call (qdz_ a0 a1 a2 a3 a4 a6 (c1_0, c1_1, c1_2) [(0, 0, true), (1, 1, true)] [(1, 1, true)])) <|
  ww (qdn_ n a0 a1 a2 a3 a4 a6 (c1_0, c1_1, c1_2) hc1) <|
  ww (qa_ rwf_uuuu a0 24) <|
  ww (qic_ a6 3) <|
  ww (qic_ c1_0 3) <|
  yy 20 (.call (qdz_ a0 a1 a2 c1_2 a5 c1_0 (c2_0, c2_1, c2_2) [(0, 0, true), (1, 1, true)] [(1, 1, true)])) <|
  ww (qdn_ n a0 a1 a2 c1_2 a5 c1_0 (c2_0, c2_1, c2_2) hc2) <|
  ww (qa_ rwf_uuuu a0 24) <|
  ww (qic_ c1_0 3) <|
  ww (qic_ c2_0 3) <|
  yy 32 (.call (qdz_ a0 a1 a2 c1_1 c2_1 c2_0 (c3_0, c3_1, c3_2) [(0, 0, true), (1, 1, true)] [(1, 1, true)])) <|
  ww (qdn_ n a0 a1 a2 c1_1 c2_1 c2_0 (c3_0, c3_1, c3_2) hc3) <|
  ww (qa_ rwf_uuuu a0 24) <|
  ww (qic_ c2_0 3) <|
  ww (qic_ c3_0 3) <|
  ww (qic_ c3_0 3) <|
  ee) (by kernel_rfl)

def qgm_ (a0 : List (Int × Int × Int × Int)) (a1 : Nat) (a2 : Nat) (a3 : Int) (a4 : List Int) : List Value := [(sN 0 0 a1 a2), (i6 a3), (pN 1 0), (Value.func (.func 38) #[] #[])]
def qgn_ (a0 : List (Int × Int × Int × Int)) (a1 : Nat) (a2 : Nat) (a3 : Int) (a4 : List Int) : AH := ⟨sB [(0, (some (.cells (layT (rows rw_uuuu a0)) 24))), (1, (some (.cells (layT (iv a4)) 3)))], 2, 2⟩
def qef_ (a0 : List (Int × Int × Int × Int)) (a1 : Nat) (a2 : Nat) (a3 : Int) (a4 : List Int) (r : List Int × Int) : Value := match r with
 | (o0, o1) => (i6 o1)
def qeg_ (a0 : List (Int × Int × Int × Int)) (a1 : Nat) (a2 : Nat) (a3 : Int) (a4 : List Int) (r : List Int × Int) : AH := match r with
 | (o0, o1) => ⟨sB [(1, (some (.cells (layT (iv o0)) 3)))], 2, 1⟩
abbrev qqb_ (a0 : List (Int × Int × Int × Int)) (a1 : Nat) (a2 : Nat) (a3 : Int) (a4 : List Int) (r : List Int × Int) : Prop := Gv P (.func 60) (qgm_ a0 a1 a2 a3 a4) (qgn_ a0 a1 a2 a3 a4) (qef_ a0 a1 a2 a3 a4 r) (qeg_ a0 a1 a2 a3 a4 r)
abbrev qgo_ (a0 : List (Int × Int × Int × Int)) (a1 : Nat) (a2 : Nat) (a3 : Int) (a4 : List Int) (r : List Int × Int) (ins outs : BL) : CallA := ⟨2, ins, qef_ a0 a1 a2 a3 a4 r, qeg_ a0 a1 a2 a3 a4 r, outs⟩
def qca_ (n : Nat) (a0 : List (Int × Int × Int × Int)) (a1 : Nat) (a2 : Nat) (a3 : Int) (a4 : List Int) : Option (List Int × Int) :=
 (qdl_ n a0 a1 a2 (w64 (a3 - 1)) a3 (w64 (a3 + 1)) a4).bind fun t => match t with
 | (c1_0, c1_1) =>
  some (c1_0, c1_1)
theorem qf0_ (n : Nat) (a0 : List (Int × Int × Int × Int)) (a1 : Nat) (a2 : Nat) (a3 : Int) (a4 : List Int) (r : List Int × Int) (h : qca_ n a0 a1 a2 a3 a4 = some r) : Gv P (.func 60) (qgm_ a0 a1 a2 a3 a4) (qgn_ a0 a1 a2 a3 a4) (qef_ a0 a1 a2 a3 a4 r) (qeg_ a0 a1 a2 a3 a4 r) := by
 unfold qca_ at h
 obtain ⟨⟨c1_0, c1_1⟩, hc1, h⟩ := oB h
 dsimp only at h
 obtain rfl := oI h
 exact runF2 hm ⟨[8], [(1, 1, true)], 2, 1, [], false, [], [], []⟩ (yy 11 (.call (qi0_ a0 a1 a2 (w64 (a3 - 1)) a3 (w64 (a3 + 1)) a4 (c1_0, c1_1) [(0, 0, true), (1, 1, true)] [(1, 1, true)])) <|
  ww (qhu_ n a0 a1 a2 (w64 (a3 - 1)) a3 (w64 (a3 + 1)) a4 (c1_0, c1_1) hc1) <|
  ww (qa_ rwf_uuuu a0 24) <|
  ww (qic_ a4 3) <|
  ww (qic_ c1_0 3) <|
  ww (qic_ c1_0 3) <|
  ee) (by kernel_rfl)

def qg4_ (a0 : List (Int × Int × Int × Int)) (a1 : Nat) (a2 : Nat) (a3 : Int) (a4 : Int) : List Value := [(sN 0 0 a1 a2), (i6 a3), (i6 a4), (Value.func (.func 38) #[] #[])]
def qg5_ (a0 : List (Int × Int × Int × Int)) (a1 : Nat) (a2 : Nat) (a3 : Int) (a4 : Int) : AH := ⟨sB [(0, (some (.cells (layT (rows rw_uuuu a0)) 24)))], 1, 1⟩
def qfb_ (a0 : List (Int × Int × Int × Int)) (a1 : Nat) (a2 : Nat) (a3 : Int) (a4 : Int) (r : Int × Int) : Value := match r with
 | (o0, o1) => (Value.tuple #[(i6 o0), (i6 o1)])
def qfc_ (a0 : List (Int × Int × Int × Int)) (a1 : Nat) (a2 : Nat) (a3 : Int) (a4 : Int) (r : Int × Int) : AH := match r with
 | (o0, o1) => ⟨sB [], 1, 1⟩
abbrev qq0_ (a0 : List (Int × Int × Int × Int)) (a1 : Nat) (a2 : Nat) (a3 : Int) (a4 : Int) (r : Int × Int) : Prop := Gv P (.func 49) (qg4_ a0 a1 a2 a3 a4) (qg5_ a0 a1 a2 a3 a4) (qfb_ a0 a1 a2 a3 a4 r) (qfc_ a0 a1 a2 a3 a4 r)
abbrev qk1_ (a0 : List (Int × Int × Int × Int)) (a1 : Nat) (a2 : Nat) (a3 : Int) (a4 : Int) (r : Int × Int) (ins outs : BL) : CallA := ⟨1, ins, qfb_ a0 a1 a2 a3 a4 r, qfc_ a0 a1 a2 a3 a4 r, outs⟩
def qdk_ (n : Nat) (a0 : List (Int × Int × Int × Int)) (a1 : Nat) (a2 : Nat) (a3 : Int) (a4 : Int) : Option (Int × Int) :=
 if ¬ ((4 : Int) = 0) then
  ((some (w64 ((IntKind.i64.wrap (Int.tdiv (w64 (a4 - a3)) (4 : Int))) * 1)))).bind fun c2_ =>
  ((some (w64 ((IntKind.i64.wrap (Int.tdiv (w64 (a4 - a3)) (4 : Int))) * 2)))).bind fun c3_ =>
  ((some (w64 ((IntKind.i64.wrap (Int.tdiv (w64 (a4 - a3)) (4 : Int))) * 3)))).bind fun c4_ =>
  if (w64 (a4 - a3)) ≥ 8 then
   if (w64 (a4 - a3)) ≥ 50 then
    (qb9_ n a0 a1 a2 (w64 (a3 + c2_)) 0).bind fun t => match t with
    | (c7_0, c7_1) =>
     (qca_ n a0 a1 a2 (w64 (a3 + c3_)) c7_0).bind fun t => match t with
     | (c8_0, c8_1) =>
      (qca_ n a0 a1 a2 (w64 (a3 + c4_)) c8_0).bind fun t => match t with
      | (c9_0, c9_1) =>
       (qdl_ n a0 a1 a2 c7_1 c8_1 c9_1 c9_0).bind fun t => match t with
       | (c10_0, c10_1) =>
        if 0 < (c10_0).length then
         ((some ((c10_0).getD 0 0))).bind fun c12_ =>
         if c12_ = 0 then
          some (c10_1, 1)
         else
          if c12_ = 12 then
           some (c10_1, 2)
          else
           some (c10_1, 0)
        else none
   else
    (qc3_ n a0 a1 a2 (w64 (a3 + c2_)) (w64 (a3 + c3_)) (w64 (a3 + c4_)) 0).bind fun t => match t with
    | (c7_0, c7_1) =>
     if 0 < (c7_0).length then
      ((some ((c7_0).getD 0 0))).bind fun c9_ =>
      if c9_ = 0 then
       some (c7_1, 1)
      else
       if c9_ = 12 then
        some (c7_1, 2)
       else
        some (c7_1, 0)
     else none
  else
   some ((w64 (a3 + c3_)), 1)
 else none
theorem qj8_ (n : Nat) (a0 : List (Int × Int × Int × Int)) (a1 : Nat) (a2 : Nat) (a3 : Int) (a4 : Int) (r : Int × Int) (h : qdk_ n a0 a1 a2 a3 a4 = some r) : Gv P (.func 49) (qg4_ a0 a1 a2 a3 a4) (qg5_ a0 a1 a2 a3 a4) (qfb_ a0 a1 a2 a3 a4 r) (qfc_ a0 a1 a2 a3 a4 r) := by
 unfold qdk_ at h
 obtain ⟨hc1, h⟩ := gd h
 obtain ⟨c2_, hc2, h⟩ := oB h
 obtain ⟨c3_, hc3, h⟩ := oB h
 obtain ⟨c4_, hc4, h⟩ := oB h
 have k0 := fun {A L l} (k : PL A L l) => yy 13 (.pur (i6 (IntKind.i64.wrap (Int.tdiv (w64 (a4 - a3)) (4 : Int))))) <|
  ww (p := opBin P .quo 3 (.tmp 19) (.const (i6 (4 : Int))) (i6 (w64 (a4 - a3))) (i6 (4 : Int)) Ax.h0 = some ((i6 (IntKind.i64.wrap (Int.tdiv (w64 (a4 - a3)) (4 : Int)))), Ax.h0)) (qve_ hc1) <|
  zz 14 (xnm hc2) <|
  yy 20 (.pur (i6 (IntKind.i64.wrap (Int.tdiv (w64 (a4 - a3)) (4 : Int))))) <|
  ww (p := opBin P .quo 3 (.tmp 24) (.const (i6 (4 : Int))) (i6 (w64 (a4 - a3))) (i6 (4 : Int)) Ax.h0 = some ((i6 (IntKind.i64.wrap (Int.tdiv (w64 (a4 - a3)) (4 : Int)))), Ax.h0)) (qve_ hc1) <|
  zz 21 (xnm hc3) <|
  yy 27 (.pur (i6 (IntKind.i64.wrap (Int.tdiv (w64 (a4 - a3)) (4 : Int))))) <|
  ww (p := opBin P .quo 3 (.tmp 29) (.const (i6 (4 : Int))) (i6 (w64 (a4 - a3))) (i6 (4 : Int)) Ax.h0 = some ((i6 (IntKind.i64.wrap (Int.tdiv (w64 (a4 - a3)) (4 : Int)))), Ax.h0)) (qve_ hc1) <|
  zz 28 (xnm hc4) <|
  k
 by_cases hc5 : (w64 (a4 - a3)) ≥ 8
 ·rw [if_pos hc5] at h
  have k9 := fun {A L l} (k : PL A L l) => zz 34 (xdT hc5) <|
   k
  by_cases hc6 : (w64 (a4 - a3)) ≥ 50
  ·rw [if_pos hc6] at h
   obtain ⟨⟨c7_0, c7_1⟩, hc7, h⟩ := oB h
   dsimp only at h
   obtain ⟨⟨c8_0, c8_1⟩, hc8, h⟩ := oB h
   dsimp only at h
   obtain ⟨⟨c9_0, c9_1⟩, hc9, h⟩ := oB h
   dsimp only at h
   obtain ⟨⟨c10_0, c10_1⟩, hc10, h⟩ := oB h
   dsimp only at h
   obtain ⟨hc11, h⟩ := gd h
   obtain ⟨c12_, hc12, h⟩ := oB h
   have k10 := fun {A L l} (k : PL A L l) => zz 39 (xdT hc6) <|
    yy 45 (.call (qj7_ a0 a1 a2 (w64 (a3 + c2_)) 0 (c7_0, c7_1) [(0, 0, true), (1, 1, false)] [(1, 1, true)])) <|
    ww (qjh_ n a0 a1 a2 (w64 (a3 + c2_)) 0 (c7_0, c7_1) hc7) <|
    ww (qa_ rwf_uuuu a0 24) <|
    ww (qic_ c7_0 3) <|
    yy 51 (.call (qgo_ a0 a1 a2 (w64 (a3 + c3_)) c7_0 (c8_0, c8_1) [(0, 0, true), (1, 1, true)] [(1, 1, true)])) <|
    ww (qf0_ n a0 a1 a2 (w64 (a3 + c3_)) c7_0 (c8_0, c8_1) hc8) <|
    ww (qa_ rwf_uuuu a0 24) <|
    ww (qic_ c7_0 3) <|
    ww (qic_ c8_0 3) <|
    yy 56 (.call (qgo_ a0 a1 a2 (w64 (a3 + c4_)) c8_0 (c9_0, c9_1) [(0, 0, true), (1, 1, true)] [(1, 1, true)])) <|
    ww (qf0_ n a0 a1 a2 (w64 (a3 + c4_)) c8_0 (c9_0, c9_1) hc9) <|
    ww (qa_ rwf_uuuu a0 24) <|
    ww (qic_ c8_0 3) <|
    ww (qic_ c9_0 3) <|
    yy 63 (.call (qi0_ a0 a1 a2 c7_1 c8_1 c9_1 c9_0 (c10_0, c10_1) [(0, 0, true), (1, 1, true)] [(1, 1, true)])) <|
    ww (qhu_ n a0 a1 a2 c7_1 c8_1 c9_1 c9_0 (c10_0, c10_1) hc10) <|
    ww (qa_ rwf_uuuu a0 24) <|
    ww (qic_ c9_0 3) <|
    ww (qic_ c10_0 3) <|
    zz 66 (xivN hc12 (hc11)) <|
    k
   by_cases hc13 : c12_ = 0
   ·rw [if_pos hc13] at h
    obtain rfl := oI h
    exact runF2 hm ⟨[8, 9], [], 1, 1, [], false, [], [], []⟩ (k0 <|
     k9 <|
     k10 <|
     zz 69 (xeT hc13) <|
     ee) (by kernel_rfl)
   ·rw [if_neg hc13] at h
    have k31 := fun {A L l} (k : PL A L l) => zz 69 (xeF hc13) <|
     k
    by_cases hc14 : c12_ = 12
    ·rw [if_pos hc14] at h
     obtain rfl := oI h
     exact runF2 hm ⟨[8, 9], [], 1, 1, [], false, [], [], []⟩ (k0 <|
      k9 <|
      k10 <|
      k31 <|
      zz 73 (xeT hc14) <|
      ee) (by kernel_rfl)
    ·rw [if_neg hc14] at h
     obtain rfl := oI h
     exact runF2 hm ⟨[8, 9], [], 1, 1, [], false, [], [], []⟩ (k0 <|
      k9 <|
      k10 <|
      k31 <|
      zz 73 (xeF hc14) <|
      ee) (by kernel_rfl)
  ·rw [if_neg hc6] at h
   obtain ⟨⟨c7_0, c7_1⟩, hc7, h⟩ := oB h
   dsimp only at h
   obtain ⟨hc8, h⟩ := gd h
   obtain ⟨c9_, hc9, h⟩ := oB h
   have k10 := fun {A L l} (k : PL A L l) => zz 39 (xdF hc6) <|
    yy 46 (.call (qix_ a0 a1 a2 (w64 (a3 + c2_)) (w64 (a3 + c3_)) (w64 (a3 + c4_)) 0 (c7_0, c7_1) [(0, 0, true), (1, 1, false)] [(1, 1, true)])) <|
    ww (qht_ n a0 a1 a2 (w64 (a3 + c2_)) (w64 (a3 + c3_)) (w64 (a3 + c4_)) 0 (c7_0, c7_1) hc7) <|
    ww (qa_ rwf_uuuu a0 24) <|
    ww (qic_ c7_0 3) <|
    zz 49 (xivN hc9 (hc8)) <|
    k
   by_cases hc10 : c9_ = 0
   ·rw [if_pos hc10] at h
    obtain rfl := oI h
    exact runF2 hm ⟨[8, 9], [], 1, 1, [], false, [], [], []⟩ (k0 <|
     k9 <|
     k10 <|
     zz 52 (xeT hc10) <|
     ee) (by kernel_rfl)
   ·rw [if_neg hc10] at h
    have k16 := fun {A L l} (k : PL A L l) => zz 52 (xeF hc10) <|
     k
    by_cases hc11 : c9_ = 12
    ·rw [if_pos hc11] at h
     obtain rfl := oI h
     exact runF2 hm ⟨[8, 9], [], 1, 1, [], false, [], [], []⟩ (k0 <|
      k9 <|
      k10 <|
      k16 <|
      zz 56 (xeT hc11) <|
      ee) (by kernel_rfl)
    ·rw [if_neg hc11] at h
     obtain rfl := oI h
     exact runF2 hm ⟨[8, 9], [], 1, 1, [], false, [], [], []⟩ (k0 <|
      k9 <|
      k10 <|
      k16 <|
      zz 56 (xeF hc11) <|
      ee) (by kernel_rfl)
 ·rw [if_neg hc5] at h
  obtain rfl := oI h
  exact runF2 hm ⟨[8, 9], [], 1, 1, [], false, [], [], []⟩ (k0 <|
   zz 34 (xdF hc5) <|
   ee) (by kernel_rfl)

def qgz_ (a0 : List (Int × Int × Int × Int)) (a1 : Nat) (a2 : Nat) (a3 : Int) (a4 : Int) : List Value := [(sN 0 0 a1 a2), (i6 a3), (i6 a4), (Value.func (.func 38) #[] #[])]
def qg0_ (a0 : List (Int × Int × Int × Int)) (a1 : Nat) (a2 : Nat) (a3 : Int) (a4 : Int) : AH := ⟨sB [(0, (some (.cells (layT (rows rw_uuuu a0)) 24)))], 1, 1⟩
def qe0_ (a0 : List (Int × Int × Int × Int)) (a1 : Nat) (a2 : Nat) (a3 : Int) (a4 : Int) (r : List (Int × Int × Int × Int)) : Value := match r with
 | o0 => (Value.tuple #[])
def qe1_ (a0 : List (Int × Int × Int × Int)) (a1 : Nat) (a2 : Nat) (a3 : Int) (a4 : Int) (r : List (Int × Int × Int × Int)) : AH := match r with
 | o0 => ⟨sB [(0, (some (.cells (layT (rows rw_uuuu o0)) 24)))], 1, 0⟩
abbrev qqm_ (a0 : List (Int × Int × Int × Int)) (a1 : Nat) (a2 : Nat) (a3 : Int) (a4 : Int) (r : List (Int × Int × Int × Int)) : Prop := Gv P (.func 50) (qgz_ a0 a1 a2 a3 a4) (qg0_ a0 a1 a2 a3 a4) (qe0_ a0 a1 a2 a3 a4 r) (qe1_ a0 a1 a2 a3 a4 r)
abbrev qks_ (a0 : List (Int × Int × Int × Int)) (a1 : Nat) (a2 : Nat) (a3 : Int) (a4 : Int) (r : List (Int × Int × Int × Int)) (ins outs : BL) : CallA := ⟨1, ins, qe0_ a0 a1 a2 a3 a4 r, qe1_ a0 a1 a2 a3 a4 r, outs⟩
def qcb_ (x1 : Nat) (x2 : Nat) (st : List (Int × Int × Int × Int) × Int × Int) : XSt := match st with
 | (x0, x3, x4) => (sT 34 [(0, (sN 0 0 x1 x2)), (8, (i6 x3)), (9, (i6 x4))], [], ⟨sB [(0, (some (.cells (layT (rows rw_uuuu x0)) 24)))], 1, 0⟩)
def qcc_ (x1 : Nat) (x2 : Nat) (r : List (Int × Int × Int × Int)) : Ex × XSt := match r with
 | z0 => (.exit 0, (sT 34 [], [], ⟨sB [(0, (some (.cells (layT (rows rw_uuuu z0)) 24)))], 1, 0⟩))
abbrev qqc_ (rnd : Option Nat) (x1 : Nat) (x2 : Nat) (st : List (Int × Int × Int × Int) × Int × Int) (c : Ex × XSt) : Prop := CG P rnd (fnN P 50) 1 (qt_ P 50 [false, false, true, true]) (qcb_ x1 x2 st) c
abbrev qj9_ (rd : Option Nat) (x1 : Nat) (x2 : Nat) (st : List (Int × Int × Int × Int) × Int × Int) (r : List (Int × Int × Int × Int)) : Prop := CG P rd (fnN P 50) 1 (qt_ P 50 [false, true, true]) (qcb_ x1 x2 st) (qcc_ x1 x2 r)
def qcd_ (n : Nat) (x1 : Nat) (x2 : Nat) (st : List (Int × Int × Int × Int) × Int × Int) : Option ((List (Int × Int × Int × Int) × Int × Int) ⊕ (List (Int × Int × Int × Int))) := match st with
 | (x0, x3, x4) =>
  if x3 < x4 then
   if 0 ≤ x4 ∧ x4 < ((x1 : Nat) : Int) then
    if (x4).toNat < (x0).length then
     ((some ((x0).getD (x4).toNat (0, 0, 0, 0)))).bind fun y4_ =>
     if 0 ≤ x3 ∧ x3 < ((x1 : Nat) : Int) then
      if (x3).toNat < (x0).length then
       ((some ((x0).getD (x3).toNat (0, 0, 0, 0)))).bind fun y7_ =>
       if (x4).toNat < (((x0).set (x3).toNat y4_)).length then
        some (.inl (((((x0).set (x3).toNat y4_)).set (x4).toNat y7_), (w64 (x3 + 1)), (w64 (x4 - 1))))
       else none
      else none
     else none
    else none
   else none
  else
   some (.inr x0)
def qeh_ (n : Nat) (x1 : Nat) (x2 : Nat) (st : List (Int × Int × Int × Int) × Int × Int) : Option (List (Int × Int × Int × Int)) := iterM (qcd_ n x1 x2) n st
theorem qgp_ (n : Nat) {rnd : Option Nat} (x1 : Nat) (x2 : Nat) (st : List (Int × Int × Int × Int) × Int × Int) (o : (List (Int × Int × Int × Int) × Int × Int) ⊕ (List (Int × Int × Int × Int))) (h : qcd_ n x1 x2 st = some o) : CG P rnd (fnN P 50) 1 (qt_ P 50 [false, false, true, true]) (qcb_ x1 x2 st) (Sum.elim (fun s => (.normal, qcb_ x1 x2 s)) (fun r => qcc_ x1 x2 r) o) := by
 obtain ⟨x0, x3, x4⟩ := st
 unfold qcd_ at h
 dsimp only at h
 by_cases hy1 : x3 < x4
 ·rw [if_pos hy1] at h
  obtain ⟨hy2, h⟩ := gd h
  obtain ⟨hy3, h⟩ := gd h
  obtain ⟨y4_, hy4, h⟩ := oB h
  obtain ⟨hy5, h⟩ := gd h
  obtain ⟨hy6, h⟩ := gd h
  obtain ⟨y7_, hy7, h⟩ := oB h
  obtain ⟨hy8, h⟩ := gd h
  obtain rfl := oI h
  exact runC2 hm ⟨[0, 8, 9], [(0, 0, true)], 1, 0, [], false, [], [], []⟩ (zz 4 (xdT hy1) <|
   zz 14 (xk3 0 x2 hy2) <|
   yy 15 (.ld (Value.agg #[(Value.int .u64 (y4_.1)), (Value.int .u64 (y4_.2.1)), (Value.int .u64 (y4_.2.2.1)), (Value.int .u64 (y4_.2.2.2))])) <|
   ww (p := rdT (layT (rows rw_uuuu x0)) 4 ((x4).toNat * 4) = some [(Value.int .u64 (y4_.1)), (Value.int .u64 (y4_.2.1)), (Value.int .u64 (y4_.2.2.1)), (Value.int .u64 (y4_.2.2.2))]) (qn_ rwf_uuuu (0, 0, 0, 0) (hr := hy4) (i := (x4).toNat) (j := 0) ((x4).toNat * 4) rfl (hy3) (by decide) rfl) <|
   zz 18 (xk3 0 x2 hy5) <|
   yy 19 (.ld (Value.agg #[(Value.int .u64 (y7_.1)), (Value.int .u64 (y7_.2.1)), (Value.int .u64 (y7_.2.2.1)), (Value.int .u64 (y7_.2.2.2))])) <|
   ww (p := rdT (layT (rows rw_uuuu x0)) 4 ((x3).toNat * 4) = some [(Value.int .u64 (y7_.1)), (Value.int .u64 (y7_.2.1)), (Value.int .u64 (y7_.2.2.1)), (Value.int .u64 (y7_.2.2.2))]) (qn_ rwf_uuuu (0, 0, 0, 0) (hr := hy7) (i := (x3).toNat) (j := 0) ((x3).toNat * 4) rfl (hy6) (by decide) rfl) <|
   zz 20 (xk3 0 x2 hy5) <|
   yy 21 (.sto (layT (rows rw_uuuu ((x0).set (x3).toNat y4_)))) <|
   ww (p := ∃ old, rdT (layT (rows rw_uuuu x0)) 4 ((x3).toNat * 4) = some old) (Exists.elim (qcx_ rwf_uuuu (0, 0, 0, 0) (i := (x3).toNat) (j := 0) (l := [(Value.int .u64 (y4_.1)), (Value.int .u64 (y4_.2.1)), (Value.int .u64 (y4_.2.2.1)), (Value.int .u64 (y4_.2.2.2))]) y4_ ((x3).toNat * 4) rfl (hy6) (Nat.le_of_ble_eq_true rfl) rfl) fun o h => ⟨o, h.1⟩) <|
   ww (p := layL [(Value.int .u64 (y4_.1)), (Value.int .u64 (y4_.2.1)), (Value.int .u64 (y4_.2.2.1)), (Value.int .u64 (y4_.2.2.2))] ((x3).toNat * 4) (layT (rows rw_uuuu x0)) = layT (rows rw_uuuu ((x0).set (x3).toNat y4_))) (Exists.elim (qcx_ rwf_uuuu (0, 0, 0, 0) (i := (x3).toNat) (j := 0) (l := [(Value.int .u64 (y4_.1)), (Value.int .u64 (y4_.2.1)), (Value.int .u64 (y4_.2.2.1)), (Value.int .u64 (y4_.2.2.2))]) y4_ ((x3).toNat * 4) rfl (hy6) (Nat.le_of_ble_eq_true rfl) rfl) fun o h => h.2) <|
   zz 22 (xk3 0 x2 hy2) <|
   yy 23 (.sto (layT (rows rw_uuuu ((((x0).set (x3).toNat y4_)).set (x4).toNat y7_)))) <|
   ww (p := ∃ old, rdT (layT (rows rw_uuuu ((x0).set (x3).toNat y4_))) 4 ((x4).toNat * 4) = some old) (Exists.elim (qcx_ rwf_uuuu (0, 0, 0, 0) (i := (x4).toNat) (j := 0) (l := [(Value.int .u64 (y7_.1)), (Value.int .u64 (y7_.2.1)), (Value.int .u64 (y7_.2.2.1)), (Value.int .u64 (y7_.2.2.2))]) y7_ ((x4).toNat * 4) rfl (hy8) (Nat.le_of_ble_eq_true rfl) rfl) fun o h => ⟨o, h.1⟩) <|
   ww (p := layL [(Value.int .u64 (y7_.1)), (Value.int .u64 (y7_.2.1)), (Value.int .u64 (y7_.2.2.1)), (Value.int .u64 (y7_.2.2.2))] ((x4).toNat * 4) (layT (rows rw_uuuu ((x0).set (x3).toNat y4_))) = layT (rows rw_uuuu ((((x0).set (x3).toNat y4_)).set (x4).toNat y7_))) (Exists.elim (qcx_ rwf_uuuu (0, 0, 0, 0) (i := (x4).toNat) (j := 0) (l := [(Value.int .u64 (y7_.1)), (Value.int .u64 (y7_.2.1)), (Value.int .u64 (y7_.2.2.1)), (Value.int .u64 (y7_.2.2.2))]) y7_ ((x4).toNat * 4) rfl (hy8) (Nat.le_of_ble_eq_true rfl) rfl) fun o h => h.2) <|
   ww (qa_ rwf_uuuu ((((x0).set (x3).toNat y4_)).set (x4).toNat y7_) 24) <|
   ee) (by kernel_rfl)
 ·rw [if_neg hy1] at h
  obtain rfl := oI h
  exact runC2 hm ⟨[], [(0, 0, true)], 1, 0, [], false, [], [], []⟩ (zz 4 (xdF hy1) <|
   ww (qa_ rwf_uuuu x0 24) <|
   ee) (by kernel_rfl)
theorem qji_ (n : Nat) {rnd : Option Nat} (x1 : Nat) (x2 : Nat) (st : List (Int × Int × Int × Int) × Int × Int) (r : List (Int × Int × Int × Int)) (h : qeh_ n x1 x2 st = some r) : CG P rnd (fnN P 50) 1 (qt_ P 50 [false, true, true]) (qcb_ x1 x2 st) (qcc_ x1 x2 r) :=
 CG.iter (b := qt_ P 50 [false, false, true, true]) (by kernel_rfl) (body := qcd_ n x1 x2) (S := qcb_ x1 x2) (X := qcc_ x1 x2)
  (fun s s' h => qgp_ n x1 x2 s (.inl s') h)
  (fun s r h => qgp_ n x1 x2 s (.inr r) h)
  (fun r => by intro hx; cases hx) h
def qdj_ (n : Nat) (a0 : List (Int × Int × Int × Int)) (a1 : Nat) (a2 : Nat) (a3 : Int) (a4 : Int) : Option (List (Int × Int × Int × Int)) :=
 (qeh_ n a1 a2 (a0, a3, (w64 (a4 - 1)))).bind fun c1_ =>
 some c1_
theorem qjy_ (n : Nat) (a0 : List (Int × Int × Int × Int)) (a1 : Nat) (a2 : Nat) (a3 : Int) (a4 : Int) (r : List (Int × Int × Int × Int)) (h : qdj_ n a0 a1 a2 a3 a4 = some r) : Gv P (.func 50) (qgz_ a0 a1 a2 a3 a4) (qg0_ a0 a1 a2 a3 a4) (qe0_ a0 a1 a2 a3 a4 r) (qe1_ a0 a1 a2 a3 a4 r) := by
 unfold qdj_ at h
 obtain ⟨c1_, hc1, h⟩ := oB h
 obtain rfl := oI h
 exact runF2 hm ⟨[], [(0, 0, true)], 1, 0, [], false, [], [], []⟩ (ww (p := qj9_ none a1 a2 (a0, a3, (w64 (a4 - 1))) c1_) (qji_ n a1 a2 (a0, a3, (w64 (a4 - 1))) c1_ hc1) <|
  ww (qa_ rwf_uuuu a0 24) <|
  ll 8 ⟨⟨[0, 8, 9], [(0, 0, true)], 1, 0, [], false, [], [], []⟩, (qcc_ a1 a2 c1_).1, (qcc_ a1 a2 c1_).2⟩ <|
  ww (qa_ rwf_uuuu c1_ 24) <|
  ee) (by kernel_rfl)

def qfn_ (a0 : List (Int × Int × Int × Int)) (a1 : Nat) (a2 : Nat) (a3 : Int) (a4 : Int) : List Value := [(sN 0 0 a1 a2), (i6 a3), (i6 a4), (Value.func (.func 38) #[] #[])]
def qfo_ (a0 : List (Int × Int × Int × Int)) (a1 : Nat) (a2 : Nat) (a3 : Int) (a4 : Int) : AH := ⟨sB [(0, (some (.cells (layT (rows rw_uuuu a0)) 24)))], 1, 1⟩
def qdw_ (a0 : List (Int × Int × Int × Int)) (a1 : Nat) (a2 : Nat) (a3 : Int) (a4 : Int) (r : List (Int × Int × Int × Int) × Bool) : Value := match r with
 | (o0, o1) => (bO o1)
def qdx_ (a0 : List (Int × Int × Int × Int)) (a1 : Nat) (a2 : Nat) (a3 : Int) (a4 : Int) (r : List (Int × Int × Int × Int) × Bool) : AH := match r with
 | (o0, o1) => ⟨sB [(0, (some (.cells (layT (rows rw_uuuu o0)) 24)))], 1, 0⟩
abbrev qoe_ (a0 : List (Int × Int × Int × Int)) (a1 : Nat) (a2 : Nat) (a3 : Int) (a4 : Int) (r : List (Int × Int × Int × Int) × Bool) : Prop := Gv P (.func 51) (qfn_ a0 a1 a2 a3 a4) (qfo_ a0 a1 a2 a3 a4) (qdw_ a0 a1 a2 a3 a4 r) (qdx_ a0 a1 a2 a3 a4 r)
abbrev qip_ (a0 : List (Int × Int × Int × Int)) (a1 : Nat) (a2 : Nat) (a3 : Int) (a4 : Int) (r : List (Int × Int × Int × Int) × Bool) (ins outs : BL) : CallA := ⟨1, ins, qdw_ a0 a1 a2 a3 a4 r, qdx_ a0 a1 a2 a3 a4 r, outs⟩
def qz_ (x1 : Nat) (x2 : Nat) (x3 : Int) (x4 : Int) (x5 : Int) (x6 : Int) (st : List (Int × Int × Int × Int) × Int) : XSt := match st with
 | (x0, x7) => (sT 141 [(0, (sN 0 0 x1 x2)), (1, (i6 x3)), (2, (i6 x4)), (3, (Value.func (.func 38) #[] #[])), (9, (i6 x5)), (10, (i6 x6)), (11, (i6 x7))], [], ⟨sB [(0, (some (.cells (layT (rows rw_uuuu x0)) 24)))], 1, 0⟩)
def q0_ (x1 : Nat) (x2 : Nat) (x3 : Int) (x4 : Int) (x5 : Int) (x6 : Int) (r : List (Int × Int × Int × Int)) : Ex × XSt := match r with
 | z0 => (.exit 4, (sT 141 [(0, (sN 0 0 x1 x2)), (1, (i6 x3)), (2, (i6 x4)), (3, (Value.func (.func 38) #[] #[])), (9, (i6 x5)), (10, (i6 x6))], [], ⟨sB [(0, (some (.cells (layT (rows rw_uuuu z0)) 24)))], 1, 0⟩))
abbrev qn0_ (rnd : Option Nat) (x1 : Nat) (x2 : Nat) (x3 : Int) (x4 : Int) (x5 : Int) (x6 : Int) (st : List (Int × Int × Int × Int) × Int) (c : Ex × XSt) : Prop := CG P rnd (fnN P 51) 1 (qt_ P 51 [false, false, true, false, true, false, true, true, true, true, false, false, true, false, false, true, false, true, true]) (qz_ x1 x2 x3 x4 x5 x6 st) c
abbrev qij_ (rd : Option Nat) (x1 : Nat) (x2 : Nat) (x3 : Int) (x4 : Int) (x5 : Int) (x6 : Int) (st : List (Int × Int × Int × Int) × Int) (r : List (Int × Int × Int × Int)) : Prop := CG P rd (fnN P 51) 1 (qt_ P 51 [false, true, false, true, false, true, true, true, true, false, false, true, false, false, true, false, true, true]) (qz_ x1 x2 x3 x4 x5 x6 st) (q0_ x1 x2 x3 x4 x5 x6 r)
def qs_ (n : Nat) (x1 : Nat) (x2 : Nat) (x3 : Int) (x4 : Int) (x5 : Int) (x6 : Int) (st : List (Int × Int × Int × Int) × Int) : Option ((List (Int × Int × Int × Int) × Int) ⊕ (List (Int × Int × Int × Int))) := match st with
 | (x0, x7) =>
  if x7 ≥ 1 then
   if 0 ≤ x7 ∧ x7 < ((x1 : Nat) : Int) then
    if (x7).toNat < (x0).length then
     ((some ((x0).getD (x7).toNat (0, 0, 0, 0)))).bind fun y4_ =>
     if 0 ≤ (w64 (x7 - 1)) ∧ (w64 (x7 - 1)) < ((x1 : Nat) : Int) then
      if ((w64 (x7 - 1))).toNat < (x0).length then
       ((some ((x0).getD ((w64 (x7 - 1))).toNat (0, 0, 0, 0)))).bind fun y7_ =>
       (qd_ n (y4_.1) (y4_.2.1) (y4_.2.2.1) (y4_.2.2.2) (y7_.1) (y7_.2.1) (y7_.2.2.1) (y7_.2.2.2)).bind fun y8_ =>
       if y8_ < 0 then
        if ((w64 (x7 - 1))).toNat < (((x0).set (x7).toNat y7_)).length then
         some (.inl (((((x0).set (x7).toNat y7_)).set ((w64 (x7 - 1))).toNat y4_), (w64 (x7 - 1))))
        else none
       else
        some (.inr x0)
      else none
     else none
    else none
   else none
  else
   some (.inr x0)
def qc4_ (n : Nat) (x1 : Nat) (x2 : Nat) (x3 : Int) (x4 : Int) (x5 : Int) (x6 : Int) (st : List (Int × Int × Int × Int) × Int) : Option (List (Int × Int × Int × Int)) := iterM (qs_ n x1 x2 x3 x4 x5 x6) n st
theorem qe5_ (n : Nat) {rnd : Option Nat} (x1 : Nat) (x2 : Nat) (x3 : Int) (x4 : Int) (x5 : Int) (x6 : Int) (st : List (Int × Int × Int × Int) × Int) (o : (List (Int × Int × Int × Int) × Int) ⊕ (List (Int × Int × Int × Int))) (h : qs_ n x1 x2 x3 x4 x5 x6 st = some o) : CG P rnd (fnN P 51) 1 (qt_ P 51 [false, false, true, false, true, false, true, true, true, true, false, false, true, false, false, true, false, true, true]) (qz_ x1 x2 x3 x4 x5 x6 st) (Sum.elim (fun s => (.normal, qz_ x1 x2 x3 x4 x5 x6 s)) (fun r => q0_ x1 x2 x3 x4 x5 x6 r) o) := by
 obtain ⟨x0, x7⟩ := st
 unfold qs_ at h
 dsimp only at h
 by_cases hy1 : x7 ≥ 1
 ·rw [if_pos hy1] at h
  obtain ⟨hy2, h⟩ := gd h
  obtain ⟨hy3, h⟩ := gd h
  obtain ⟨y4_, hy4, h⟩ := oB h
  obtain ⟨hy5, h⟩ := gd h
  obtain ⟨hy6, h⟩ := gd h
  obtain ⟨y7_, hy7, h⟩ := oB h
  obtain ⟨y8_, hy8, h⟩ := oB h
  have k0 := fun {A L l} (k : PL A L l) => zz 3 (xdT hy1) <|
   zz 12 (xk3 0 x2 hy2) <|
   yy 13 (.ld (Value.agg #[(Value.int .u64 (y4_.1)), (Value.int .u64 (y4_.2.1)), (Value.int .u64 (y4_.2.2.1)), (Value.int .u64 (y4_.2.2.2))])) <|
   ww (p := rdT (layT (rows rw_uuuu x0)) 4 ((x7).toNat * 4) = some [(Value.int .u64 (y4_.1)), (Value.int .u64 (y4_.2.1)), (Value.int .u64 (y4_.2.2.1)), (Value.int .u64 (y4_.2.2.2))]) (qn_ rwf_uuuu (0, 0, 0, 0) (hr := hy4) (i := (x7).toNat) (j := 0) ((x7).toNat * 4) rfl (hy3) (by decide) rfl) <|
   zz 17 (xk3 0 x2 hy5) <|
   yy 18 (.ld (Value.agg #[(Value.int .u64 (y7_.1)), (Value.int .u64 (y7_.2.1)), (Value.int .u64 (y7_.2.2.1)), (Value.int .u64 (y7_.2.2.2))])) <|
   ww (p := rdT (layT (rows rw_uuuu x0)) 4 (((w64 (x7 - 1))).toNat * 4) = some [(Value.int .u64 (y7_.1)), (Value.int .u64 (y7_.2.1)), (Value.int .u64 (y7_.2.2.1)), (Value.int .u64 (y7_.2.2.2))]) (qn_ rwf_uuuu (0, 0, 0, 0) (hr := hy7) (i := ((w64 (x7 - 1))).toNat) (j := 0) (((w64 (x7 - 1))).toNat * 4) rfl (hy6) (by decide) rfl) <|
   yy 19 (.call (qbg_ (y4_.1) (y4_.2.1) (y4_.2.2.1) (y4_.2.2.2) (y7_.1) (y7_.2.1) (y7_.2.2.1) (y7_.2.2.2) y8_ [] [])) <|
   ww (qw_ n (y4_.1) (y4_.2.1) (y4_.2.2.1) (y4_.2.2.2) (y7_.1) (y7_.2.1) (y7_.2.2.1) (y7_.2.2.2) y8_ hy8) <|
   k
  by_cases hy9 : y8_ < 0
  ·rw [if_pos hy9] at h
   obtain ⟨hy10, h⟩ := gd h
   obtain rfl := oI h
   exact runC2 hm ⟨[0, 1, 2, 3, 9, 10, 11], [(0, 0, true)], 1, 0, [], false, [], [], []⟩ (k0 <|
    zz 20 (xdT hy9) <|
    zz 31 (xk3 0 x2 hy5) <|
    yy 32 (.ld (Value.agg #[(Value.int .u64 (y7_.1)), (Value.int .u64 (y7_.2.1)), (Value.int .u64 (y7_.2.2.1)), (Value.int .u64 (y7_.2.2.2))])) <|
    ww (p := rdT (layT (rows rw_uuuu x0)) 4 (((w64 (x7 - 1))).toNat * 4) = some [(Value.int .u64 (y7_.1)), (Value.int .u64 (y7_.2.1)), (Value.int .u64 (y7_.2.2.1)), (Value.int .u64 (y7_.2.2.2))]) (qn_ rwf_uuuu (0, 0, 0, 0) (hr := hy7) (i := ((w64 (x7 - 1))).toNat) (j := 0) (((w64 (x7 - 1))).toNat * 4) rfl (hy6) (by decide) rfl) <|
    zz 35 (xk3 0 x2 hy2) <|
    yy 36 (.ld (Value.agg #[(Value.int .u64 (y4_.1)), (Value.int .u64 (y4_.2.1)), (Value.int .u64 (y4_.2.2.1)), (Value.int .u64 (y4_.2.2.2))])) <|
    ww (p := rdT (layT (rows rw_uuuu x0)) 4 ((x7).toNat * 4) = some [(Value.int .u64 (y4_.1)), (Value.int .u64 (y4_.2.1)), (Value.int .u64 (y4_.2.2.1)), (Value.int .u64 (y4_.2.2.2))]) (qn_ rwf_uuuu (0, 0, 0, 0) (hr := hy4) (i := (x7).toNat) (j := 0) ((x7).toNat * 4) rfl (hy3) (by decide) rfl) <|
    zz 37 (xk3 0 x2 hy2) <|
    yy 38 (.sto (layT (rows rw_uuuu ((x0).set (x7).toNat y7_)))) <|
    ww (p := ∃ old, rdT (layT (rows rw_uuuu x0)) 4 ((x7).toNat * 4) = some old) (Exists.elim (qcx_ rwf_uuuu (0, 0, 0, 0) (i := (x7).toNat) (j := 0) (l := [(Value.int .u64 (y7_.1)), (Value.int .u64 (y7_.2.1)), (Value.int .u64 (y7_.2.2.1)), (Value.int .u64 (y7_.2.2.2))]) y7_ ((x7).toNat * 4) rfl (hy3) (Nat.le_of_ble_eq_true rfl) rfl) fun o h => ⟨o, h.1⟩) <|
    ww (p := layL [(Value.int .u64 (y7_.1)), (Value.int .u64 (y7_.2.1)), (Value.int .u64 (y7_.2.2.1)), (Value.int .u64 (y7_.2.2.2))] ((x7).toNat * 4) (layT (rows rw_uuuu x0)) = layT (rows rw_uuuu ((x0).set (x7).toNat y7_))) (Exists.elim (qcx_ rwf_uuuu (0, 0, 0, 0) (i := (x7).toNat) (j := 0) (l := [(Value.int .u64 (y7_.1)), (Value.int .u64 (y7_.2.1)), (Value.int .u64 (y7_.2.2.1)), (Value.int .u64 (y7_.2.2.2))]) y7_ ((x7).toNat * 4) rfl (hy3) (Nat.le_of_ble_eq_true rfl) rfl) fun o h => h.2) <|
    zz 39 (xk3 0 x2 hy5) <|
    yy 40 (.sto (layT (rows rw_uuuu ((((x0).set (x7).toNat y7_)).set ((w64 (x7 - 1))).toNat y4_)))) <|
    ww (p := ∃ old, rdT (layT (rows rw_uuuu ((x0).set (x7).toNat y7_))) 4 (((w64 (x7 - 1))).toNat * 4) = some old) (Exists.elim (qcx_ rwf_uuuu (0, 0, 0, 0) (i := ((w64 (x7 - 1))).toNat) (j := 0) (l := [(Value.int .u64 (y4_.1)), (Value.int .u64 (y4_.2.1)), (Value.int .u64 (y4_.2.2.1)), (Value.int .u64 (y4_.2.2.2))]) y4_ (((w64 (x7 - 1))).toNat * 4) rfl (hy10) (Nat.le_of_ble_eq_true rfl) rfl) fun o h => ⟨o, h.1⟩) <|
    ww (p := layL [(Value.int .u64 (y4_.1)), (Value.int .u64 (y4_.2.1)), (Value.int .u64 (y4_.2.2.1)), (Value.int .u64 (y4_.2.2.2))] (((w64 (x7 - 1))).toNat * 4) (layT (rows rw_uuuu ((x0).set (x7).toNat y7_))) = layT (rows rw_uuuu ((((x0).set (x7).toNat y7_)).set ((w64 (x7 - 1))).toNat y4_))) (Exists.elim (qcx_ rwf_uuuu (0, 0, 0, 0) (i := ((w64 (x7 - 1))).toNat) (j := 0) (l := [(Value.int .u64 (y4_.1)), (Value.int .u64 (y4_.2.1)), (Value.int .u64 (y4_.2.2.1)), (Value.int .u64 (y4_.2.2.2))]) y4_ (((w64 (x7 - 1))).toNat * 4) rfl (hy10) (Nat.le_of_ble_eq_true rfl) rfl) fun o h => h.2) <|
    ww (qa_ rwf_uuuu ((((x0).set (x7).toNat y7_)).set ((w64 (x7 - 1))).toNat y4_) 24) <|
    ee) (by kernel_rfl)
  ·rw [if_neg hy9] at h
   obtain rfl := oI h
   exact runC2 hm ⟨[0, 1, 2, 3, 9, 10], [(0, 0, true)], 1, 0, [], false, [], [], []⟩ (k0 <|
    zz 20 (xdF hy9) <|
    ww (qa_ rwf_uuuu x0 24) <|
    ee) (by kernel_rfl)
 ·rw [if_neg hy1] at h
  obtain rfl := oI h
  exact runC2 hm ⟨[0, 1, 2, 3, 9, 10], [(0, 0, true)], 1, 0, [], false, [], [], []⟩ (zz 3 (xdF hy1) <|
   ww (qa_ rwf_uuuu x0 24) <|
   ee) (by kernel_rfl)
theorem qhi_ (n : Nat) {rnd : Option Nat} (x1 : Nat) (x2 : Nat) (x3 : Int) (x4 : Int) (x5 : Int) (x6 : Int) (st : List (Int × Int × Int × Int) × Int) (r : List (Int × Int × Int × Int)) (h : qc4_ n x1 x2 x3 x4 x5 x6 st = some r) : CG P rnd (fnN P 51) 1 (qt_ P 51 [false, true, false, true, false, true, true, true, true, false, false, true, false, false, true, false, true, true]) (qz_ x1 x2 x3 x4 x5 x6 st) (q0_ x1 x2 x3 x4 x5 x6 r) :=
 CG.iter (b := qt_ P 51 [false, false, true, false, true, false, true, true, true, true, false, false, true, false, false, true, false, true, true]) (by kernel_rfl) (body := qs_ n x1 x2 x3 x4 x5 x6) (S := qz_ x1 x2 x3 x4 x5 x6) (X := q0_ x1 x2 x3 x4 x5 x6)
  (fun s s' h => qe5_ n x1 x2 x3 x4 x5 x6 s (.inl s') h)
  (fun s r h => qe5_ n x1 x2 x3 x4 x5 x6 s (.inr r) h)
  (fun r => by intro hx; cases hx) h
def q1_ (x1 : Nat) (x2 : Nat) (x3 : Int) (x4 : Int) (x5 : Int) (x6 : Int) (st : List (Int × Int × Int × Int) × Int) : XSt := match st with
 | (x0, x7) => (sT 141 [(0, (sN 0 0 x1 x2)), (1, (i6 x3)), (2, (i6 x4)), (3, (Value.func (.func 38) #[] #[])), (9, (i6 x5)), (10, (i6 x6)), (12, (i6 x7))], [], ⟨sB [(0, (some (.cells (layT (rows rw_uuuu x0)) 24)))], 1, 0⟩)
def qp_ (x1 : Nat) (x2 : Nat) (x3 : Int) (x4 : Int) (x5 : Int) (x6 : Int) (r : List (Int × Int × Int × Int)) : Ex × XSt := match r with
 | z0 => (.exit 6, (sT 141 [(0, (sN 0 0 x1 x2)), (1, (i6 x3)), (2, (i6 x4)), (3, (Value.func (.func 38) #[] #[])), (9, (i6 x5)), (10, (i6 x6))], [], ⟨sB [(0, (some (.cells (layT (rows rw_uuuu z0)) 24)))], 1, 0⟩))
abbrev qn1_ (rnd : Option Nat) (x1 : Nat) (x2 : Nat) (x3 : Int) (x4 : Int) (x5 : Int) (x6 : Int) (st : List (Int × Int × Int × Int) × Int) (c : Ex × XSt) : Prop := CG P rnd (fnN P 51) 1 (qt_ P 51 [false, false, true, false, true, true, true, true, true, true, false, false, true, false, false, true, false, true, true]) (q1_ x1 x2 x3 x4 x5 x6 st) c
abbrev qe6_ (rd : Option Nat) (x1 : Nat) (x2 : Nat) (x3 : Int) (x4 : Int) (x5 : Int) (x6 : Int) (st : List (Int × Int × Int × Int) × Int) (r : List (Int × Int × Int × Int)) : Prop := CG P rd (fnN P 51) 1 (qt_ P 51 [false, true, false, true, true, true, true, true, true, false, false, true, false, false, true, false, true, true]) (q1_ x1 x2 x3 x4 x5 x6 st) (qp_ x1 x2 x3 x4 x5 x6 r)
def q2_ (n : Nat) (x1 : Nat) (x2 : Nat) (x3 : Int) (x4 : Int) (x5 : Int) (x6 : Int) (st : List (Int × Int × Int × Int) × Int) : Option ((List (Int × Int × Int × Int) × Int) ⊕ (List (Int × Int × Int × Int))) := match st with
 | (x0, x7) =>
  if x7 < x4 then
   if 0 ≤ x7 ∧ x7 < ((x1 : Nat) : Int) then
    if (x7).toNat < (x0).length then
     ((some ((x0).getD (x7).toNat (0, 0, 0, 0)))).bind fun y4_ =>
     if 0 ≤ (w64 (x7 - 1)) ∧ (w64 (x7 - 1)) < ((x1 : Nat) : Int) then
      if ((w64 (x7 - 1))).toNat < (x0).length then
       ((some ((x0).getD ((w64 (x7 - 1))).toNat (0, 0, 0, 0)))).bind fun y7_ =>
       (qd_ n (y4_.1) (y4_.2.1) (y4_.2.2.1) (y4_.2.2.2) (y7_.1) (y7_.2.1) (y7_.2.2.1) (y7_.2.2.2)).bind fun y8_ =>
       if y8_ < 0 then
        if ((w64 (x7 - 1))).toNat < (((x0).set (x7).toNat y7_)).length then
         some (.inl (((((x0).set (x7).toNat y7_)).set ((w64 (x7 - 1))).toNat y4_), (w64 (x7 + 1))))
        else none
       else
        some (.inr x0)
      else none
     else none
    else none
   else none
  else
   some (.inr x0)
def q3_ (n : Nat) (x1 : Nat) (x2 : Nat) (x3 : Int) (x4 : Int) (x5 : Int) (x6 : Int) (st : List (Int × Int × Int × Int) × Int) : Option (List (Int × Int × Int × Int)) := iterM (q2_ n x1 x2 x3 x4 x5 x6) n st
theorem qe7_ (n : Nat) {rnd : Option Nat} (x1 : Nat) (x2 : Nat) (x3 : Int) (x4 : Int) (x5 : Int) (x6 : Int) (st : List (Int × Int × Int × Int) × Int) (o : (List (Int × Int × Int × Int) × Int) ⊕ (List (Int × Int × Int × Int))) (h : q2_ n x1 x2 x3 x4 x5 x6 st = some o) : CG P rnd (fnN P 51) 1 (qt_ P 51 [false, false, true, false, true, true, true, true, true, true, false, false, true, false, false, true, false, true, true]) (q1_ x1 x2 x3 x4 x5 x6 st) (Sum.elim (fun s => (.normal, q1_ x1 x2 x3 x4 x5 x6 s)) (fun r => qp_ x1 x2 x3 x4 x5 x6 r) o) := by
 obtain ⟨x0, x7⟩ := st
 unfold q2_ at h
 dsimp only at h
 by_cases hy1 : x7 < x4
 ·rw [if_pos hy1] at h
  obtain ⟨hy2, h⟩ := gd h
  obtain ⟨hy3, h⟩ := gd h
  obtain ⟨y4_, hy4, h⟩ := oB h
  obtain ⟨hy5, h⟩ := gd h
  obtain ⟨hy6, h⟩ := gd h
  obtain ⟨y7_, hy7, h⟩ := oB h
  obtain ⟨y8_, hy8, h⟩ := oB h
  have k0 := fun {A L l} (k : PL A L l) => zz 4 (xdT hy1) <|
   zz 13 (xk3 0 x2 hy2) <|
   yy 14 (.ld (Value.agg #[(Value.int .u64 (y4_.1)), (Value.int .u64 (y4_.2.1)), (Value.int .u64 (y4_.2.2.1)), (Value.int .u64 (y4_.2.2.2))])) <|
   ww (p := rdT (layT (rows rw_uuuu x0)) 4 ((x7).toNat * 4) = some [(Value.int .u64 (y4_.1)), (Value.int .u64 (y4_.2.1)), (Value.int .u64 (y4_.2.2.1)), (Value.int .u64 (y4_.2.2.2))]) (qn_ rwf_uuuu (0, 0, 0, 0) (hr := hy4) (i := (x7).toNat) (j := 0) ((x7).toNat * 4) rfl (hy3) (by decide) rfl) <|
   zz 18 (xk3 0 x2 hy5) <|
   yy 19 (.ld (Value.agg #[(Value.int .u64 (y7_.1)), (Value.int .u64 (y7_.2.1)), (Value.int .u64 (y7_.2.2.1)), (Value.int .u64 (y7_.2.2.2))])) <|
   ww (p := rdT (layT (rows rw_uuuu x0)) 4 (((w64 (x7 - 1))).toNat * 4) = some [(Value.int .u64 (y7_.1)), (Value.int .u64 (y7_.2.1)), (Value.int .u64 (y7_.2.2.1)), (Value.int .u64 (y7_.2.2.2))]) (qn_ rwf_uuuu (0, 0, 0, 0) (hr := hy7) (i := ((w64 (x7 - 1))).toNat) (j := 0) (((w64 (x7 - 1))).toNat * 4) rfl (hy6) (by decide) rfl) <|
   yy 20 (.call (qbg_ (y4_.1) (y4_.2.1) (y4_.2.2.1) (y4_.2.2.2) (y7_.1) (y7_.2.1) (y7_.2.2.1) (y7_.2.2.2) y8_ [] [])) <|
   ww (qw_ n (y4_.1) (y4_.2.1) (y4_.2.2.1) (y4_.2.2.2) (y7_.1) (y7_.2.1) (y7_.2.2.1) (y7_.2.2.2) y8_ hy8) <|
   k
  by_cases hy9 : y8_ < 0
  ·rw [if_pos hy9] at h
   obtain ⟨hy10, h⟩ := gd h
   obtain rfl := oI h
   exact runC2 hm ⟨[0, 1, 2, 3, 9, 10, 12], [(0, 0, true)], 1, 0, [], false, [], [], []⟩ (k0 <|
    zz 21 (xdT hy9) <|
    zz 32 (xk3 0 x2 hy5) <|
    yy 33 (.ld (Value.agg #[(Value.int .u64 (y7_.1)), (Value.int .u64 (y7_.2.1)), (Value.int .u64 (y7_.2.2.1)), (Value.int .u64 (y7_.2.2.2))])) <|
    ww (p := rdT (layT (rows rw_uuuu x0)) 4 (((w64 (x7 - 1))).toNat * 4) = some [(Value.int .u64 (y7_.1)), (Value.int .u64 (y7_.2.1)), (Value.int .u64 (y7_.2.2.1)), (Value.int .u64 (y7_.2.2.2))]) (qn_ rwf_uuuu (0, 0, 0, 0) (hr := hy7) (i := ((w64 (x7 - 1))).toNat) (j := 0) (((w64 (x7 - 1))).toNat * 4) rfl (hy6) (by decide) rfl) <|
    zz 36 (xk3 0 x2 hy2) <|
    yy 37 (.ld (Value.agg #[(Value.int .u64 (y4_.1)), (Value.int .u64 (y4_.2.1)), (Value.int .u64 (y4_.2.2.1)), (Value.int .u64 (y4_.2.2.2))])) <|
    ww (p := rdT (layT (rows rw_uuuu x0)) 4 ((x7).toNat * 4) = some [(Value.int .u64 (y4_.1)), (Value.int .u64 (y4_.2.1)), (Value.int .u64 (y4_.2.2.1)), (Value.int .u64 (y4_.2.2.2))]) (qn_ rwf_uuuu (0, 0, 0, 0) (hr := hy4) (i := (x7).toNat) (j := 0) ((x7).toNat * 4) rfl (hy3) (by decide) rfl) <|
    zz 38 (xk3 0 x2 hy2) <|
    yy 39 (.sto (layT (rows rw_uuuu ((x0).set (x7).toNat y7_)))) <|
    ww (p := ∃ old, rdT (layT (rows rw_uuuu x0)) 4 ((x7).toNat * 4) = some old) (Exists.elim (qcx_ rwf_uuuu (0, 0, 0, 0) (i := (x7).toNat) (j := 0) (l := [(Value.int .u64 (y7_.1)), (Value.int .u64 (y7_.2.1)), (Value.int .u64 (y7_.2.2.1)), (Value.int .u64 (y7_.2.2.2))]) y7_ ((x7).toNat * 4) rfl (hy3) (Nat.le_of_ble_eq_true rfl) rfl) fun o h => ⟨o, h.1⟩) <|
    ww (p := layL [(Value.int .u64 (y7_.1)), (Value.int .u64 (y7_.2.1)), (Value.int .u64 (y7_.2.2.1)), (Value.int .u64 (y7_.2.2.2))] ((x7).toNat * 4) (layT (rows rw_uuuu x0)) = layT (rows rw_uuuu ((x0).set (x7).toNat y7_))) (Exists.elim (qcx_ rwf_uuuu (0, 0, 0, 0) (i := (x7).toNat) (j := 0) (l := [(Value.int .u64 (y7_.1)), (Value.int .u64 (y7_.2.1)), (Value.int .u64 (y7_.2.2.1)), (Value.int .u64 (y7_.2.2.2))]) y7_ ((x7).toNat * 4) rfl (hy3) (Nat.le_of_ble_eq_true rfl) rfl) fun o h => h.2) <|
    zz 40 (xk3 0 x2 hy5) <|
    yy 41 (.sto (layT (rows rw_uuuu ((((x0).set (x7).toNat y7_)).set ((w64 (x7 - 1))).toNat y4_)))) <|
    ww (p := ∃ old, rdT (layT (rows rw_uuuu ((x0).set (x7).toNat y7_))) 4 (((w64 (x7 - 1))).toNat * 4) = some old) (Exists.elim (qcx_ rwf_uuuu (0, 0, 0, 0) (i := ((w64 (x7 - 1))).toNat) (j := 0) (l := [(Value.int .u64 (y4_.1)), (Value.int .u64 (y4_.2.1)), (Value.int .u64 (y4_.2.2.1)), (Value.int .u64 (y4_.2.2.2))]) y4_ (((w64 (x7 - 1))).toNat * 4) rfl (hy10) (Nat.le_of_ble_eq_true rfl) rfl) fun o h => ⟨o, h.1⟩) <|
    ww (p := layL [(Value.int .u64 (y4_.1)), (Value.int .u64 (y4_.2.1)), (Value.int .u64 (y4_.2.2.1)), (Value.int .u64 (y4_.2.2.2))] (((w64 (x7 - 1))).toNat * 4) (layT (rows rw_uuuu ((x0).set (x7).toNat y7_))) = layT (rows rw_uuuu ((((x0).set (x7).toNat y7_)).set ((w64 (x7 - 1))).toNat y4_))) (Exists.elim (qcx_ rwf_uuuu (0, 0, 0, 0) (i := ((w64 (x7 - 1))).toNat) (j := 0) (l := [(Value.int .u64 (y4_.1)), (Value.int .u64 (y4_.2.1)), (Value.int .u64 (y4_.2.2.1)), (Value.int .u64 (y4_.2.2.2))]) y4_ (((w64 (x7 - 1))).toNat * 4) rfl (hy10) (Nat.le_of_ble_eq_true rfl) rfl) fun o h => h.2) <|
    ww (qa_ rwf_uuuu ((((x0).set (x7).toNat y7_)).set ((w64 (x7 - 1))).toNat y4_) 24) <|
    ee) (by kernel_rfl)
  ·rw [if_neg hy9] at h
   obtain rfl := oI h
   exact runC2 hm ⟨[0, 1, 2, 3, 9, 10], [(0, 0, true)], 1, 0, [], false, [], [], []⟩ (k0 <|
    zz 21 (xdF hy9) <|
    ww (qa_ rwf_uuuu x0 24) <|
    ee) (by kernel_rfl)
 ·rw [if_neg hy1] at h
  obtain rfl := oI h
  exact runC2 hm ⟨[0, 1, 2, 3, 9, 10], [(0, 0, true)], 1, 0, [], false, [], [], []⟩ (zz 4 (xdF hy1) <|
   ww (qa_ rwf_uuuu x0 24) <|
   ee) (by kernel_rfl)
theorem qek_ (n : Nat) {rnd : Option Nat} (x1 : Nat) (x2 : Nat) (x3 : Int) (x4 : Int) (x5 : Int) (x6 : Int) (st : List (Int × Int × Int × Int) × Int) (r : List (Int × Int × Int × Int)) (h : q3_ n x1 x2 x3 x4 x5 x6 st = some r) : CG P rnd (fnN P 51) 1 (qt_ P 51 [false, true, false, true, true, true, true, true, true, false, false, true, false, false, true, false, true, true]) (q1_ x1 x2 x3 x4 x5 x6 st) (qp_ x1 x2 x3 x4 x5 x6 r) :=
 CG.iter (b := qt_ P 51 [false, false, true, false, true, true, true, true, true, true, false, false, true, false, false, true, false, true, true]) (by kernel_rfl) (body := q2_ n x1 x2 x3 x4 x5 x6) (S := q1_ x1 x2 x3 x4 x5 x6) (X := qp_ x1 x2 x3 x4 x5 x6)
  (fun s s' h => qe7_ n x1 x2 x3 x4 x5 x6 s (.inl s') h)
  (fun s r h => qe7_ n x1 x2 x3 x4 x5 x6 s (.inr r) h)
  (fun r => by intro hx; cases hx) h
def q4_ (x0 : List (Int × Int × Int × Int)) (x1 : Nat) (x2 : Nat) (x3 : Int) (x4 : Int) (x6 : Int) (st : Int) : XSt := match st with
 | x5 => (sT 141 [(0, (sN 0 0 x1 x2)), (1, (i6 x3)), (2, (i6 x4)), (3, (Value.func (.func 38) #[] #[])), (9, (i6 x5)), (10, (i6 x6))], [], ⟨sB [(0, (some (.cells (layT (rows rw_uuuu x0)) 24)))], 1, 0⟩)
def q5_ (x0 : List (Int × Int × Int × Int)) (x1 : Nat) (x2 : Nat) (x3 : Int) (x4 : Int) (x6 : Int) (r : Int) : Ex × XSt := match r with
 | z0 => (.exit 2, (sT 141 [(0, (sN 0 0 x1 x2)), (1, (i6 x3)), (2, (i6 x4)), (3, (Value.func (.func 38) #[] #[])), (9, (i6 z0)), (10, (i6 x6))], [], ⟨sB [(0, (some (.cells (layT (rows rw_uuuu x0)) 24)))], 1, 0⟩))
abbrev qn2_ (rnd : Option Nat) (x0 : List (Int × Int × Int × Int)) (x1 : Nat) (x2 : Nat) (x3 : Int) (x4 : Int) (x6 : Int) (st : Int) (c : Ex × XSt) : Prop := CG P rnd (fnN P 51) 1 (qt_ P 51 [false, false, false, false, false, true, false, false, true, false, true, true]) (q4_ x0 x1 x2 x3 x4 x6 st) c
abbrev qik_ (rd : Option Nat) (x0 : List (Int × Int × Int × Int)) (x1 : Nat) (x2 : Nat) (x3 : Int) (x4 : Int) (x6 : Int) (st : Int) (r : Int) : Prop := CG P rd (fnN P 51) 1 (qt_ P 51 [false, false, false, false, true, false, false, true, false, true, true]) (q4_ x0 x1 x2 x3 x4 x6 st) (q5_ x0 x1 x2 x3 x4 x6 r)
def q6_ (n : Nat) (x0 : List (Int × Int × Int × Int)) (x1 : Nat) (x2 : Nat) (x3 : Int) (x4 : Int) (x6 : Int) (st : Int) : Option ((Int) ⊕ (Int)) := match st with
 | x5 =>
  if x5 < x4 then
   if 0 ≤ x5 ∧ x5 < ((x1 : Nat) : Int) then
    if (x5).toNat < (x0).length then
     ((some ((x0).getD (x5).toNat (0, 0, 0, 0)))).bind fun y4_ =>
     if 0 ≤ (w64 (x5 - 1)) ∧ (w64 (x5 - 1)) < ((x1 : Nat) : Int) then
      if ((w64 (x5 - 1))).toNat < (x0).length then
       ((some ((x0).getD ((w64 (x5 - 1))).toNat (0, 0, 0, 0)))).bind fun y7_ =>
       (qd_ n (y4_.1) (y4_.2.1) (y4_.2.2.1) (y4_.2.2.2) (y7_.1) (y7_.2.1) (y7_.2.2.1) (y7_.2.2.2)).bind fun y8_ =>
       if y8_ < 0 then
        some (.inr x5)
       else
        some (.inl (w64 (x5 + 1)))
      else none
     else none
    else none
   else none
  else
   some (.inr x5)
def qdu_ (n : Nat) (x0 : List (Int × Int × Int × Int)) (x1 : Nat) (x2 : Nat) (x3 : Int) (x4 : Int) (x6 : Int) (st : Int) : Option (Int) := iterM (q6_ n x0 x1 x2 x3 x4 x6) n st
theorem qe8_ (n : Nat) {rnd : Option Nat} (x0 : List (Int × Int × Int × Int)) (x1 : Nat) (x2 : Nat) (x3 : Int) (x4 : Int) (x6 : Int) (x5 : Int) (o : (Int) ⊕ (Int)) (h : q6_ n x0 x1 x2 x3 x4 x6 x5 = some o) : CG P rnd (fnN P 51) 1 (qt_ P 51 [false, false, false, false, false, true, false, false, true, false, true, true]) (q4_ x0 x1 x2 x3 x4 x6 x5) (Sum.elim (fun s => (.normal, q4_ x0 x1 x2 x3 x4 x6 s)) (fun r => q5_ x0 x1 x2 x3 x4 x6 r) o) := by
 unfold q6_ at h
 dsimp only at h
 by_cases hy1 : x5 < x4
 ·rw [if_pos hy1] at h
  obtain ⟨hy2, h⟩ := gd h
  obtain ⟨hy3, h⟩ := gd h
  obtain ⟨y4_, hy4, h⟩ := oB h
  obtain ⟨hy5, h⟩ := gd h
  obtain ⟨hy6, h⟩ := gd h
  obtain ⟨y7_, hy7, h⟩ := oB h
  obtain ⟨y8_, hy8, h⟩ := oB h
  have k0 := fun {A L l} (k : PL A L l) => zz 4 (xdT hy1) <|
   zz 9 (xk3 0 x2 hy2) <|
   yy 10 (.ld (Value.agg #[(Value.int .u64 (y4_.1)), (Value.int .u64 (y4_.2.1)), (Value.int .u64 (y4_.2.2.1)), (Value.int .u64 (y4_.2.2.2))])) <|
   ww (p := rdT (layT (rows rw_uuuu x0)) 4 ((x5).toNat * 4) = some [(Value.int .u64 (y4_.1)), (Value.int .u64 (y4_.2.1)), (Value.int .u64 (y4_.2.2.1)), (Value.int .u64 (y4_.2.2.2))]) (qn_ rwf_uuuu (0, 0, 0, 0) (hr := hy4) (i := (x5).toNat) (j := 0) ((x5).toNat * 4) rfl (hy3) (by decide) rfl) <|
   zz 14 (xk3 0 x2 hy5) <|
   yy 15 (.ld (Value.agg #[(Value.int .u64 (y7_.1)), (Value.int .u64 (y7_.2.1)), (Value.int .u64 (y7_.2.2.1)), (Value.int .u64 (y7_.2.2.2))])) <|
   ww (p := rdT (layT (rows rw_uuuu x0)) 4 (((w64 (x5 - 1))).toNat * 4) = some [(Value.int .u64 (y7_.1)), (Value.int .u64 (y7_.2.1)), (Value.int .u64 (y7_.2.2.1)), (Value.int .u64 (y7_.2.2.2))]) (qn_ rwf_uuuu (0, 0, 0, 0) (hr := hy7) (i := ((w64 (x5 - 1))).toNat) (j := 0) (((w64 (x5 - 1))).toNat * 4) rfl (hy6) (by decide) rfl) <|
   yy 16 (.call (qbg_ (y4_.1) (y4_.2.1) (y4_.2.2.1) (y4_.2.2.2) (y7_.1) (y7_.2.1) (y7_.2.2.1) (y7_.2.2.2) y8_ [] [])) <|
   ww (qw_ n (y4_.1) (y4_.2.1) (y4_.2.2.1) (y4_.2.2.2) (y7_.1) (y7_.2.1) (y7_.2.2.1) (y7_.2.2.2) y8_ hy8) <|
   k
  by_cases hy9 : y8_ < 0
  ·rw [if_pos hy9] at h
   obtain rfl := oI h
   exact runC2 hm ⟨[0, 1, 2, 3, 9, 10], [(0, 0, true)], 1, 0, [], false, [], [], []⟩ (k0 <|
    zz 17 (xdT hy9) <|
    ww (qa_ rwf_uuuu x0 24) <|
    ee) (by kernel_rfl)
  ·rw [if_neg hy9] at h
   obtain rfl := oI h
   exact runC2 hm ⟨[0, 1, 2, 3, 9, 10], [(0, 0, true)], 1, 0, [], false, [], [], []⟩ (k0 <|
    zz 17 (xdF hy9) <|
    ww (qa_ rwf_uuuu x0 24) <|
    ee) (by kernel_rfl)
 ·rw [if_neg hy1] at h
  obtain rfl := oI h
  exact runC2 hm ⟨[0, 1, 2, 3, 9, 10], [(0, 0, true)], 1, 0, [], false, [], [], []⟩ (zz 4 (xdF hy1) <|
   ww (qa_ rwf_uuuu x0 24) <|
   ee) (by kernel_rfl)
theorem qhj_ (n : Nat) {rnd : Option Nat} (x0 : List (Int × Int × Int × Int)) (x1 : Nat) (x2 : Nat) (x3 : Int) (x4 : Int) (x6 : Int) (st : Int) (r : Int) (h : qdu_ n x0 x1 x2 x3 x4 x6 st = some r) : CG P rnd (fnN P 51) 1 (qt_ P 51 [false, false, false, false, true, false, false, true, false, true, true]) (q4_ x0 x1 x2 x3 x4 x6 st) (q5_ x0 x1 x2 x3 x4 x6 r) :=
 CG.iter (b := qt_ P 51 [false, false, false, false, false, true, false, false, true, false, true, true]) (by kernel_rfl) (body := q6_ n x0 x1 x2 x3 x4 x6) (S := q4_ x0 x1 x2 x3 x4 x6) (X := q5_ x0 x1 x2 x3 x4 x6)
  (fun s s' h => qe8_ n x0 x1 x2 x3 x4 x6 s (.inl s') h)
  (fun s r h => qe8_ n x0 x1 x2 x3 x4 x6 s (.inr r) h)
  (fun r => by intro hx; cases hx) h
def q7_ (x1 : Nat) (x2 : Nat) (x3 : Int) (x4 : Int) (st : List (Int × Int × Int × Int) × Int × Int) : XSt := match st with
 | (x0, x5, x6) => (sT 141 [(0, (sN 0 0 x1 x2)), (1, (i6 x3)), (2, (i6 x4)), (3, (Value.func (.func 38) #[] #[])), (9, (i6 x5)), (10, (i6 x6))], [], ⟨sB [(0, (some (.cells (layT (rows rw_uuuu x0)) 24)))], 1, 0⟩)
def qq_ (x1 : Nat) (x2 : Nat) (x3 : Int) (x4 : Int) (r : (List (Int × Int × Int × Int) × Bool) ⊕ (List (Int × Int × Int × Int))) : Ex × XSt := match r with
 | .inl (z0, z1) => (.ret, (sT 141 [(8, (bO z1))], [], ⟨sB [(0, (some (.cells (layT (rows rw_uuuu z0)) 24)))], 1, 0⟩))
 | .inr z0 => (.exit 0, (sT 141 [], [], ⟨sB [(0, (some (.cells (layT (rows rw_uuuu z0)) 24)))], 1, 0⟩))
abbrev qn3_ (rnd : Option Nat) (x1 : Nat) (x2 : Nat) (x3 : Int) (x4 : Int) (st : List (Int × Int × Int × Int) × Int × Int) (c : Ex × XSt) : Prop := CG P rnd (fnN P 51) 1 (qt_ P 51 [false, false, true, false, true, true]) (q7_ x1 x2 x3 x4 st) c
abbrev qe9_ (rd : Option Nat) (x1 : Nat) (x2 : Nat) (x3 : Int) (x4 : Int) (st : List (Int × Int × Int × Int) × Int × Int) (r : (List (Int × Int × Int × Int) × Bool) ⊕ (List (Int × Int × Int × Int))) : Prop := CG P rd (fnN P 51) 1 (qt_ P 51 [false, true, false, true, true]) (q7_ x1 x2 x3 x4 st) (qq_ x1 x2 x3 x4 r)
def qm_ (n : Nat) (x1 : Nat) (x2 : Nat) (x3 : Int) (x4 : Int) (st : List (Int × Int × Int × Int) × Int × Int) : Option ((List (Int × Int × Int × Int) × Int × Int) ⊕ ((List (Int × Int × Int × Int) × Bool) ⊕ (List (Int × Int × Int × Int)))) := match st with
 | (x0, x5, x6) =>
  if x6 < 5 then
   (qdu_ n x0 x1 x2 x3 x4 x6 x5).bind fun y2_ =>
   if y2_ = x4 then
    some (.inr (.inl (x0, true)))
   else
    if (w64 (x4 - x3)) < 50 then
     some (.inr (.inl (x0, false)))
    else
     if 0 ≤ (w64 (y2_ - 1)) ∧ (w64 (y2_ - 1)) < ((x1 : Nat) : Int) then
      if ((w64 (y2_ - 1))).toNat < (x0).length then
       ((some ((x0).getD ((w64 (y2_ - 1))).toNat (0, 0, 0, 0)))).bind fun y7_ =>
       if 0 ≤ y2_ ∧ y2_ < ((x1 : Nat) : Int) then
        if (y2_).toNat < (x0).length then
         ((some ((x0).getD (y2_).toNat (0, 0, 0, 0)))).bind fun y10_ =>
         if ((w64 (y2_ - 1))).toNat < (((x0).set (y2_).toNat y7_)).length then
          if (w64 (y2_ - x3)) ≥ 2 then
           (qc4_ n x1 x2 x3 x4 y2_ x6 (((((x0).set (y2_).toNat y7_)).set ((w64 (y2_ - 1))).toNat y10_), (w64 (y2_ - 1)))).bind fun y13_ =>
           if (w64 (x4 - y2_)) ≥ 2 then
            (q3_ n x1 x2 x3 x4 y2_ x6 (y13_, (w64 (y2_ + 1)))).bind fun y15_ =>
            some (.inl (y15_, y2_, (w64 (x6 + 1))))
           else
            some (.inl (y13_, y2_, (w64 (x6 + 1))))
          else
           if (w64 (x4 - y2_)) ≥ 2 then
            (q3_ n x1 x2 x3 x4 y2_ x6 (((((x0).set (y2_).toNat y7_)).set ((w64 (y2_ - 1))).toNat y10_), (w64 (y2_ + 1)))).bind fun y14_ =>
            some (.inl (y14_, y2_, (w64 (x6 + 1))))
           else
            some (.inl (((((x0).set (y2_).toNat y7_)).set ((w64 (y2_ - 1))).toNat y10_), y2_, (w64 (x6 + 1))))
         else none
        else none
       else none
      else none
     else none
  else
   some (.inr (.inr x0))
def qbw_ (n : Nat) (x1 : Nat) (x2 : Nat) (x3 : Int) (x4 : Int) (st : List (Int × Int × Int × Int) × Int × Int) : Option ((List (Int × Int × Int × Int) × Bool) ⊕ (List (Int × Int × Int × Int))) := iterM (qm_ n x1 x2 x3 x4) n st
theorem qfa_ (n : Nat) {rnd : Option Nat} (x1 : Nat) (x2 : Nat) (x3 : Int) (x4 : Int) (st : List (Int × Int × Int × Int) × Int × Int) (o : (List (Int × Int × Int × Int) × Int × Int) ⊕ ((List (Int × Int × Int × Int) × Bool) ⊕ (List (Int × Int × Int × Int)))) (h : qm_ n x1 x2 x3 x4 st = some o) : CG P rnd (fnN P 51) 1 (qt_ P 51 [false, false, true, false, true, true]) (q7_ x1 x2 x3 x4 st) (Sum.elim (fun s => (.normal, q7_ x1 x2 x3 x4 s)) (fun r => qq_ x1 x2 x3 x4 r) o) := by
 obtain ⟨x0, x5, x6⟩ := st
 unfold qm_ at h
 dsimp only at h
 by_cases hy1 : x6 < 5
 ·rw [if_pos hy1] at h
  obtain ⟨y2_, hy2, h⟩ := oB h
  have k0 := fun {A L l} (k : PL A L l) => zz 3 (xdT hy1) <|
   ww (p := qik_ rnd x0 x1 x2 x3 x4 x6 x5 y2_) (qhj_ n x0 x1 x2 x3 x4 x6 x5 y2_ hy2) <|
   ww (qa_ rwf_uuuu x0 24) <|
   ll 9 ⟨⟨[0, 1, 2, 3, 9, 10], [(0, 0, true)], 1, 0, [], false, [], [], []⟩, (q5_ x0 x1 x2 x3 x4 x6 y2_).1, (q5_ x0 x1 x2 x3 x4 x6 y2_).2⟩ <|
   k
  by_cases hy3 : y2_ = x4
  ·rw [if_pos hy3] at h
   obtain rfl := oI h
   exact runC2 hm ⟨[8], [(0, 0, true)], 1, 0, [], false, [], [], []⟩ (k0 <|
    zz 14 (xeT hy3) <|
    ww (qa_ rwf_uuuu x0 24) <|
    ee) (by kernel_rfl)
  ·rw [if_neg hy3] at h
   have k4 := fun {A L l} (k : PL A L l) => zz 14 (xeF hy3) <|
    k
   by_cases hy4 : (w64 (x4 - x3)) < 50
   ·rw [if_pos hy4] at h
    obtain rfl := oI h
    exact runC2 hm ⟨[8], [(0, 0, true)], 1, 0, [], false, [], [], []⟩ (k0 <|
     k4 <|
     zz 21 (xdT hy4) <|
     ww (qa_ rwf_uuuu x0 24) <|
     ee) (by kernel_rfl)
   ·rw [if_neg hy4] at h
    obtain ⟨hy5, h⟩ := gd h
    obtain ⟨hy6, h⟩ := gd h
    obtain ⟨y7_, hy7, h⟩ := oB h
    obtain ⟨hy8, h⟩ := gd h
    obtain ⟨hy9, h⟩ := gd h
    obtain ⟨y10_, hy10, h⟩ := oB h
    obtain ⟨hy11, h⟩ := gd h
    have k5 := fun {A L l} (k : PL A L l) => zz 21 (xdF hy4) <|
     zz 32 (xk3 0 x2 hy5) <|
     yy 33 (.ld (Value.agg #[(Value.int .u64 (y7_.1)), (Value.int .u64 (y7_.2.1)), (Value.int .u64 (y7_.2.2.1)), (Value.int .u64 (y7_.2.2.2))])) <|
     ww (p := rdT (layT (rows rw_uuuu x0)) 4 (((w64 (y2_ - 1))).toNat * 4) = some [(Value.int .u64 (y7_.1)), (Value.int .u64 (y7_.2.1)), (Value.int .u64 (y7_.2.2.1)), (Value.int .u64 (y7_.2.2.2))]) (qn_ rwf_uuuu (0, 0, 0, 0) (hr := hy7) (i := ((w64 (y2_ - 1))).toNat) (j := 0) (((w64 (y2_ - 1))).toNat * 4) rfl (hy6) (by decide) rfl) <|
     zz 36 (xk3 0 x2 hy8) <|
     yy 37 (.ld (Value.agg #[(Value.int .u64 (y10_.1)), (Value.int .u64 (y10_.2.1)), (Value.int .u64 (y10_.2.2.1)), (Value.int .u64 (y10_.2.2.2))])) <|
     ww (p := rdT (layT (rows rw_uuuu x0)) 4 ((y2_).toNat * 4) = some [(Value.int .u64 (y10_.1)), (Value.int .u64 (y10_.2.1)), (Value.int .u64 (y10_.2.2.1)), (Value.int .u64 (y10_.2.2.2))]) (qn_ rwf_uuuu (0, 0, 0, 0) (hr := hy10) (i := (y2_).toNat) (j := 0) ((y2_).toNat * 4) rfl (hy9) (by decide) rfl) <|
     zz 38 (xk3 0 x2 hy8) <|
     yy 39 (.sto (layT (rows rw_uuuu ((x0).set (y2_).toNat y7_)))) <|
     ww (p := ∃ old, rdT (layT (rows rw_uuuu x0)) 4 ((y2_).toNat * 4) = some old) (Exists.elim (qcx_ rwf_uuuu (0, 0, 0, 0) (i := (y2_).toNat) (j := 0) (l := [(Value.int .u64 (y7_.1)), (Value.int .u64 (y7_.2.1)), (Value.int .u64 (y7_.2.2.1)), (Value.int .u64 (y7_.2.2.2))]) y7_ ((y2_).toNat * 4) rfl (hy9) (Nat.le_of_ble_eq_true rfl) rfl) fun o h => ⟨o, h.1⟩) <|
     ww (p := layL [(Value.int .u64 (y7_.1)), (Value.int .u64 (y7_.2.1)), (Value.int .u64 (y7_.2.2.1)), (Value.int .u64 (y7_.2.2.2))] ((y2_).toNat * 4) (layT (rows rw_uuuu x0)) = layT (rows rw_uuuu ((x0).set (y2_).toNat y7_))) (Exists.elim (qcx_ rwf_uuuu (0, 0, 0, 0) (i := (y2_).toNat) (j := 0) (l := [(Value.int .u64 (y7_.1)), (Value.int .u64 (y7_.2.1)), (Value.int .u64 (y7_.2.2.1)), (Value.int .u64 (y7_.2.2.2))]) y7_ ((y2_).toNat * 4) rfl (hy9) (Nat.le_of_ble_eq_true rfl) rfl) fun o h => h.2) <|
     zz 40 (xk3 0 x2 hy5) <|
     yy 41 (.sto (layT (rows rw_uuuu ((((x0).set (y2_).toNat y7_)).set ((w64 (y2_ - 1))).toNat y10_)))) <|
     ww (p := ∃ old, rdT (layT (rows rw_uuuu ((x0).set (y2_).toNat y7_))) 4 (((w64 (y2_ - 1))).toNat * 4) = some old) (Exists.elim (qcx_ rwf_uuuu (0, 0, 0, 0) (i := ((w64 (y2_ - 1))).toNat) (j := 0) (l := [(Value.int .u64 (y10_.1)), (Value.int .u64 (y10_.2.1)), (Value.int .u64 (y10_.2.2.1)), (Value.int .u64 (y10_.2.2.2))]) y10_ (((w64 (y2_ - 1))).toNat * 4) rfl (hy11) (Nat.le_of_ble_eq_true rfl) rfl) fun o h => ⟨o, h.1⟩) <|
     ww (p := layL [(Value.int .u64 (y10_.1)), (Value.int .u64 (y10_.2.1)), (Value.int .u64 (y10_.2.2.1)), (Value.int .u64 (y10_.2.2.2))] (((w64 (y2_ - 1))).toNat * 4) (layT (rows rw_uuuu ((x0).set (y2_).toNat y7_))) = layT (rows rw_uuuu ((((x0).set (y2_).toNat y7_)).set ((w64 (y2_ - 1))).toNat y10_))) (Exists.elim (qcx_ rwf_uuuu (0, 0, 0, 0) (i := ((w64 (y2_ - 1))).toNat) (j := 0) (l := [(Value.int .u64 (y10_.1)), (Value.int .u64 (y10_.2.1)), (Value.int .u64 (y10_.2.2.1)), (Value.int .u64 (y10_.2.2.2))]) y10_ (((w64 (y2_ - 1))).toNat * 4) rfl (hy11) (Nat.le_of_ble_eq_true rfl) rfl) fun o h => h.2) <|
     k
    by_cases hy12 : (w64 (y2_ - x3)) ≥ 2
    ·rw [if_pos hy12] at h
     obtain ⟨y13_, hy13, h⟩ := oB h
     have k20 := fun {A L l} (k : PL A L l) => zz 47 (xdT hy12) <|
      ww (p := qij_ rnd x1 x2 x3 x4 y2_ x6 (((((x0).set (y2_).toNat y7_)).set ((w64 (y2_ - 1))).toNat y10_), (w64 (y2_ - 1))) y13_) (qhi_ n x1 x2 x3 x4 y2_ x6 (((((x0).set (y2_).toNat y7_)).set ((w64 (y2_ - 1))).toNat y10_), (w64 (y2_ - 1))) y13_ hy13) <|
      ww (qa_ rwf_uuuu ((((x0).set (y2_).toNat y7_)).set ((w64 (y2_ - 1))).toNat y10_) 24) <|
      ll 54 ⟨⟨[0, 1, 2, 3, 9, 10, 11], [(0, 0, true)], 1, 0, [], false, [], [], []⟩, (q0_ x1 x2 x3 x4 y2_ x6 y13_).1, (q0_ x1 x2 x3 x4 y2_ x6 y13_).2⟩ <|
      k
     by_cases hy14 : (w64 (x4 - y2_)) ≥ 2
     ·rw [if_pos hy14] at h
      obtain ⟨y15_, hy15, h⟩ := oB h
      obtain rfl := oI h
      exact runC2 hm ⟨[0, 1, 2, 3, 9, 10], [(0, 0, true)], 1, 0, [], false, [], [], []⟩ (k0 <|
       k4 <|
       k5 <|
       k20 <|
       zz 59 (xdT hy14) <|
       ww (p := qe6_ rnd x1 x2 x3 x4 y2_ x6 (y13_, (w64 (y2_ + 1))) y15_) (qek_ n x1 x2 x3 x4 y2_ x6 (y13_, (w64 (y2_ + 1))) y15_ hy15) <|
       ww (qa_ rwf_uuuu y13_ 24) <|
       ll 66 ⟨⟨[0, 1, 2, 3, 9, 10, 12], [(0, 0, true)], 1, 0, [], false, [], [], []⟩, (qp_ x1 x2 x3 x4 y2_ x6 y15_).1, (qp_ x1 x2 x3 x4 y2_ x6 y15_).2⟩ <|
       ww (qa_ rwf_uuuu y15_ 24) <|
       ee) (by kernel_rfl)
     ·rw [if_neg hy14] at h
      obtain rfl := oI h
      exact runC2 hm ⟨[0, 1, 2, 3, 9, 10], [(0, 0, true)], 1, 0, [], false, [], [], []⟩ (k0 <|
       k4 <|
       k5 <|
       k20 <|
       zz 59 (xdF hy14) <|
       ww (qa_ rwf_uuuu y13_ 24) <|
       ee) (by kernel_rfl)
    ·rw [if_neg hy12] at h
     have k20 := fun {A L l} (k : PL A L l) => zz 47 (xdF hy12) <|
      k
     by_cases hy13 : (w64 (x4 - y2_)) ≥ 2
     ·rw [if_pos hy13] at h
      obtain ⟨y14_, hy14, h⟩ := oB h
      obtain rfl := oI h
      exact runC2 hm ⟨[0, 1, 2, 3, 9, 10], [(0, 0, true)], 1, 0, [], false, [], [], []⟩ (k0 <|
       k4 <|
       k5 <|
       k20 <|
       zz 53 (xdT hy13) <|
       ww (p := qe6_ rnd x1 x2 x3 x4 y2_ x6 (((((x0).set (y2_).toNat y7_)).set ((w64 (y2_ - 1))).toNat y10_), (w64 (y2_ + 1))) y14_) (qek_ n x1 x2 x3 x4 y2_ x6 (((((x0).set (y2_).toNat y7_)).set ((w64 (y2_ - 1))).toNat y10_), (w64 (y2_ + 1))) y14_ hy14) <|
       ww (qa_ rwf_uuuu ((((x0).set (y2_).toNat y7_)).set ((w64 (y2_ - 1))).toNat y10_) 24) <|
       ll 60 ⟨⟨[0, 1, 2, 3, 9, 10, 12], [(0, 0, true)], 1, 0, [], false, [], [], []⟩, (qp_ x1 x2 x3 x4 y2_ x6 y14_).1, (qp_ x1 x2 x3 x4 y2_ x6 y14_).2⟩ <|
       ww (qa_ rwf_uuuu y14_ 24) <|
       ee) (by kernel_rfl)
     ·rw [if_neg hy13] at h
      obtain rfl := oI h
      exact runC2 hm ⟨[0, 1, 2, 3, 9, 10], [(0, 0, true)], 1, 0, [], false, [], [], []⟩ (k0 <|
       k4 <|
       k5 <|
       k20 <|
       zz 53 (xdF hy13) <|
       ww (qa_ rwf_uuuu ((((x0).set (y2_).toNat y7_)).set ((w64 (y2_ - 1))).toNat y10_) 24) <|
       ee) (by kernel_rfl)
 ·rw [if_neg hy1] at h
  obtain rfl := oI h
  exact runC2 hm ⟨[], [(0, 0, true)], 1, 0, [], false, [], [], []⟩ (zz 3 (xdF hy1) <|
   ww (qa_ rwf_uuuu x0 24) <|
   ee) (by kernel_rfl)
theorem qel_ (n : Nat) {rnd : Option Nat} (x1 : Nat) (x2 : Nat) (x3 : Int) (x4 : Int) (st : List (Int × Int × Int × Int) × Int × Int) (r : (List (Int × Int × Int × Int) × Bool) ⊕ (List (Int × Int × Int × Int))) (h : qbw_ n x1 x2 x3 x4 st = some r) : CG P rnd (fnN P 51) 1 (qt_ P 51 [false, true, false, true, true]) (q7_ x1 x2 x3 x4 st) (qq_ x1 x2 x3 x4 r) :=
 CG.iter (b := qt_ P 51 [false, false, true, false, true, true]) (by kernel_rfl) (body := qm_ n x1 x2 x3 x4) (S := q7_ x1 x2 x3 x4) (X := qq_ x1 x2 x3 x4)
  (fun s s' h => qfa_ n x1 x2 x3 x4 s (.inl s') h)
  (fun s r h => qfa_ n x1 x2 x3 x4 s (.inr r) h)
  (fun r => by intro hx; rcases r with _ | _ <;> cases hx) h
def qb8_ (n : Nat) (a0 : List (Int × Int × Int × Int)) (a1 : Nat) (a2 : Nat) (a3 : Int) (a4 : Int) : Option (List (Int × Int × Int × Int) × Bool) :=
 match qbw_ n a1 a2 a3 a4 (a0, (w64 (a3 + 1)), 0) with
 | none => none
 | some (.inl (c1_0, c1_1)) =>
  some (c1_0, c1_1)
 | some (.inr c1_) =>
  some (c1_, false)
theorem qh9_ (n : Nat) (a0 : List (Int × Int × Int × Int)) (a1 : Nat) (a2 : Nat) (a3 : Int) (a4 : Int) (r : List (Int × Int × Int × Int) × Bool) (h : qb8_ n a0 a1 a2 a3 a4 = some r) : Gv P (.func 51) (qfn_ a0 a1 a2 a3 a4) (qfo_ a0 a1 a2 a3 a4) (qdw_ a0 a1 a2 a3 a4 r) (qdx_ a0 a1 a2 a3 a4 r) := by
 unfold qb8_ at h
 rcases hc1 : qbw_ n a1 a2 a3 a4 (a0, (w64 (a3 + 1)), 0) with _ | (⟨c1_0, c1_1⟩ | c1_)
 ·rw [hc1] at h; cases h
 ·rw [hc1] at h
  dsimp only at h
  obtain rfl := oI h
  exact runF2 hm ⟨[8], [(0, 0, true)], 1, 0, [], false, [], [], []⟩ (ww (p := qe9_ none a1 a2 a3 a4 (a0, (w64 (a3 + 1)), 0) (.inl (c1_0, c1_1))) (qel_ n a1 a2 a3 a4 (a0, (w64 (a3 + 1)), 0) (.inl (c1_0, c1_1)) hc1) <|
   ww (qa_ rwf_uuuu a0 24) <|
   ll 10 ⟨⟨[0, 1, 2, 3, 9, 10], [(0, 0, true)], 1, 0, [], false, [], [], []⟩, (qq_ a1 a2 a3 a4 (.inl (c1_0, c1_1))).1, (qq_ a1 a2 a3 a4 (.inl (c1_0, c1_1))).2⟩ <|
   ww (qa_ rwf_uuuu c1_0 24) <|
   ee) (by kernel_rfl)
 ·rw [hc1] at h
  dsimp only at h
  obtain rfl := oI h
  exact runF2 hm ⟨[8], [(0, 0, true)], 1, 0, [], false, [], [], []⟩ (ww (p := qe9_ none a1 a2 a3 a4 (a0, (w64 (a3 + 1)), 0) (.inr c1_)) (qel_ n a1 a2 a3 a4 (a0, (w64 (a3 + 1)), 0) (.inr c1_) hc1) <|
   ww (qa_ rwf_uuuu a0 24) <|
   ll 10 ⟨⟨[0, 1, 2, 3, 9, 10], [(0, 0, true)], 1, 0, [], false, [], [], []⟩, (qq_ a1 a2 a3 a4 (.inr c1_)).1, (qq_ a1 a2 a3 a4 (.inr c1_)).2⟩ <|
   ww (qa_ rwf_uuuu c1_ 24) <|
   ee) (by kernel_rfl)

def qhv_ (a0 : List (Int × Int × Int × Int)) (a1 : Nat) (a2 : Nat) (a3 : Int) (a4 : Int) (a5 : Int) : List Value := [(sN 0 0 a1 a2), (i6 a3), (i6 a4), (i6 a5), (Value.func (.func 38) #[] #[])]
def qhw_ (a0 : List (Int × Int × Int × Int)) (a1 : Nat) (a2 : Nat) (a3 : Int) (a4 : Int) (a5 : Int) : AH := ⟨sB [(0, (some (.cells (layT (rows rw_uuuu a0)) 24)))], 1, 1⟩
def qfp_ (a0 : List (Int × Int × Int × Int)) (a1 : Nat) (a2 : Nat) (a3 : Int) (a4 : Int) (a5 : Int) (r : List (Int × Int × Int × Int) × Int × Bool) : Value := match r with
 | (o0, o1, o2) => (Value.tuple #[(i6 o1), (bO o2)])
def qfq_ (a0 : List (Int × Int × Int × Int)) (a1 : Nat) (a2 : Nat) (a3 : Int) (a4 : Int) (a5 : Int) (r : List (Int × Int × Int × Int) × Int × Bool) : AH := match r with
 | (o0, o1, o2) => ⟨sB [(0, (some (.cells (layT (rows rw_uuuu o0)) 24)))], 1, 0⟩
abbrev qsb_ (a0 : List (Int × Int × Int × Int)) (a1 : Nat) (a2 : Nat) (a3 : Int) (a4 : Int) (a5 : Int) (r : List (Int × Int × Int × Int) × Int × Bool) : Prop := Gv P (.func 53) (qhv_ a0 a1 a2 a3 a4 a5) (qhw_ a0 a1 a2 a3 a4 a5) (qfp_ a0 a1 a2 a3 a4 a5 r) (qfq_ a0 a1 a2 a3 a4 a5 r)
abbrev qly_ (a0 : List (Int × Int × Int × Int)) (a1 : Nat) (a2 : Nat) (a3 : Int) (a4 : Int) (a5 : Int) (r : List (Int × Int × Int × Int) × Int × Bool) (ins outs : BL) : CallA := ⟨1, ins, qfp_ a0 a1 a2 a3 a4 a5 r, qfq_ a0 a1 a2 a3 a4 a5 r, outs⟩
def qcj_ (x0 : List (Int × Int × Int × Int)) (x1 : Nat) (x2 : Nat) (x3 : Int) (x4 : Int) (st : Int) : XSt := match st with
 | x5 => (sT 178 [(0, (sN 0 0 x1 x2)), (1, (i6 x3)), (4, (Value.func (.func 38) #[] #[])), (12, (i6 x4)), (13, (i6 x5))], [], ⟨sB [(0, (some (.cells (layT (rows rw_uuuu x0)) 24)))], 1, 0⟩)
def qck_ (x0 : List (Int × Int × Int × Int)) (x1 : Nat) (x2 : Nat) (x3 : Int) (x4 : Int) (r : Int) : Ex × XSt := match r with
 | z0 => (.exit 8, (sT 178 [(0, (sN 0 0 x1 x2)), (1, (i6 x3)), (4, (Value.func (.func 38) #[] #[])), (12, (i6 x4)), (13, (i6 z0))], [], ⟨sB [(0, (some (.cells (layT (rows rw_uuuu x0)) 24)))], 1, 0⟩))
abbrev qq1_ (rnd : Option Nat) (x0 : List (Int × Int × Int × Int)) (x1 : Nat) (x2 : Nat) (x3 : Int) (x4 : Int) (st : Int) (c : Ex × XSt) : Prop := CG P rnd (fnN P 53) 1 (qt_ P 53 [false, false, false, true, false, false, false, false, true, true, true, true, true, true, true, true, true]) (qcj_ x0 x1 x2 x3 x4 st) c
abbrev qk2_ (rd : Option Nat) (x0 : List (Int × Int × Int × Int)) (x1 : Nat) (x2 : Nat) (x3 : Int) (x4 : Int) (st : Int) (r : Int) : Prop := CG P rd (fnN P 53) 1 (qt_ P 53 [false, false, true, false, false, false, false, true, true, true, true, true, true, true, true, true]) (qcj_ x0 x1 x2 x3 x4 st) (qck_ x0 x1 x2 x3 x4 r)
def qba_ (n : Nat) (x0 : List (Int × Int × Int × Int)) (x1 : Nat) (x2 : Nat) (x3 : Int) (x4 : Int) (st : Int) : Option ((Int) ⊕ (Int)) := match st with
 | x5 =>
  if x4 ≤ x5 then
   if 0 ≤ x5 ∧ x5 < ((x1 : Nat) : Int) then
    if (x5).toNat < (x0).length then
     ((some ((x0).getD (x5).toNat (0, 0, 0, 0)))).bind fun y4_ =>
     if 0 ≤ x3 ∧ x3 < ((x1 : Nat) : Int) then
      if (x3).toNat < (x0).length then
       ((some ((x0).getD (x3).toNat (0, 0, 0, 0)))).bind fun y7_ =>
       (qd_ n (y4_.1) (y4_.2.1) (y4_.2.2.1) (y4_.2.2.2) (y7_.1) (y7_.2.1) (y7_.2.2.1) (y7_.2.2.2)).bind fun y8_ =>
       if y8_ < 0 then
        some (.inr x5)
       else
        some (.inl (w64 (x5 - 1)))
      else none
     else none
    else none
   else none
  else
   some (.inr x5)
def qfd_ (n : Nat) (x0 : List (Int × Int × Int × Int)) (x1 : Nat) (x2 : Nat) (x3 : Int) (x4 : Int) (st : Int) : Option (Int) := iterM (qba_ n x0 x1 x2 x3 x4) n st
theorem qg6_ (n : Nat) {rnd : Option Nat} (x0 : List (Int × Int × Int × Int)) (x1 : Nat) (x2 : Nat) (x3 : Int) (x4 : Int) (x5 : Int) (o : (Int) ⊕ (Int)) (h : qba_ n x0 x1 x2 x3 x4 x5 = some o) : CG P rnd (fnN P 53) 1 (qt_ P 53 [false, false, false, true, false, false, false, false, true, true, true, true, true, true, true, true, true]) (qcj_ x0 x1 x2 x3 x4 x5) (Sum.elim (fun s => (.normal, qcj_ x0 x1 x2 x3 x4 s)) (fun r => qck_ x0 x1 x2 x3 x4 r) o) := by
 unfold qba_ at h
 dsimp only at h
 by_cases hy1 : x4 ≤ x5
 ·rw [if_pos hy1] at h
  obtain ⟨hy2, h⟩ := gd h
  obtain ⟨hy3, h⟩ := gd h
  obtain ⟨y4_, hy4, h⟩ := oB h
  obtain ⟨hy5, h⟩ := gd h
  obtain ⟨hy6, h⟩ := gd h
  obtain ⟨y7_, hy7, h⟩ := oB h
  obtain ⟨y8_, hy8, h⟩ := oB h
  have k0 := fun {A L l} (k : PL A L l) => zz 4 (xdT hy1) <|
   zz 9 (xk3 0 x2 hy2) <|
   yy 10 (.ld (Value.agg #[(Value.int .u64 (y4_.1)), (Value.int .u64 (y4_.2.1)), (Value.int .u64 (y4_.2.2.1)), (Value.int .u64 (y4_.2.2.2))])) <|
   ww (p := rdT (layT (rows rw_uuuu x0)) 4 ((x5).toNat * 4) = some [(Value.int .u64 (y4_.1)), (Value.int .u64 (y4_.2.1)), (Value.int .u64 (y4_.2.2.1)), (Value.int .u64 (y4_.2.2.2))]) (qn_ rwf_uuuu (0, 0, 0, 0) (hr := hy4) (i := (x5).toNat) (j := 0) ((x5).toNat * 4) rfl (hy3) (by decide) rfl) <|
   zz 13 (xk3 0 x2 hy5) <|
   yy 14 (.ld (Value.agg #[(Value.int .u64 (y7_.1)), (Value.int .u64 (y7_.2.1)), (Value.int .u64 (y7_.2.2.1)), (Value.int .u64 (y7_.2.2.2))])) <|
   ww (p := rdT (layT (rows rw_uuuu x0)) 4 ((x3).toNat * 4) = some [(Value.int .u64 (y7_.1)), (Value.int .u64 (y7_.2.1)), (Value.int .u64 (y7_.2.2.1)), (Value.int .u64 (y7_.2.2.2))]) (qn_ rwf_uuuu (0, 0, 0, 0) (hr := hy7) (i := (x3).toNat) (j := 0) ((x3).toNat * 4) rfl (hy6) (by decide) rfl) <|
   yy 15 (.call (qbg_ (y4_.1) (y4_.2.1) (y4_.2.2.1) (y4_.2.2.2) (y7_.1) (y7_.2.1) (y7_.2.2.1) (y7_.2.2.2) y8_ [] [])) <|
   ww (qw_ n (y4_.1) (y4_.2.1) (y4_.2.2.1) (y4_.2.2.2) (y7_.1) (y7_.2.1) (y7_.2.2.1) (y7_.2.2.2) y8_ hy8) <|
   k
  by_cases hy9 : y8_ < 0
  ·rw [if_pos hy9] at h
   obtain rfl := oI h
   exact runC2 hm ⟨[0, 1, 4, 12, 13], [(0, 0, true)], 1, 0, [], false, [], [], []⟩ (k0 <|
    zz 16 (xdT hy9) <|
    ww (qa_ rwf_uuuu x0 24) <|
    ee) (by kernel_rfl)
  ·rw [if_neg hy9] at h
   obtain rfl := oI h
   exact runC2 hm ⟨[0, 1, 4, 12, 13], [(0, 0, true)], 1, 0, [], false, [], [], []⟩ (k0 <|
    zz 16 (xdF hy9) <|
    ww (qa_ rwf_uuuu x0 24) <|
    ee) (by kernel_rfl)
 ·rw [if_neg hy1] at h
  obtain rfl := oI h
  exact runC2 hm ⟨[0, 1, 4, 12, 13], [(0, 0, true)], 1, 0, [], false, [], [], []⟩ (zz 4 (xdF hy1) <|
   ww (qa_ rwf_uuuu x0 24) <|
   ee) (by kernel_rfl)
theorem qka_ (n : Nat) {rnd : Option Nat} (x0 : List (Int × Int × Int × Int)) (x1 : Nat) (x2 : Nat) (x3 : Int) (x4 : Int) (st : Int) (r : Int) (h : qfd_ n x0 x1 x2 x3 x4 st = some r) : CG P rnd (fnN P 53) 1 (qt_ P 53 [false, false, true, false, false, false, false, true, true, true, true, true, true, true, true, true]) (qcj_ x0 x1 x2 x3 x4 st) (qck_ x0 x1 x2 x3 x4 r) :=
 CG.iter (b := qt_ P 53 [false, false, false, true, false, false, false, false, true, true, true, true, true, true, true, true, true]) (by kernel_rfl) (body := qba_ n x0 x1 x2 x3 x4) (S := qcj_ x0 x1 x2 x3 x4) (X := qck_ x0 x1 x2 x3 x4)
  (fun s s' h => qg6_ n x0 x1 x2 x3 x4 s (.inl s') h)
  (fun s r h => qg6_ n x0 x1 x2 x3 x4 s (.inr r) h)
  (fun r => by intro hx; cases hx) h
def qcl_ (x0 : List (Int × Int × Int × Int)) (x1 : Nat) (x2 : Nat) (x3 : Int) (x5 : Int) (st : Int) : XSt := match st with
 | x4 => (sT 178 [(0, (sN 0 0 x1 x2)), (1, (i6 x3)), (4, (Value.func (.func 38) #[] #[])), (12, (i6 x4)), (13, (i6 x5))], [], ⟨sB [(0, (some (.cells (layT (rows rw_uuuu x0)) 24)))], 1, 0⟩)
def qcm_ (x0 : List (Int × Int × Int × Int)) (x1 : Nat) (x2 : Nat) (x3 : Int) (x5 : Int) (r : Int) : Ex × XSt := match r with
 | z0 => (.exit 6, (sT 178 [(0, (sN 0 0 x1 x2)), (1, (i6 x3)), (4, (Value.func (.func 38) #[] #[])), (12, (i6 z0)), (13, (i6 x5))], [], ⟨sB [(0, (some (.cells (layT (rows rw_uuuu x0)) 24)))], 1, 0⟩))
abbrev qq2_ (rnd : Option Nat) (x0 : List (Int × Int × Int × Int)) (x1 : Nat) (x2 : Nat) (x3 : Int) (x5 : Int) (st : Int) (c : Ex × XSt) : Prop := CG P rnd (fnN P 53) 1 (qt_ P 53 [false, false, false, false, false, false, false, true, true, true, true, true, true, true, true, true]) (qcl_ x0 x1 x2 x3 x5 st) c
abbrev qk3_ (rd : Option Nat) (x0 : List (Int × Int × Int × Int)) (x1 : Nat) (x2 : Nat) (x3 : Int) (x5 : Int) (st : Int) (r : Int) : Prop := CG P rd (fnN P 53) 1 (qt_ P 53 [false, false, false, false, false, false, true, true, true, true, true, true, true, true, true]) (qcl_ x0 x1 x2 x3 x5 st) (qcm_ x0 x1 x2 x3 x5 r)
def qbb_ (n : Nat) (x0 : List (Int × Int × Int × Int)) (x1 : Nat) (x2 : Nat) (x3 : Int) (x5 : Int) (st : Int) : Option ((Int) ⊕ (Int)) := match st with
 | x4 =>
  if x4 ≤ x5 then
   if 0 ≤ x4 ∧ x4 < ((x1 : Nat) : Int) then
    if (x4).toNat < (x0).length then
     ((some ((x0).getD (x4).toNat (0, 0, 0, 0)))).bind fun y4_ =>
     if 0 ≤ x3 ∧ x3 < ((x1 : Nat) : Int) then
      if (x3).toNat < (x0).length then
       ((some ((x0).getD (x3).toNat (0, 0, 0, 0)))).bind fun y7_ =>
       (qd_ n (y4_.1) (y4_.2.1) (y4_.2.2.1) (y4_.2.2.2) (y7_.1) (y7_.2.1) (y7_.2.2.1) (y7_.2.2.2)).bind fun y8_ =>
       if y8_ < 0 then
        some (.inl (w64 (x4 + 1)))
       else
        some (.inr x4)
      else none
     else none
    else none
   else none
  else
   some (.inr x4)
def qfe_ (n : Nat) (x0 : List (Int × Int × Int × Int)) (x1 : Nat) (x2 : Nat) (x3 : Int) (x5 : Int) (st : Int) : Option (Int) := iterM (qbb_ n x0 x1 x2 x3 x5) n st
theorem qg7_ (n : Nat) {rnd : Option Nat} (x0 : List (Int × Int × Int × Int)) (x1 : Nat) (x2 : Nat) (x3 : Int) (x5 : Int) (x4 : Int) (o : (Int) ⊕ (Int)) (h : qbb_ n x0 x1 x2 x3 x5 x4 = some o) : CG P rnd (fnN P 53) 1 (qt_ P 53 [false, false, false, false, false, false, false, true, true, true, true, true, true, true, true, true]) (qcl_ x0 x1 x2 x3 x5 x4) (Sum.elim (fun s => (.normal, qcl_ x0 x1 x2 x3 x5 s)) (fun r => qcm_ x0 x1 x2 x3 x5 r) o) := by
 unfold qbb_ at h
 dsimp only at h
 by_cases hy1 : x4 ≤ x5
 ·rw [if_pos hy1] at h
  obtain ⟨hy2, h⟩ := gd h
  obtain ⟨hy3, h⟩ := gd h
  obtain ⟨y4_, hy4, h⟩ := oB h
  obtain ⟨hy5, h⟩ := gd h
  obtain ⟨hy6, h⟩ := gd h
  obtain ⟨y7_, hy7, h⟩ := oB h
  obtain ⟨y8_, hy8, h⟩ := oB h
  have k0 := fun {A L l} (k : PL A L l) => zz 4 (xdT hy1) <|
   zz 9 (xk3 0 x2 hy2) <|
   yy 10 (.ld (Value.agg #[(Value.int .u64 (y4_.1)), (Value.int .u64 (y4_.2.1)), (Value.int .u64 (y4_.2.2.1)), (Value.int .u64 (y4_.2.2.2))])) <|
   ww (p := rdT (layT (rows rw_uuuu x0)) 4 ((x4).toNat * 4) = some [(Value.int .u64 (y4_.1)), (Value.int .u64 (y4_.2.1)), (Value.int .u64 (y4_.2.2.1)), (Value.int .u64 (y4_.2.2.2))]) (qn_ rwf_uuuu (0, 0, 0, 0) (hr := hy4) (i := (x4).toNat) (j := 0) ((x4).toNat * 4) rfl (hy3) (by decide) rfl) <|
   zz 13 (xk3 0 x2 hy5) <|
   yy 14 (.ld (Value.agg #[(Value.int .u64 (y7_.1)), (Value.int .u64 (y7_.2.1)), (Value.int .u64 (y7_.2.2.1)), (Value.int .u64 (y7_.2.2.2))])) <|
   ww (p := rdT (layT (rows rw_uuuu x0)) 4 ((x3).toNat * 4) = some [(Value.int .u64 (y7_.1)), (Value.int .u64 (y7_.2.1)), (Value.int .u64 (y7_.2.2.1)), (Value.int .u64 (y7_.2.2.2))]) (qn_ rwf_uuuu (0, 0, 0, 0) (hr := hy7) (i := (x3).toNat) (j := 0) ((x3).toNat * 4) rfl (hy6) (by decide) rfl) <|
   yy 15 (.call (qbg_ (y4_.1) (y4_.2.1) (y4_.2.2.1) (y4_.2.2.2) (y7_.1) (y7_.2.1) (y7_.2.2.1) (y7_.2.2.2) y8_ [] [])) <|
   ww (qw_ n (y4_.1) (y4_.2.1) (y4_.2.2.1) (y4_.2.2.2) (y7_.1) (y7_.2.1) (y7_.2.2.1) (y7_.2.2.2) y8_ hy8) <|
   k
  by_cases hy9 : y8_ < 0
  ·rw [if_pos hy9] at h
   obtain rfl := oI h
   exact runC2 hm ⟨[0, 1, 4, 12, 13], [(0, 0, true)], 1, 0, [], false, [], [], []⟩ (k0 <|
    zz 16 (xdT hy9) <|
    ww (qa_ rwf_uuuu x0 24) <|
    ee) (by kernel_rfl)
  ·rw [if_neg hy9] at h
   obtain rfl := oI h
   exact runC2 hm ⟨[0, 1, 4, 12, 13], [(0, 0, true)], 1, 0, [], false, [], [], []⟩ (k0 <|
    zz 16 (xdF hy9) <|
    ww (qa_ rwf_uuuu x0 24) <|
    ee) (by kernel_rfl)
 ·rw [if_neg hy1] at h
  obtain rfl := oI h
  exact runC2 hm ⟨[0, 1, 4, 12, 13], [(0, 0, true)], 1, 0, [], false, [], [], []⟩ (zz 4 (xdF hy1) <|
   ww (qa_ rwf_uuuu x0 24) <|
   ee) (by kernel_rfl)
theorem qkb_ (n : Nat) {rnd : Option Nat} (x0 : List (Int × Int × Int × Int)) (x1 : Nat) (x2 : Nat) (x3 : Int) (x5 : Int) (st : Int) (r : Int) (h : qfe_ n x0 x1 x2 x3 x5 st = some r) : CG P rnd (fnN P 53) 1 (qt_ P 53 [false, false, false, false, false, false, true, true, true, true, true, true, true, true, true]) (qcl_ x0 x1 x2 x3 x5 st) (qcm_ x0 x1 x2 x3 x5 r) :=
 CG.iter (b := qt_ P 53 [false, false, false, false, false, false, false, true, true, true, true, true, true, true, true, true]) (by kernel_rfl) (body := qbb_ n x0 x1 x2 x3 x5) (S := qcl_ x0 x1 x2 x3 x5) (X := qcm_ x0 x1 x2 x3 x5)
  (fun s s' h => qg7_ n x0 x1 x2 x3 x5 s (.inl s') h)
  (fun s r h => qg7_ n x0 x1 x2 x3 x5 s (.inr r) h)
  (fun r => by intro hx; cases hx) h
def qcn_ (x1 : Nat) (x2 : Nat) (x3 : Int) (st : List (Int × Int × Int × Int) × Int × Int) : XSt := match st with
 | (x0, x4, x5) => (sT 178 [(0, (sN 0 0 x1 x2)), (1, (i6 x3)), (4, (Value.func (.func 38) #[] #[])), (12, (i6 x4)), (13, (i6 x5))], [], ⟨sB [(0, (some (.cells (layT (rows rw_uuuu x0)) 24)))], 1, 0⟩)
def qco_ (x1 : Nat) (x2 : Nat) (x3 : Int) (r : List (Int × Int × Int × Int) × Int) : Ex × XSt := match r with
 | (z0, z1) => (.exit 4, (sT 178 [(0, (sN 0 0 x1 x2)), (1, (i6 x3)), (13, (i6 z1))], [], ⟨sB [(0, (some (.cells (layT (rows rw_uuuu z0)) 24)))], 1, 0⟩))
abbrev qq3_ (rnd : Option Nat) (x1 : Nat) (x2 : Nat) (x3 : Int) (st : List (Int × Int × Int × Int) × Int × Int) (c : Ex × XSt) : Prop := CG P rnd (fnN P 53) 1 (qt_ P 53 [false, false, false, true, true, true, true, true, true, true, true, true]) (qcn_ x1 x2 x3 st) c
abbrev qk4_ (rd : Option Nat) (x1 : Nat) (x2 : Nat) (x3 : Int) (st : List (Int × Int × Int × Int) × Int × Int) (r : List (Int × Int × Int × Int) × Int) : Prop := CG P rd (fnN P 53) 1 (qt_ P 53 [false, false, true, true, true, true, true, true, true, true, true]) (qcn_ x1 x2 x3 st) (qco_ x1 x2 x3 r)
def qcp_ (n : Nat) (x1 : Nat) (x2 : Nat) (x3 : Int) (st : List (Int × Int × Int × Int) × Int × Int) : Option ((List (Int × Int × Int × Int) × Int × Int) ⊕ (List (Int × Int × Int × Int) × Int)) := match st with
 | (x0, x4, x5) =>
  (qfe_ n x0 x1 x2 x3 x5 x4).bind fun y1_ =>
  (qfd_ n x0 x1 x2 x3 y1_ x5).bind fun y2_ =>
  if y1_ > y2_ then
   some (.inr (x0, y2_))
  else
   if 0 ≤ y2_ ∧ y2_ < ((x1 : Nat) : Int) then
    if (y2_).toNat < (x0).length then
     ((some ((x0).getD (y2_).toNat (0, 0, 0, 0)))).bind fun y6_ =>
     if 0 ≤ y1_ ∧ y1_ < ((x1 : Nat) : Int) then
      if (y1_).toNat < (x0).length then
       ((some ((x0).getD (y1_).toNat (0, 0, 0, 0)))).bind fun y9_ =>
       if (y2_).toNat < (((x0).set (y1_).toNat y6_)).length then
        some (.inl (((((x0).set (y1_).toNat y6_)).set (y2_).toNat y9_), (w64 (y1_ + 1)), (w64 (y2_ - 1))))
       else none
      else none
     else none
    else none
   else none
def qff_ (n : Nat) (x1 : Nat) (x2 : Nat) (x3 : Int) (st : List (Int × Int × Int × Int) × Int × Int) : Option (List (Int × Int × Int × Int) × Int) := iterM (qcp_ n x1 x2 x3) n st
theorem qg8_ (n : Nat) {rnd : Option Nat} (x1 : Nat) (x2 : Nat) (x3 : Int) (st : List (Int × Int × Int × Int) × Int × Int) (o : (List (Int × Int × Int × Int) × Int × Int) ⊕ (List (Int × Int × Int × Int) × Int)) (h : qcp_ n x1 x2 x3 st = some o) : CG P rnd (fnN P 53) 1 (qt_ P 53 [false, false, false, true, true, true, true, true, true, true, true, true]) (qcn_ x1 x2 x3 st) (Sum.elim (fun s => (.normal, qcn_ x1 x2 x3 s)) (fun r => qco_ x1 x2 x3 r) o) := by
 obtain ⟨x0, x4, x5⟩ := st
 unfold qcp_ at h
 dsimp only at h
 obtain ⟨y1_, hy1, h⟩ := oB h
 obtain ⟨y2_, hy2, h⟩ := oB h
 have k0 := fun {A L l} (k : PL A L l) => ww (p := qk3_ rnd x0 x1 x2 x3 x5 x4 y1_) (qkb_ n x0 x1 x2 x3 x5 x4 y1_ hy1) <|
  ww (qa_ rwf_uuuu x0 24) <|
  ll 3 ⟨⟨[0, 1, 4, 12, 13], [(0, 0, true)], 1, 0, [], false, [], [], []⟩, (qcm_ x0 x1 x2 x3 x5 y1_).1, (qcm_ x0 x1 x2 x3 x5 y1_).2⟩ <|
  ww (p := qk2_ rnd x0 x1 x2 x3 y1_ x5 y2_) (qka_ n x0 x1 x2 x3 y1_ x5 y2_ hy2) <|
  ww (qa_ rwf_uuuu x0 24) <|
  ll 6 ⟨⟨[0, 1, 4, 12, 13], [(0, 0, true)], 1, 0, [], false, [], [], []⟩, (qck_ x0 x1 x2 x3 y1_ y2_).1, (qck_ x0 x1 x2 x3 y1_ y2_).2⟩ <|
  k
 by_cases hy3 : y1_ > y2_
 ·rw [if_pos hy3] at h
  obtain rfl := oI h
  exact runC2 hm ⟨[0, 1, 13], [(0, 0, true)], 1, 0, [], false, [], [], []⟩ (k0 <|
   zz 11 (xdT hy3) <|
   ww (qa_ rwf_uuuu x0 24) <|
   ee) (by kernel_rfl)
 ·rw [if_neg hy3] at h
  obtain ⟨hy4, h⟩ := gd h
  obtain ⟨hy5, h⟩ := gd h
  obtain ⟨y6_, hy6, h⟩ := oB h
  obtain ⟨hy7, h⟩ := gd h
  obtain ⟨hy8, h⟩ := gd h
  obtain ⟨y9_, hy9, h⟩ := oB h
  obtain ⟨hy10, h⟩ := gd h
  obtain rfl := oI h
  exact runC2 hm ⟨[0, 1, 4, 12, 13], [(0, 0, true)], 1, 0, [], false, [], [], []⟩ (k0 <|
   zz 11 (xdF hy3) <|
   zz 20 (xk3 0 x2 hy4) <|
   yy 21 (.ld (Value.agg #[(Value.int .u64 (y6_.1)), (Value.int .u64 (y6_.2.1)), (Value.int .u64 (y6_.2.2.1)), (Value.int .u64 (y6_.2.2.2))])) <|
   ww (p := rdT (layT (rows rw_uuuu x0)) 4 ((y2_).toNat * 4) = some [(Value.int .u64 (y6_.1)), (Value.int .u64 (y6_.2.1)), (Value.int .u64 (y6_.2.2.1)), (Value.int .u64 (y6_.2.2.2))]) (qn_ rwf_uuuu (0, 0, 0, 0) (hr := hy6) (i := (y2_).toNat) (j := 0) ((y2_).toNat * 4) rfl (hy5) (by decide) rfl) <|
   zz 24 (xk3 0 x2 hy7) <|
   yy 25 (.ld (Value.agg #[(Value.int .u64 (y9_.1)), (Value.int .u64 (y9_.2.1)), (Value.int .u64 (y9_.2.2.1)), (Value.int .u64 (y9_.2.2.2))])) <|
   ww (p := rdT (layT (rows rw_uuuu x0)) 4 ((y1_).toNat * 4) = some [(Value.int .u64 (y9_.1)), (Value.int .u64 (y9_.2.1)), (Value.int .u64 (y9_.2.2.1)), (Value.int .u64 (y9_.2.2.2))]) (qn_ rwf_uuuu (0, 0, 0, 0) (hr := hy9) (i := (y1_).toNat) (j := 0) ((y1_).toNat * 4) rfl (hy8) (by decide) rfl) <|
   zz 26 (xk3 0 x2 hy7) <|
   yy 27 (.sto (layT (rows rw_uuuu ((x0).set (y1_).toNat y6_)))) <|
   ww (p := ∃ old, rdT (layT (rows rw_uuuu x0)) 4 ((y1_).toNat * 4) = some old) (Exists.elim (qcx_ rwf_uuuu (0, 0, 0, 0) (i := (y1_).toNat) (j := 0) (l := [(Value.int .u64 (y6_.1)), (Value.int .u64 (y6_.2.1)), (Value.int .u64 (y6_.2.2.1)), (Value.int .u64 (y6_.2.2.2))]) y6_ ((y1_).toNat * 4) rfl (hy8) (Nat.le_of_ble_eq_true rfl) rfl) fun o h => ⟨o, h.1⟩) <|
   ww (p := layL [(Value.int .u64 (y6_.1)), (Value.int .u64 (y6_.2.1)), (Value.int .u64 (y6_.2.2.1)), (Value.int .u64 (y6_.2.2.2))] ((y1_).toNat * 4) (layT (rows rw_uuuu x0)) = layT (rows rw_uuuu ((x0).set (y1_).toNat y6_))) (Exists.elim (qcx_ rwf_uuuu (0, 0, 0, 0) (i := (y1_).toNat) (j := 0) (l := [(Value.int .u64 (y6_.1)), (Value.int .u64 (y6_.2.1)), (Value.int .u64 (y6_.2.2.1)), (Value.int .u64 (y6_.2.2.2))]) y6_ ((y1_).toNat * 4) rfl (hy8) (Nat.le_of_ble_eq_true rfl) rfl) fun o h => h.2) <|
   zz 28 (xk3 0 x2 hy4) <|
   yy 29 (.sto (layT (rows rw_uuuu ((((x0).set (y1_).toNat y6_)).set (y2_).toNat y9_)))) <|
   ww (p := ∃ old, rdT (layT (rows rw_uuuu ((x0).set (y1_).toNat y6_))) 4 ((y2_).toNat * 4) = some old) (Exists.elim (qcx_ rwf_uuuu (0, 0, 0, 0) (i := (y2_).toNat) (j := 0) (l := [(Value.int .u64 (y9_.1)), (Value.int .u64 (y9_.2.1)), (Value.int .u64 (y9_.2.2.1)), (Value.int .u64 (y9_.2.2.2))]) y9_ ((y2_).toNat * 4) rfl (hy10) (Nat.le_of_ble_eq_true rfl) rfl) fun o h => ⟨o, h.1⟩) <|
   ww (p := layL [(Value.int .u64 (y9_.1)), (Value.int .u64 (y9_.2.1)), (Value.int .u64 (y9_.2.2.1)), (Value.int .u64 (y9_.2.2.2))] ((y2_).toNat * 4) (layT (rows rw_uuuu ((x0).set (y1_).toNat y6_))) = layT (rows rw_uuuu ((((x0).set (y1_).toNat y6_)).set (y2_).toNat y9_))) (Exists.elim (qcx_ rwf_uuuu (0, 0, 0, 0) (i := (y2_).toNat) (j := 0) (l := [(Value.int .u64 (y9_.1)), (Value.int .u64 (y9_.2.1)), (Value.int .u64 (y9_.2.2.1)), (Value.int .u64 (y9_.2.2.2))]) y9_ ((y2_).toNat * 4) rfl (hy10) (Nat.le_of_ble_eq_true rfl) rfl) fun o h => h.2) <|
   ww (qa_ rwf_uuuu ((((x0).set (y1_).toNat y6_)).set (y2_).toNat y9_) 24) <|
   ee) (by kernel_rfl)
theorem qkc_ (n : Nat) {rnd : Option Nat} (x1 : Nat) (x2 : Nat) (x3 : Int) (st : List (Int × Int × Int × Int) × Int × Int) (r : List (Int × Int × Int × Int) × Int) (h : qff_ n x1 x2 x3 st = some r) : CG P rnd (fnN P 53) 1 (qt_ P 53 [false, false, true, true, true, true, true, true, true, true, true]) (qcn_ x1 x2 x3 st) (qco_ x1 x2 x3 r) :=
 CG.iter (b := qt_ P 53 [false, false, false, true, true, true, true, true, true, true, true, true]) (by kernel_rfl) (body := qcp_ n x1 x2 x3) (S := qcn_ x1 x2 x3) (X := qco_ x1 x2 x3)
  (fun s s' h => qg8_ n x1 x2 x3 s (.inl s') h)
  (fun s r h => qg8_ n x1 x2 x3 s (.inr r) h)
  (fun r => by intro hx; cases hx) h
def qcq_ (x0 : List (Int × Int × Int × Int)) (x1 : Nat) (x2 : Nat) (x3 : Int) (x4 : Int) (st : Int) : XSt := match st with
 | x5 => (sT 178 [(0, (sN 0 0 x1 x2)), (1, (i6 x3)), (4, (Value.func (.func 38) #[] #[])), (12, (i6 x4)), (13, (i6 x5))], [], ⟨sB [(0, (some (.cells (layT (rows rw_uuuu x0)) 24)))], 1, 0⟩)
def qcr_ (x0 : List (Int × Int × Int × Int)) (x1 : Nat) (x2 : Nat) (x3 : Int) (x4 : Int) (r : Int) : Ex × XSt := match r with
 | z0 => (.exit 2, (sT 178 [(0, (sN 0 0 x1 x2)), (1, (i6 x3)), (4, (Value.func (.func 38) #[] #[])), (12, (i6 x4)), (13, (i6 z0))], [], ⟨sB [(0, (some (.cells (layT (rows rw_uuuu x0)) 24)))], 1, 0⟩))
abbrev qq4_ (rnd : Option Nat) (x0 : List (Int × Int × Int × Int)) (x1 : Nat) (x2 : Nat) (x3 : Int) (x4 : Int) (st : Int) (c : Ex × XSt) : Prop := CG P rnd (fnN P 53) 1 (qt_ P 53 [false, false, false, true, true, true, true]) (qcq_ x0 x1 x2 x3 x4 st) c
abbrev qk5_ (rd : Option Nat) (x0 : List (Int × Int × Int × Int)) (x1 : Nat) (x2 : Nat) (x3 : Int) (x4 : Int) (st : Int) (r : Int) : Prop := CG P rd (fnN P 53) 1 (qt_ P 53 [false, false, true, true, true, true]) (qcq_ x0 x1 x2 x3 x4 st) (qcr_ x0 x1 x2 x3 x4 r)
def qbc_ (n : Nat) (x0 : List (Int × Int × Int × Int)) (x1 : Nat) (x2 : Nat) (x3 : Int) (x4 : Int) (st : Int) : Option ((Int) ⊕ (Int)) := match st with
 | x5 =>
  if x4 ≤ x5 then
   if 0 ≤ x5 ∧ x5 < ((x1 : Nat) : Int) then
    if (x5).toNat < (x0).length then
     ((some ((x0).getD (x5).toNat (0, 0, 0, 0)))).bind fun y4_ =>
     if 0 ≤ x3 ∧ x3 < ((x1 : Nat) : Int) then
      if (x3).toNat < (x0).length then
       ((some ((x0).getD (x3).toNat (0, 0, 0, 0)))).bind fun y7_ =>
       (qd_ n (y4_.1) (y4_.2.1) (y4_.2.2.1) (y4_.2.2.2) (y7_.1) (y7_.2.1) (y7_.2.2.1) (y7_.2.2.2)).bind fun y8_ =>
       if y8_ < 0 then
        some (.inr x5)
       else
        some (.inl (w64 (x5 - 1)))
      else none
     else none
    else none
   else none
  else
   some (.inr x5)
def qfg_ (n : Nat) (x0 : List (Int × Int × Int × Int)) (x1 : Nat) (x2 : Nat) (x3 : Int) (x4 : Int) (st : Int) : Option (Int) := iterM (qbc_ n x0 x1 x2 x3 x4) n st
theorem qg9_ (n : Nat) {rnd : Option Nat} (x0 : List (Int × Int × Int × Int)) (x1 : Nat) (x2 : Nat) (x3 : Int) (x4 : Int) (x5 : Int) (o : (Int) ⊕ (Int)) (h : qbc_ n x0 x1 x2 x3 x4 x5 = some o) : CG P rnd (fnN P 53) 1 (qt_ P 53 [false, false, false, true, true, true, true]) (qcq_ x0 x1 x2 x3 x4 x5) (Sum.elim (fun s => (.normal, qcq_ x0 x1 x2 x3 x4 s)) (fun r => qcr_ x0 x1 x2 x3 x4 r) o) := by
 unfold qbc_ at h
 dsimp only at h
 by_cases hy1 : x4 ≤ x5
 ·rw [if_pos hy1] at h
  obtain ⟨hy2, h⟩ := gd h
  obtain ⟨hy3, h⟩ := gd h
  obtain ⟨y4_, hy4, h⟩ := oB h
  obtain ⟨hy5, h⟩ := gd h
  obtain ⟨hy6, h⟩ := gd h
  obtain ⟨y7_, hy7, h⟩ := oB h
  obtain ⟨y8_, hy8, h⟩ := oB h
  have k0 := fun {A L l} (k : PL A L l) => zz 4 (xdT hy1) <|
   zz 9 (xk3 0 x2 hy2) <|
   yy 10 (.ld (Value.agg #[(Value.int .u64 (y4_.1)), (Value.int .u64 (y4_.2.1)), (Value.int .u64 (y4_.2.2.1)), (Value.int .u64 (y4_.2.2.2))])) <|
   ww (p := rdT (layT (rows rw_uuuu x0)) 4 ((x5).toNat * 4) = some [(Value.int .u64 (y4_.1)), (Value.int .u64 (y4_.2.1)), (Value.int .u64 (y4_.2.2.1)), (Value.int .u64 (y4_.2.2.2))]) (qn_ rwf_uuuu (0, 0, 0, 0) (hr := hy4) (i := (x5).toNat) (j := 0) ((x5).toNat * 4) rfl (hy3) (by decide) rfl) <|
   zz 13 (xk3 0 x2 hy5) <|
   yy 14 (.ld (Value.agg #[(Value.int .u64 (y7_.1)), (Value.int .u64 (y7_.2.1)), (Value.int .u64 (y7_.2.2.1)), (Value.int .u64 (y7_.2.2.2))])) <|
   ww (p := rdT (layT (rows rw_uuuu x0)) 4 ((x3).toNat * 4) = some [(Value.int .u64 (y7_.1)), (Value.int .u64 (y7_.2.1)), (Value.int .u64 (y7_.2.2.1)), (Value.int .u64 (y7_.2.2.2))]) (qn_ rwf_uuuu (0, 0, 0, 0) (hr := hy7) (i := (x3).toNat) (j := 0) ((x3).toNat * 4) rfl (hy6) (by decide) rfl) <|
   yy 15 (.call (qbg_ (y4_.1) (y4_.2.1) (y4_.2.2.1) (y4_.2.2.2) (y7_.1) (y7_.2.1) (y7_.2.2.1) (y7_.2.2.2) y8_ [] [])) <|
   ww (qw_ n (y4_.1) (y4_.2.1) (y4_.2.2.1) (y4_.2.2.2) (y7_.1) (y7_.2.1) (y7_.2.2.1) (y7_.2.2.2) y8_ hy8) <|
   k
  by_cases hy9 : y8_ < 0
  ·rw [if_pos hy9] at h
   obtain rfl := oI h
   exact runC2 hm ⟨[0, 1, 4, 12, 13], [(0, 0, true)], 1, 0, [], false, [], [], []⟩ (k0 <|
    zz 16 (xdT hy9) <|
    ww (qa_ rwf_uuuu x0 24) <|
    ee) (by kernel_rfl)
  ·rw [if_neg hy9] at h
   obtain rfl := oI h
   exact runC2 hm ⟨[0, 1, 4, 12, 13], [(0, 0, true)], 1, 0, [], false, [], [], []⟩ (k0 <|
    zz 16 (xdF hy9) <|
    ww (qa_ rwf_uuuu x0 24) <|
    ee) (by kernel_rfl)
 ·rw [if_neg hy1] at h
  obtain rfl := oI h
  exact runC2 hm ⟨[0, 1, 4, 12, 13], [(0, 0, true)], 1, 0, [], false, [], [], []⟩ (zz 4 (xdF hy1) <|
   ww (qa_ rwf_uuuu x0 24) <|
   ee) (by kernel_rfl)
theorem qkd_ (n : Nat) {rnd : Option Nat} (x0 : List (Int × Int × Int × Int)) (x1 : Nat) (x2 : Nat) (x3 : Int) (x4 : Int) (st : Int) (r : Int) (h : qfg_ n x0 x1 x2 x3 x4 st = some r) : CG P rnd (fnN P 53) 1 (qt_ P 53 [false, false, true, true, true, true]) (qcq_ x0 x1 x2 x3 x4 st) (qcr_ x0 x1 x2 x3 x4 r) :=
 CG.iter (b := qt_ P 53 [false, false, false, true, true, true, true]) (by kernel_rfl) (body := qbc_ n x0 x1 x2 x3 x4) (S := qcq_ x0 x1 x2 x3 x4) (X := qcr_ x0 x1 x2 x3 x4)
  (fun s s' h => qg9_ n x0 x1 x2 x3 x4 s (.inl s') h)
  (fun s r h => qg9_ n x0 x1 x2 x3 x4 s (.inr r) h)
  (fun r => by intro hx; cases hx) h
def qcs_ (x0 : List (Int × Int × Int × Int)) (x1 : Nat) (x2 : Nat) (x3 : Int) (x5 : Int) (st : Int) : XSt := match st with
 | x4 => (sT 178 [(0, (sN 0 0 x1 x2)), (1, (i6 x3)), (4, (Value.func (.func 38) #[] #[])), (12, (i6 x4)), (13, (i6 x5))], [], ⟨sB [(0, (some (.cells (layT (rows rw_uuuu x0)) 24)))], 1, 0⟩)
def qct_ (x0 : List (Int × Int × Int × Int)) (x1 : Nat) (x2 : Nat) (x3 : Int) (x5 : Int) (r : Int) : Ex × XSt := match r with
 | z0 => (.exit 0, (sT 178 [(0, (sN 0 0 x1 x2)), (1, (i6 x3)), (4, (Value.func (.func 38) #[] #[])), (12, (i6 z0)), (13, (i6 x5))], [], ⟨sB [(0, (some (.cells (layT (rows rw_uuuu x0)) 24)))], 1, 0⟩))
abbrev qq5_ (rnd : Option Nat) (x0 : List (Int × Int × Int × Int)) (x1 : Nat) (x2 : Nat) (x3 : Int) (x5 : Int) (st : Int) (c : Ex × XSt) : Prop := CG P rnd (fnN P 53) 1 (qt_ P 53 [false, false, false, true, true, true]) (qcs_ x0 x1 x2 x3 x5 st) c
abbrev qk6_ (rd : Option Nat) (x0 : List (Int × Int × Int × Int)) (x1 : Nat) (x2 : Nat) (x3 : Int) (x5 : Int) (st : Int) (r : Int) : Prop := CG P rd (fnN P 53) 1 (qt_ P 53 [false, false, true, true, true]) (qcs_ x0 x1 x2 x3 x5 st) (qct_ x0 x1 x2 x3 x5 r)
def qbd_ (n : Nat) (x0 : List (Int × Int × Int × Int)) (x1 : Nat) (x2 : Nat) (x3 : Int) (x5 : Int) (st : Int) : Option ((Int) ⊕ (Int)) := match st with
 | x4 =>
  if x4 ≤ x5 then
   if 0 ≤ x4 ∧ x4 < ((x1 : Nat) : Int) then
    if (x4).toNat < (x0).length then
     ((some ((x0).getD (x4).toNat (0, 0, 0, 0)))).bind fun y4_ =>
     if 0 ≤ x3 ∧ x3 < ((x1 : Nat) : Int) then
      if (x3).toNat < (x0).length then
       ((some ((x0).getD (x3).toNat (0, 0, 0, 0)))).bind fun y7_ =>
       (qd_ n (y4_.1) (y4_.2.1) (y4_.2.2.1) (y4_.2.2.2) (y7_.1) (y7_.2.1) (y7_.2.2.1) (y7_.2.2.2)).bind fun y8_ =>
       if y8_ < 0 then
        some (.inl (w64 (x4 + 1)))
       else
        some (.inr x4)
      else none
     else none
    else none
   else none
  else
   some (.inr x4)
def qfh_ (n : Nat) (x0 : List (Int × Int × Int × Int)) (x1 : Nat) (x2 : Nat) (x3 : Int) (x5 : Int) (st : Int) : Option (Int) := iterM (qbd_ n x0 x1 x2 x3 x5) n st
theorem qha_ (n : Nat) {rnd : Option Nat} (x0 : List (Int × Int × Int × Int)) (x1 : Nat) (x2 : Nat) (x3 : Int) (x5 : Int) (x4 : Int) (o : (Int) ⊕ (Int)) (h : qbd_ n x0 x1 x2 x3 x5 x4 = some o) : CG P rnd (fnN P 53) 1 (qt_ P 53 [false, false, false, true, true, true]) (qcs_ x0 x1 x2 x3 x5 x4) (Sum.elim (fun s => (.normal, qcs_ x0 x1 x2 x3 x5 s)) (fun r => qct_ x0 x1 x2 x3 x5 r) o) := by
 unfold qbd_ at h
 dsimp only at h
 by_cases hy1 : x4 ≤ x5
 ·rw [if_pos hy1] at h
  obtain ⟨hy2, h⟩ := gd h
  obtain ⟨hy3, h⟩ := gd h
  obtain ⟨y4_, hy4, h⟩ := oB h
  obtain ⟨hy5, h⟩ := gd h
  obtain ⟨hy6, h⟩ := gd h
  obtain ⟨y7_, hy7, h⟩ := oB h
  obtain ⟨y8_, hy8, h⟩ := oB h
  have k0 := fun {A L l} (k : PL A L l) => zz 4 (xdT hy1) <|
   zz 9 (xk3 0 x2 hy2) <|
   yy 10 (.ld (Value.agg #[(Value.int .u64 (y4_.1)), (Value.int .u64 (y4_.2.1)), (Value.int .u64 (y4_.2.2.1)), (Value.int .u64 (y4_.2.2.2))])) <|
   ww (p := rdT (layT (rows rw_uuuu x0)) 4 ((x4).toNat * 4) = some [(Value.int .u64 (y4_.1)), (Value.int .u64 (y4_.2.1)), (Value.int .u64 (y4_.2.2.1)), (Value.int .u64 (y4_.2.2.2))]) (qn_ rwf_uuuu (0, 0, 0, 0) (hr := hy4) (i := (x4).toNat) (j := 0) ((x4).toNat * 4) rfl (hy3) (by decide) rfl) <|
   zz 13 (xk3 0 x2 hy5) <|
   yy 14 (.ld (Value.agg #[(Value.int .u64 (y7_.1)), (Value.int .u64 (y7_.2.1)), (Value.int .u64 (y7_.2.2.1)), (Value.int .u64 (y7_.2.2.2))])) <|
   ww (p := rdT (layT (rows rw_uuuu x0)) 4 ((x3).toNat * 4) = some [(Value.int .u64 (y7_.1)), (Value.int .u64 (y7_.2.1)), (Value.int .u64 (y7_.2.2.1)), (Value.int .u64 (y7_.2.2.2))]) (qn_ rwf_uuuu (0, 0, 0, 0) (hr := hy7) (i := (x3).toNat) (j := 0) ((x3).toNat * 4) rfl (hy6) (by decide) rfl) <|
   yy 15 (.call (qbg_ (y4_.1) (y4_.2.1) (y4_.2.2.1) (y4_.2.2.2) (y7_.1) (y7_.2.1) (y7_.2.2.1) (y7_.2.2.2) y8_ [] [])) <|
   ww (qw_ n (y4_.1) (y4_.2.1) (y4_.2.2.1) (y4_.2.2.2) (y7_.1) (y7_.2.1) (y7_.2.2.1) (y7_.2.2.2) y8_ hy8) <|
   k
  by_cases hy9 : y8_ < 0
  ·rw [if_pos hy9] at h
   obtain rfl := oI h
   exact runC2 hm ⟨[0, 1, 4, 12, 13], [(0, 0, true)], 1, 0, [], false, [], [], []⟩ (k0 <|
    zz 16 (xdT hy9) <|
    ww (qa_ rwf_uuuu x0 24) <|
    ee) (by kernel_rfl)
  ·rw [if_neg hy9] at h
   obtain rfl := oI h
   exact runC2 hm ⟨[0, 1, 4, 12, 13], [(0, 0, true)], 1, 0, [], false, [], [], []⟩ (k0 <|
    zz 16 (xdF hy9) <|
    ww (qa_ rwf_uuuu x0 24) <|
    ee) (by kernel_rfl)
 ·rw [if_neg hy1] at h
  obtain rfl := oI h
  exact runC2 hm ⟨[0, 1, 4, 12, 13], [(0, 0, true)], 1, 0, [], false, [], [], []⟩ (zz 4 (xdF hy1) <|
   ww (qa_ rwf_uuuu x0 24) <|
   ee) (by kernel_rfl)
theorem qke_ (n : Nat) {rnd : Option Nat} (x0 : List (Int × Int × Int × Int)) (x1 : Nat) (x2 : Nat) (x3 : Int) (x5 : Int) (st : Int) (r : Int) (h : qfh_ n x0 x1 x2 x3 x5 st = some r) : CG P rnd (fnN P 53) 1 (qt_ P 53 [false, false, true, true, true]) (qcs_ x0 x1 x2 x3 x5 st) (qct_ x0 x1 x2 x3 x5 r) :=
 CG.iter (b := qt_ P 53 [false, false, false, true, true, true]) (by kernel_rfl) (body := qbd_ n x0 x1 x2 x3 x5) (S := qcs_ x0 x1 x2 x3 x5) (X := qct_ x0 x1 x2 x3 x5)
  (fun s s' h => qha_ n x0 x1 x2 x3 x5 s (.inl s') h)
  (fun s r h => qha_ n x0 x1 x2 x3 x5 s (.inr r) h)
  (fun r => by intro hx; cases hx) h
def qdo_ (n : Nat) (a0 : List (Int × Int × Int × Int)) (a1 : Nat) (a2 : Nat) (a3 : Int) (a4 : Int) (a5 : Int) : Option (List (Int × Int × Int × Int) × Int × Bool) :=
 if 0 ≤ a5 ∧ a5 < ((a1 : Nat) : Int) then
  if (a5).toNat < (a0).length then
   ((some ((a0).getD (a5).toNat (0, 0, 0, 0)))).bind fun c3_ =>
   if 0 ≤ a3 ∧ a3 < ((a1 : Nat) : Int) then
    if (a3).toNat < (a0).length then
     ((some ((a0).getD (a3).toNat (0, 0, 0, 0)))).bind fun c6_ =>
     if (a5).toNat < (((a0).set (a3).toNat c3_)).length then
      (qfh_ n ((((a0).set (a3).toNat c3_)).set (a5).toNat c6_) a1 a2 a3 (w64 (a4 - 1)) (w64 (a3 + 1))).bind fun c8_ =>
      (qfg_ n ((((a0).set (a3).toNat c3_)).set (a5).toNat c6_) a1 a2 a3 c8_ (w64 (a4 - 1))).bind fun c9_ =>
      if c8_ > c9_ then
       if (a3).toNat < (((((a0).set (a3).toNat c3_)).set (a5).toNat c6_)).length then
        ((some ((((((a0).set (a3).toNat c3_)).set (a5).toNat c6_)).getD (a3).toNat (0, 0, 0, 0)))).bind fun c12_ =>
        if 0 ≤ c9_ ∧ c9_ < ((a1 : Nat) : Int) then
         if (c9_).toNat < (((((a0).set (a3).toNat c3_)).set (a5).toNat c6_)).length then
          ((some ((((((a0).set (a3).toNat c3_)).set (a5).toNat c6_)).getD (c9_).toNat (0, 0, 0, 0)))).bind fun c15_ =>
          if (a3).toNat < (((((((a0).set (a3).toNat c3_)).set (a5).toNat c6_)).set (c9_).toNat c12_)).length then
           some (((((((((a0).set (a3).toNat c3_)).set (a5).toNat c6_)).set (c9_).toNat c12_)).set (a3).toNat c15_), c9_, true)
          else none
         else none
        else none
       else none
      else
       if 0 ≤ c9_ ∧ c9_ < ((a1 : Nat) : Int) then
        if (c9_).toNat < (((((a0).set (a3).toNat c3_)).set (a5).toNat c6_)).length then
         ((some ((((((a0).set (a3).toNat c3_)).set (a5).toNat c6_)).getD (c9_).toNat (0, 0, 0, 0)))).bind fun c13_ =>
         if 0 ≤ c8_ ∧ c8_ < ((a1 : Nat) : Int) then
          if (c8_).toNat < (((((a0).set (a3).toNat c3_)).set (a5).toNat c6_)).length then
           ((some ((((((a0).set (a3).toNat c3_)).set (a5).toNat c6_)).getD (c8_).toNat (0, 0, 0, 0)))).bind fun c16_ =>
           if (c9_).toNat < (((((((a0).set (a3).toNat c3_)).set (a5).toNat c6_)).set (c8_).toNat c13_)).length then
            (qff_ n a1 a2 a3 (((((((((a0).set (a3).toNat c3_)).set (a5).toNat c6_)).set (c8_).toNat c13_)).set (c9_).toNat c16_), (w64 (c8_ + 1)), (w64 (c9_ - 1)))).bind fun t => match t with
            | (c18_0, c18_1) =>
             if (a3).toNat < (c18_0).length then
              ((some ((c18_0).getD (a3).toNat (0, 0, 0, 0)))).bind fun c20_ =>
              if 0 ≤ c18_1 ∧ c18_1 < ((a1 : Nat) : Int) then
               if (c18_1).toNat < (c18_0).length then
                ((some ((c18_0).getD (c18_1).toNat (0, 0, 0, 0)))).bind fun c23_ =>
                if (a3).toNat < (((c18_0).set (c18_1).toNat c20_)).length then
                 some (((((c18_0).set (c18_1).toNat c20_)).set (a3).toNat c23_), c18_1, false)
                else none
               else none
              else none
             else none
           else none
          else none
         else none
        else none
       else none
     else none
    else none
   else none
  else none
 else none
theorem qkt_ (n : Nat) (a0 : List (Int × Int × Int × Int)) (a1 : Nat) (a2 : Nat) (a3 : Int) (a4 : Int) (a5 : Int) (r : List (Int × Int × Int × Int) × Int × Bool) (h : qdo_ n a0 a1 a2 a3 a4 a5 = some r) : Gv P (.func 53) (qhv_ a0 a1 a2 a3 a4 a5) (qhw_ a0 a1 a2 a3 a4 a5) (qfp_ a0 a1 a2 a3 a4 a5 r) (qfq_ a0 a1 a2 a3 a4 a5 r) := by
 unfold qdo_ at h
 obtain ⟨hc1, h⟩ := gd h
 obtain ⟨hc2, h⟩ := gd h
 obtain ⟨c3_, hc3, h⟩ := oB h
 obtain ⟨hc4, h⟩ := gd h
 obtain ⟨hc5, h⟩ := gd h
 obtain ⟨c6_, hc6, h⟩ := oB h
 obtain ⟨hc7, h⟩ := gd h
 obtain ⟨c8_, hc8, h⟩ := oB h
 obtain ⟨c9_, hc9, h⟩ := oB h
 have k0 := fun {A L l} (k : PL A L l) => zz 10 (xk3 0 a2 hc1) <|
  yy 11 (.ld (Value.agg #[(Value.int .u64 (c3_.1)), (Value.int .u64 (c3_.2.1)), (Value.int .u64 (c3_.2.2.1)), (Value.int .u64 (c3_.2.2.2))])) <|
  ww (p := rdT (layT (rows rw_uuuu a0)) 4 ((a5).toNat * 4) = some [(Value.int .u64 (c3_.1)), (Value.int .u64 (c3_.2.1)), (Value.int .u64 (c3_.2.2.1)), (Value.int .u64 (c3_.2.2.2))]) (qn_ rwf_uuuu (0, 0, 0, 0) (hr := hc3) (i := (a5).toNat) (j := 0) ((a5).toNat * 4) rfl (hc2) (by decide) rfl) <|
  zz 14 (xk3 0 a2 hc4) <|
  yy 15 (.ld (Value.agg #[(Value.int .u64 (c6_.1)), (Value.int .u64 (c6_.2.1)), (Value.int .u64 (c6_.2.2.1)), (Value.int .u64 (c6_.2.2.2))])) <|
  ww (p := rdT (layT (rows rw_uuuu a0)) 4 ((a3).toNat * 4) = some [(Value.int .u64 (c6_.1)), (Value.int .u64 (c6_.2.1)), (Value.int .u64 (c6_.2.2.1)), (Value.int .u64 (c6_.2.2.2))]) (qn_ rwf_uuuu (0, 0, 0, 0) (hr := hc6) (i := (a3).toNat) (j := 0) ((a3).toNat * 4) rfl (hc5) (by decide) rfl) <|
  zz 16 (xk3 0 a2 hc4) <|
  yy 17 (.sto (layT (rows rw_uuuu ((a0).set (a3).toNat c3_)))) <|
  ww (p := ∃ old, rdT (layT (rows rw_uuuu a0)) 4 ((a3).toNat * 4) = some old) (Exists.elim (qcx_ rwf_uuuu (0, 0, 0, 0) (i := (a3).toNat) (j := 0) (l := [(Value.int .u64 (c3_.1)), (Value.int .u64 (c3_.2.1)), (Value.int .u64 (c3_.2.2.1)), (Value.int .u64 (c3_.2.2.2))]) c3_ ((a3).toNat * 4) rfl (hc5) (Nat.le_of_ble_eq_true rfl) rfl) fun o h => ⟨o, h.1⟩) <|
  ww (p := layL [(Value.int .u64 (c3_.1)), (Value.int .u64 (c3_.2.1)), (Value.int .u64 (c3_.2.2.1)), (Value.int .u64 (c3_.2.2.2))] ((a3).toNat * 4) (layT (rows rw_uuuu a0)) = layT (rows rw_uuuu ((a0).set (a3).toNat c3_))) (Exists.elim (qcx_ rwf_uuuu (0, 0, 0, 0) (i := (a3).toNat) (j := 0) (l := [(Value.int .u64 (c3_.1)), (Value.int .u64 (c3_.2.1)), (Value.int .u64 (c3_.2.2.1)), (Value.int .u64 (c3_.2.2.2))]) c3_ ((a3).toNat * 4) rfl (hc5) (Nat.le_of_ble_eq_true rfl) rfl) fun o h => h.2) <|
  zz 18 (xk3 0 a2 hc1) <|
  yy 19 (.sto (layT (rows rw_uuuu ((((a0).set (a3).toNat c3_)).set (a5).toNat c6_)))) <|
  ww (p := ∃ old, rdT (layT (rows rw_uuuu ((a0).set (a3).toNat c3_))) 4 ((a5).toNat * 4) = some old) (Exists.elim (qcx_ rwf_uuuu (0, 0, 0, 0) (i := (a5).toNat) (j := 0) (l := [(Value.int .u64 (c6_.1)), (Value.int .u64 (c6_.2.1)), (Value.int .u64 (c6_.2.2.1)), (Value.int .u64 (c6_.2.2.2))]) c6_ ((a5).toNat * 4) rfl (hc7) (Nat.le_of_ble_eq_true rfl) rfl) fun o h => ⟨o, h.1⟩) <|
  ww (p := layL [(Value.int .u64 (c6_.1)), (Value.int .u64 (c6_.2.1)), (Value.int .u64 (c6_.2.2.1)), (Value.int .u64 (c6_.2.2.2))] ((a5).toNat * 4) (layT (rows rw_uuuu ((a0).set (a3).toNat c3_))) = layT (rows rw_uuuu ((((a0).set (a3).toNat c3_)).set (a5).toNat c6_))) (Exists.elim (qcx_ rwf_uuuu (0, 0, 0, 0) (i := (a5).toNat) (j := 0) (l := [(Value.int .u64 (c6_.1)), (Value.int .u64 (c6_.2.1)), (Value.int .u64 (c6_.2.2.1)), (Value.int .u64 (c6_.2.2.2))]) c6_ ((a5).toNat * 4) rfl (hc7) (Nat.le_of_ble_eq_true rfl) rfl) fun o h => h.2) <|
  ww (p := qk6_ none ((((a0).set (a3).toNat c3_)).set (a5).toNat c6_) a1 a2 a3 (w64 (a4 - 1)) (w64 (a3 + 1)) c8_) (qke_ n ((((a0).set (a3).toNat c3_)).set (a5).toNat c6_) a1 a2 a3 (w64 (a4 - 1)) (w64 (a3 + 1)) c8_ hc8) <|
  ww (qa_ rwf_uuuu ((((a0).set (a3).toNat c3_)).set (a5).toNat c6_) 24) <|
  ll 29 ⟨⟨[0, 1, 4, 12, 13], [(0, 0, true)], 1, 0, [], false, [], [], []⟩, (qct_ ((((a0).set (a3).toNat c3_)).set (a5).toNat c6_) a1 a2 a3 (w64 (a4 - 1)) c8_).1, (qct_ ((((a0).set (a3).toNat c3_)).set (a5).toNat c6_) a1 a2 a3 (w64 (a4 - 1)) c8_).2⟩ <|
  ww (p := qk5_ none ((((a0).set (a3).toNat c3_)).set (a5).toNat c6_) a1 a2 a3 c8_ (w64 (a4 - 1)) c9_) (qkd_ n ((((a0).set (a3).toNat c3_)).set (a5).toNat c6_) a1 a2 a3 c8_ (w64 (a4 - 1)) c9_ hc9) <|
  ww (qa_ rwf_uuuu ((((a0).set (a3).toNat c3_)).set (a5).toNat c6_) 24) <|
  ll 32 ⟨⟨[0, 1, 4, 12, 13], [(0, 0, true)], 1, 0, [], false, [], [], []⟩, (qcr_ ((((a0).set (a3).toNat c3_)).set (a5).toNat c6_) a1 a2 a3 c8_ c9_).1, (qcr_ ((((a0).set (a3).toNat c3_)).set (a5).toNat c6_) a1 a2 a3 c8_ c9_).2⟩ <|
  k
 by_cases hc10 : c8_ > c9_
 ·rw [if_pos hc10] at h
  obtain ⟨hc11, h⟩ := gd h
  obtain ⟨c12_, hc12, h⟩ := oB h
  obtain ⟨hc13, h⟩ := gd h
  obtain ⟨hc14, h⟩ := gd h
  obtain ⟨c15_, hc15, h⟩ := oB h
  obtain ⟨hc16, h⟩ := gd h
  obtain rfl := oI h
  exact runF2 hm ⟨[10, 11], [(0, 0, true)], 1, 0, [], false, [], [], []⟩ (k0 <|
   zz 37 (xdT hc10) <|
   zz 46 (xk3 0 a2 hc4) <|
   yy 47 (.ld (Value.agg #[(Value.int .u64 (c12_.1)), (Value.int .u64 (c12_.2.1)), (Value.int .u64 (c12_.2.2.1)), (Value.int .u64 (c12_.2.2.2))])) <|
   ww (p := rdT (layT (rows rw_uuuu ((((a0).set (a3).toNat c3_)).set (a5).toNat c6_))) 4 ((a3).toNat * 4) = some [(Value.int .u64 (c12_.1)), (Value.int .u64 (c12_.2.1)), (Value.int .u64 (c12_.2.2.1)), (Value.int .u64 (c12_.2.2.2))]) (qn_ rwf_uuuu (0, 0, 0, 0) (hr := hc12) (i := (a3).toNat) (j := 0) ((a3).toNat * 4) rfl (hc11) (by decide) rfl) <|
   zz 50 (xk3 0 a2 hc13) <|
   yy 51 (.ld (Value.agg #[(Value.int .u64 (c15_.1)), (Value.int .u64 (c15_.2.1)), (Value.int .u64 (c15_.2.2.1)), (Value.int .u64 (c15_.2.2.2))])) <|
   ww (p := rdT (layT (rows rw_uuuu ((((a0).set (a3).toNat c3_)).set (a5).toNat c6_))) 4 ((c9_).toNat * 4) = some [(Value.int .u64 (c15_.1)), (Value.int .u64 (c15_.2.1)), (Value.int .u64 (c15_.2.2.1)), (Value.int .u64 (c15_.2.2.2))]) (qn_ rwf_uuuu (0, 0, 0, 0) (hr := hc15) (i := (c9_).toNat) (j := 0) ((c9_).toNat * 4) rfl (hc14) (by decide) rfl) <|
   zz 52 (xk3 0 a2 hc13) <|
   yy 53 (.sto (layT (rows rw_uuuu ((((((a0).set (a3).toNat c3_)).set (a5).toNat c6_)).set (c9_).toNat c12_)))) <|
   ww (p := ∃ old, rdT (layT (rows rw_uuuu ((((a0).set (a3).toNat c3_)).set (a5).toNat c6_))) 4 ((c9_).toNat * 4) = some old) (Exists.elim (qcx_ rwf_uuuu (0, 0, 0, 0) (i := (c9_).toNat) (j := 0) (l := [(Value.int .u64 (c12_.1)), (Value.int .u64 (c12_.2.1)), (Value.int .u64 (c12_.2.2.1)), (Value.int .u64 (c12_.2.2.2))]) c12_ ((c9_).toNat * 4) rfl (hc14) (Nat.le_of_ble_eq_true rfl) rfl) fun o h => ⟨o, h.1⟩) <|
   ww (p := layL [(Value.int .u64 (c12_.1)), (Value.int .u64 (c12_.2.1)), (Value.int .u64 (c12_.2.2.1)), (Value.int .u64 (c12_.2.2.2))] ((c9_).toNat * 4) (layT (rows rw_uuuu ((((a0).set (a3).toNat c3_)).set (a5).toNat c6_))) = layT (rows rw_uuuu ((((((a0).set (a3).toNat c3_)).set (a5).toNat c6_)).set (c9_).toNat c12_))) (Exists.elim (qcx_ rwf_uuuu (0, 0, 0, 0) (i := (c9_).toNat) (j := 0) (l := [(Value.int .u64 (c12_.1)), (Value.int .u64 (c12_.2.1)), (Value.int .u64 (c12_.2.2.1)), (Value.int .u64 (c12_.2.2.2))]) c12_ ((c9_).toNat * 4) rfl (hc14) (Nat.le_of_ble_eq_true rfl) rfl) fun o h => h.2) <|
   zz 54 (xk3 0 a2 hc4) <|
   yy 55 (.sto (layT (rows rw_uuuu ((((((((a0).set (a3).toNat c3_)).set (a5).toNat c6_)).set (c9_).toNat c12_)).set (a3).toNat c15_)))) <|
   ww (p := ∃ old, rdT (layT (rows rw_uuuu ((((((a0).set (a3).toNat c3_)).set (a5).toNat c6_)).set (c9_).toNat c12_))) 4 ((a3).toNat * 4) = some old) (Exists.elim (qcx_ rwf_uuuu (0, 0, 0, 0) (i := (a3).toNat) (j := 0) (l := [(Value.int .u64 (c15_.1)), (Value.int .u64 (c15_.2.1)), (Value.int .u64 (c15_.2.2.1)), (Value.int .u64 (c15_.2.2.2))]) c15_ ((a3).toNat * 4) rfl (hc16) (Nat.le_of_ble_eq_true rfl) rfl) fun o h => ⟨o, h.1⟩) <|
   ww (p := layL [(Value.int .u64 (c15_.1)), (Value.int .u64 (c15_.2.1)), (Value.int .u64 (c15_.2.2.1)), (Value.int .u64 (c15_.2.2.2))] ((a3).toNat * 4) (layT (rows rw_uuuu ((((((a0).set (a3).toNat c3_)).set (a5).toNat c6_)).set (c9_).toNat c12_))) = layT (rows rw_uuuu ((((((((a0).set (a3).toNat c3_)).set (a5).toNat c6_)).set (c9_).toNat c12_)).set (a3).toNat c15_))) (Exists.elim (qcx_ rwf_uuuu (0, 0, 0, 0) (i := (a3).toNat) (j := 0) (l := [(Value.int .u64 (c15_.1)), (Value.int .u64 (c15_.2.1)), (Value.int .u64 (c15_.2.2.1)), (Value.int .u64 (c15_.2.2.2))]) c15_ ((a3).toNat * 4) rfl (hc16) (Nat.le_of_ble_eq_true rfl) rfl) fun o h => h.2) <|
   ww (qa_ rwf_uuuu ((((((((a0).set (a3).toNat c3_)).set (a5).toNat c6_)).set (c9_).toNat c12_)).set (a3).toNat c15_) 24) <|
   ee) (by kernel_rfl)
 ·rw [if_neg hc10] at h
  obtain ⟨hc11, h⟩ := gd h
  obtain ⟨hc12, h⟩ := gd h
  obtain ⟨c13_, hc13, h⟩ := oB h
  obtain ⟨hc14, h⟩ := gd h
  obtain ⟨hc15, h⟩ := gd h
  obtain ⟨c16_, hc16, h⟩ := oB h
  obtain ⟨hc17, h⟩ := gd h
  obtain ⟨⟨c18_0, c18_1⟩, hc18, h⟩ := oB h
  dsimp only at h
  obtain ⟨hc19, h⟩ := gd h
  obtain ⟨c20_, hc20, h⟩ := oB h
  obtain ⟨hc21, h⟩ := gd h
  obtain ⟨hc22, h⟩ := gd h
  obtain ⟨c23_, hc23, h⟩ := oB h
  obtain ⟨hc24, h⟩ := gd h
  obtain rfl := oI h
  exact runF2 hm ⟨[10, 11], [(0, 0, true)], 1, 0, [], false, [], [], []⟩ (k0 <|
   zz 37 (xdF hc10) <|
   zz 46 (xk3 0 a2 hc11) <|
   yy 47 (.ld (Value.agg #[(Value.int .u64 (c13_.1)), (Value.int .u64 (c13_.2.1)), (Value.int .u64 (c13_.2.2.1)), (Value.int .u64 (c13_.2.2.2))])) <|
   ww (p := rdT (layT (rows rw_uuuu ((((a0).set (a3).toNat c3_)).set (a5).toNat c6_))) 4 ((c9_).toNat * 4) = some [(Value.int .u64 (c13_.1)), (Value.int .u64 (c13_.2.1)), (Value.int .u64 (c13_.2.2.1)), (Value.int .u64 (c13_.2.2.2))]) (qn_ rwf_uuuu (0, 0, 0, 0) (hr := hc13) (i := (c9_).toNat) (j := 0) ((c9_).toNat * 4) rfl (hc12) (by decide) rfl) <|
   zz 50 (xk3 0 a2 hc14) <|
   yy 51 (.ld (Value.agg #[(Value.int .u64 (c16_.1)), (Value.int .u64 (c16_.2.1)), (Value.int .u64 (c16_.2.2.1)), (Value.int .u64 (c16_.2.2.2))])) <|
   ww (p := rdT (layT (rows rw_uuuu ((((a0).set (a3).toNat c3_)).set (a5).toNat c6_))) 4 ((c8_).toNat * 4) = some [(Value.int .u64 (c16_.1)), (Value.int .u64 (c16_.2.1)), (Value.int .u64 (c16_.2.2.1)), (Value.int .u64 (c16_.2.2.2))]) (qn_ rwf_uuuu (0, 0, 0, 0) (hr := hc16) (i := (c8_).toNat) (j := 0) ((c8_).toNat * 4) rfl (hc15) (by decide) rfl) <|
   zz 52 (xk3 0 a2 hc14) <|
   yy 53 (.sto (layT (rows rw_uuuu ((((((a0).set (a3).toNat c3_)).set (a5).toNat c6_)).set (c8_).toNat c13_)))) <|
   ww (p := ∃ old, rdT (layT (rows rw_uuuu ((((a0).set (a3).toNat c3_)).set (a5).toNat c6_))) 4 ((c8_).toNat * 4) = some old) (Exists.elim (qcx_ rwf_uuuu (0, 0, 0, 0) (i := (c8_).toNat) (j := 0) (l := [(Value.int .u64 (c13_.1)), (Value.int .u64 (c13_.2.1)), (Value.int .u64 (c13_.2.2.1)), (Value.int .u64 (c13_.2.2.2))]) c13_ ((c8_).toNat * 4) rfl (hc15) (Nat.le_of_ble_eq_true rfl) rfl) fun o h => ⟨o, h.1⟩) <|
   ww (p := layL [(Value.int .u64 (c13_.1)), (Value.int .u64 (c13_.2.1)), (Value.int .u64 (c13_.2.2.1)), (Value.int .u64 (c13_.2.2.2))] ((c8_).toNat * 4) (layT (rows rw_uuuu ((((a0).set (a3).toNat c3_)).set (a5).toNat c6_))) = layT (rows rw_uuuu ((((((a0).set (a3).toNat c3_)).set (a5).toNat c6_)).set (c8_).toNat c13_))) (Exists.elim (qcx_ rwf_uuuu (0, 0, 0, 0) (i := (c8_).toNat) (j := 0) (l := [(Value.int .u64 (c13_.1)), (Value.int .u64 (c13_.2.1)), (Value.int .u64 (c13_.2.2.1)), (Value.int .u64 (c13_.2.2.2))]) c13_ ((c8_).toNat * 4) rfl (hc15) (Nat.le_of_ble_eq_true rfl) rfl) fun o h => h.2) <|
   zz 54 (xk3 0 a2 hc11) <|
   yy 55 (.sto (layT (rows rw_uuuu ((((((((a0).set (a3).toNat c3_)).set (a5).toNat c6_)).set (c8_).toNat c13_)).set (c9_).toNat c16_)))) <|
   ww (p := ∃ old, rdT (layT (rows rw_uuuu ((((((a0).set (a3).toNat c3_)).set (a5).toNat c6_)).set (c8_).toNat c13_))) 4 ((c9_).toNat * 4) = some old) (Exists.elim (qcx_ rwf_uuuu (0, 0, 0, 0) (i := (c9_).toNat) (j := 0) (l := [(Value.int .u64 (c16_.1)), (Value.int .u64 (c16_.2.1)), (Value.int .u64 (c16_.2.2.1)), (Value.int .u64 (c16_.2.2.2))]) c16_ ((c9_).toNat * 4) rfl (hc17) (Nat.le_of_ble_eq_true rfl) rfl) fun o h => ⟨o, h.1⟩) <|
   ww (p := layL [(Value.int .u64 (c16_.1)), (Value.int .u64 (c16_.2.1)), (Value.int .u64 (c16_.2.2.1)), (Value.int .u64 (c16_.2.2.2))] ((c9_).toNat * 4) (layT (rows rw_uuuu ((((((a0).set (a3).toNat c3_)).set (a5).toNat c6_)).set (c8_).toNat c13_))) = layT (rows rw_uuuu ((((((((a0).set (a3).toNat c3_)).set (a5).toNat c6_)).set (c8_).toNat c13_)).set (c9_).toNat c16_))) (Exists.elim (qcx_ rwf_uuuu (0, 0, 0, 0) (i := (c9_).toNat) (j := 0) (l := [(Value.int .u64 (c16_.1)), (Value.int .u64 (c16_.2.1)), (Value.int .u64 (c16_.2.2.1)), (Value.int .u64 (c16_.2.2.2))]) c16_ ((c9_).toNat * 4) rfl (hc17) (Nat.le_of_ble_eq_true rfl) rfl) fun o h => h.2) <|
   ww (p := qk4_ none a1 a2 a3 (((((((((a0).set (a3).toNat c3_)).set (a5).toNat c6_)).set (c8_).toNat c13_)).set (c9_).toNat c16_), (w64 (c8_ + 1)), (w64 (c9_ - 1))) (c18_0, c18_1)) (qkc_ n a1 a2 a3 (((((((((a0).set (a3).toNat c3_)).set (a5).toNat c6_)).set (c8_).toNat c13_)).set (c9_).toNat c16_), (w64 (c8_ + 1)), (w64 (c9_ - 1))) (c18_0, c18_1) hc18) <|
   ww (qa_ rwf_uuuu ((((((((a0).set (a3).toNat c3_)).set (a5).toNat c6_)).set (c8_).toNat c13_)).set (c9_).toNat c16_) 24) <|
   ll 66 ⟨⟨[0, 1, 4, 12, 13], [(0, 0, true)], 1, 0, [], false, [], [], []⟩, (qco_ a1 a2 a3 (c18_0, c18_1)).1, (qco_ a1 a2 a3 (c18_0, c18_1)).2⟩ <|
   zz 74 (xk3 0 a2 hc4) <|
   yy 75 (.ld (Value.agg #[(Value.int .u64 (c20_.1)), (Value.int .u64 (c20_.2.1)), (Value.int .u64 (c20_.2.2.1)), (Value.int .u64 (c20_.2.2.2))])) <|
   ww (p := rdT (layT (rows rw_uuuu c18_0)) 4 ((a3).toNat * 4) = some [(Value.int .u64 (c20_.1)), (Value.int .u64 (c20_.2.1)), (Value.int .u64 (c20_.2.2.1)), (Value.int .u64 (c20_.2.2.2))]) (qn_ rwf_uuuu (0, 0, 0, 0) (hr := hc20) (i := (a3).toNat) (j := 0) ((a3).toNat * 4) rfl (hc19) (by decide) rfl) <|
   zz 78 (xk3 0 a2 hc21) <|
   yy 79 (.ld (Value.agg #[(Value.int .u64 (c23_.1)), (Value.int .u64 (c23_.2.1)), (Value.int .u64 (c23_.2.2.1)), (Value.int .u64 (c23_.2.2.2))])) <|
   ww (p := rdT (layT (rows rw_uuuu c18_0)) 4 ((c18_1).toNat * 4) = some [(Value.int .u64 (c23_.1)), (Value.int .u64 (c23_.2.1)), (Value.int .u64 (c23_.2.2.1)), (Value.int .u64 (c23_.2.2.2))]) (qn_ rwf_uuuu (0, 0, 0, 0) (hr := hc23) (i := (c18_1).toNat) (j := 0) ((c18_1).toNat * 4) rfl (hc22) (by decide) rfl) <|
   zz 80 (xk3 0 a2 hc21) <|
   yy 81 (.sto (layT (rows rw_uuuu ((c18_0).set (c18_1).toNat c20_)))) <|
   ww (p := ∃ old, rdT (layT (rows rw_uuuu c18_0)) 4 ((c18_1).toNat * 4) = some old) (Exists.elim (qcx_ rwf_uuuu (0, 0, 0, 0) (i := (c18_1).toNat) (j := 0) (l := [(Value.int .u64 (c20_.1)), (Value.int .u64 (c20_.2.1)), (Value.int .u64 (c20_.2.2.1)), (Value.int .u64 (c20_.2.2.2))]) c20_ ((c18_1).toNat * 4) rfl (hc22) (Nat.le_of_ble_eq_true rfl) rfl) fun o h => ⟨o, h.1⟩) <|
   ww (p := layL [(Value.int .u64 (c20_.1)), (Value.int .u64 (c20_.2.1)), (Value.int .u64 (c20_.2.2.1)), (Value.int .u64 (c20_.2.2.2))] ((c18_1).toNat * 4) (layT (rows rw_uuuu c18_0)) = layT (rows rw_uuuu ((c18_0).set (c18_1).toNat c20_))) (Exists.elim (qcx_ rwf_uuuu (0, 0, 0, 0) (i := (c18_1).toNat) (j := 0) (l := [(Value.int .u64 (c20_.1)), (Value.int .u64 (c20_.2.1)), (Value.int .u64 (c20_.2.2.1)), (Value.int .u64 (c20_.2.2.2))]) c20_ ((c18_1).toNat * 4) rfl (hc22) (Nat.le_of_ble_eq_true rfl) rfl) fun o h => h.2) <|
   zz 82 (xk3 0 a2 hc4) <|
   yy 83 (.sto (layT (rows rw_uuuu ((((c18_0).set (c18_1).toNat c20_)).set (a3).toNat c23_)))) <|
   ww (p := ∃ old, rdT (layT (rows rw_uuuu ((c18_0).set (c18_1).toNat c20_))) 4 ((a3).toNat * 4) = some old) (Exists.elim (qcx_ rwf_uuuu (0, 0, 0, 0) (i := (a3).toNat) (j := 0) (l := [(Value.int .u64 (c23_.1)), (Value.int .u64 (c23_.2.1)), (Value.int .u64 (c23_.2.2.1)), (Value.int .u64 (c23_.2.2.2))]) c23_ ((a3).toNat * 4) rfl (hc24) (Nat.le_of_ble_eq_true rfl) rfl) fun o h => ⟨o, h.1⟩) <|
   ww (p := layL [(Value.int .u64 (c23_.1)), (Value.int .u64 (c23_.2.1)), (Value.int .u64 (c23_.2.2.1)), (Value.int .u64 (c23_.2.2.2))] ((a3).toNat * 4) (layT (rows rw_uuuu ((c18_0).set (c18_1).toNat c20_))) = layT (rows rw_uuuu ((((c18_0).set (c18_1).toNat c20_)).set (a3).toNat c23_))) (Exists.elim (qcx_ rwf_uuuu (0, 0, 0, 0) (i := (a3).toNat) (j := 0) (l := [(Value.int .u64 (c23_.1)), (Value.int .u64 (c23_.2.1)), (Value.int .u64 (c23_.2.2.1)), (Value.int .u64 (c23_.2.2.2))]) c23_ ((a3).toNat * 4) rfl (hc24) (Nat.le_of_ble_eq_true rfl) rfl) fun o h => h.2) <|
   ww (qa_ rwf_uuuu ((((c18_0).set (c18_1).toNat c20_)).set (a3).toNat c23_) 24) <|
   ee) (by kernel_rfl)

def qgq_ (a0 : List (Int × Int × Int × Int)) (a1 : Nat) (a2 : Nat) (a3 : Int) (a4 : Int) (a5 : Int) : List Value := [(sN 0 0 a1 a2), (i6 a3), (i6 a4), (i6 a5), (Value.func (.func 38) #[] #[])]
def qgr_ (a0 : List (Int × Int × Int × Int)) (a1 : Nat) (a2 : Nat) (a3 : Int) (a4 : Int) (a5 : Int) : AH := ⟨sB [(0, (some (.cells (layT (rows rw_uuuu a0)) 24)))], 1, 1⟩
def qei_ (a0 : List (Int × Int × Int × Int)) (a1 : Nat) (a2 : Nat) (a3 : Int) (a4 : Int) (a5 : Int) (r : List (Int × Int × Int × Int) × Int) : Value := match r with
 | (o0, o1) => (i6 o1)
def qej_ (a0 : List (Int × Int × Int × Int)) (a1 : Nat) (a2 : Nat) (a3 : Int) (a4 : Int) (a5 : Int) (r : List (Int × Int × Int × Int) × Int) : AH := match r with
 | (o0, o1) => ⟨sB [(0, (some (.cells (layT (rows rw_uuuu o0)) 24)))], 1, 0⟩
abbrev qqd_ (a0 : List (Int × Int × Int × Int)) (a1 : Nat) (a2 : Nat) (a3 : Int) (a4 : Int) (a5 : Int) (r : List (Int × Int × Int × Int) × Int) : Prop := Gv P (.func 52) (qgq_ a0 a1 a2 a3 a4 a5) (qgr_ a0 a1 a2 a3 a4 a5) (qei_ a0 a1 a2 a3 a4 a5 r) (qej_ a0 a1 a2 a3 a4 a5 r)
abbrev qkf_ (a0 : List (Int × Int × Int × Int)) (a1 : Nat) (a2 : Nat) (a3 : Int) (a4 : Int) (a5 : Int) (r : List (Int × Int × Int × Int) × Int) (ins outs : BL) : CallA := ⟨1, ins, qei_ a0 a1 a2 a3 a4 a5 r, qej_ a0 a1 a2 a3 a4 a5 r, outs⟩
def qbp_ (x0 : List (Int × Int × Int × Int)) (x1 : Nat) (x2 : Nat) (x3 : Int) (x4 : Int) (st : Int) : XSt := match st with
 | x5 => (sT 90 [(0, (sN 0 0 x1 x2)), (1, (i6 x3)), (4, (Value.func (.func 38) #[] #[])), (11, (i6 x4)), (12, (i6 x5))], [], ⟨sB [(0, (some (.cells (layT (rows rw_uuuu x0)) 24)))], 1, 0⟩)
def qbq_ (x0 : List (Int × Int × Int × Int)) (x1 : Nat) (x2 : Nat) (x3 : Int) (x4 : Int) (r : Int) : Ex × XSt := match r with
 | z0 => (.exit 4, (sT 90 [(0, (sN 0 0 x1 x2)), (1, (i6 x3)), (4, (Value.func (.func 38) #[] #[])), (11, (i6 x4)), (12, (i6 z0))], [], ⟨sB [(0, (some (.cells (layT (rows rw_uuuu x0)) 24)))], 1, 0⟩))
abbrev qo2_ (rnd : Option Nat) (x0 : List (Int × Int × Int × Int)) (x1 : Nat) (x2 : Nat) (x3 : Int) (x4 : Int) (st : Int) (c : Ex × XSt) : Prop := CG P rnd (fnN P 52) 1 (qt_ P 52 [false, false, false, true, false, false, false, false, true, true, true]) (qbp_ x0 x1 x2 x3 x4 st) c
abbrev qjn_ (rd : Option Nat) (x0 : List (Int × Int × Int × Int)) (x1 : Nat) (x2 : Nat) (x3 : Int) (x4 : Int) (st : Int) (r : Int) : Prop := CG P rd (fnN P 52) 1 (qt_ P 52 [false, false, true, false, false, false, false, true, true, true]) (qbp_ x0 x1 x2 x3 x4 st) (qbq_ x0 x1 x2 x3 x4 r)
def qu_ (n : Nat) (x0 : List (Int × Int × Int × Int)) (x1 : Nat) (x2 : Nat) (x3 : Int) (x4 : Int) (st : Int) : Option ((Int) ⊕ (Int)) := match st with
 | x5 =>
  if x4 ≤ x5 then
   if 0 ≤ x3 ∧ x3 < ((x1 : Nat) : Int) then
    if (x3).toNat < (x0).length then
     ((some ((x0).getD (x3).toNat (0, 0, 0, 0)))).bind fun y4_ =>
     if 0 ≤ x5 ∧ x5 < ((x1 : Nat) : Int) then
      if (x5).toNat < (x0).length then
       ((some ((x0).getD (x5).toNat (0, 0, 0, 0)))).bind fun y7_ =>
       (qd_ n (y4_.1) (y4_.2.1) (y4_.2.2.1) (y4_.2.2.2) (y7_.1) (y7_.2.1) (y7_.2.2.1) (y7_.2.2.2)).bind fun y8_ =>
       if y8_ < 0 then
        some (.inl (w64 (x5 - 1)))
       else
        some (.inr x5)
      else none
     else none
    else none
   else none
  else
   some (.inr x5)
def qd7_ (n : Nat) (x0 : List (Int × Int × Int × Int)) (x1 : Nat) (x2 : Nat) (x3 : Int) (x4 : Int) (st : Int) : Option (Int) := iterM (qu_ n x0 x1 x2 x3 x4) n st
theorem qf2_ (n : Nat) {rnd : Option Nat} (x0 : List (Int × Int × Int × Int)) (x1 : Nat) (x2 : Nat) (x3 : Int) (x4 : Int) (x5 : Int) (o : (Int) ⊕ (Int)) (h : qu_ n x0 x1 x2 x3 x4 x5 = some o) : CG P rnd (fnN P 52) 1 (qt_ P 52 [false, false, false, true, false, false, false, false, true, true, true]) (qbp_ x0 x1 x2 x3 x4 x5) (Sum.elim (fun s => (.normal, qbp_ x0 x1 x2 x3 x4 s)) (fun r => qbq_ x0 x1 x2 x3 x4 r) o) := by
 unfold qu_ at h
 dsimp only at h
 by_cases hy1 : x4 ≤ x5
 ·rw [if_pos hy1] at h
  obtain ⟨hy2, h⟩ := gd h
  obtain ⟨hy3, h⟩ := gd h
  obtain ⟨y4_, hy4, h⟩ := oB h
  obtain ⟨hy5, h⟩ := gd h
  obtain ⟨hy6, h⟩ := gd h
  obtain ⟨y7_, hy7, h⟩ := oB h
  obtain ⟨y8_, hy8, h⟩ := oB h
  have k0 := fun {A L l} (k : PL A L l) => zz 4 (xdT hy1) <|
   zz 9 (xk3 0 x2 hy2) <|
   yy 10 (.ld (Value.agg #[(Value.int .u64 (y4_.1)), (Value.int .u64 (y4_.2.1)), (Value.int .u64 (y4_.2.2.1)), (Value.int .u64 (y4_.2.2.2))])) <|
   ww (p := rdT (layT (rows rw_uuuu x0)) 4 ((x3).toNat * 4) = some [(Value.int .u64 (y4_.1)), (Value.int .u64 (y4_.2.1)), (Value.int .u64 (y4_.2.2.1)), (Value.int .u64 (y4_.2.2.2))]) (qn_ rwf_uuuu (0, 0, 0, 0) (hr := hy4) (i := (x3).toNat) (j := 0) ((x3).toNat * 4) rfl (hy3) (by decide) rfl) <|
   zz 13 (xk3 0 x2 hy5) <|
   yy 14 (.ld (Value.agg #[(Value.int .u64 (y7_.1)), (Value.int .u64 (y7_.2.1)), (Value.int .u64 (y7_.2.2.1)), (Value.int .u64 (y7_.2.2.2))])) <|
   ww (p := rdT (layT (rows rw_uuuu x0)) 4 ((x5).toNat * 4) = some [(Value.int .u64 (y7_.1)), (Value.int .u64 (y7_.2.1)), (Value.int .u64 (y7_.2.2.1)), (Value.int .u64 (y7_.2.2.2))]) (qn_ rwf_uuuu (0, 0, 0, 0) (hr := hy7) (i := (x5).toNat) (j := 0) ((x5).toNat * 4) rfl (hy6) (by decide) rfl) <|
   yy 15 (.call (qbg_ (y4_.1) (y4_.2.1) (y4_.2.2.1) (y4_.2.2.2) (y7_.1) (y7_.2.1) (y7_.2.2.1) (y7_.2.2.2) y8_ [] [])) <|
   ww (qw_ n (y4_.1) (y4_.2.1) (y4_.2.2.1) (y4_.2.2.2) (y7_.1) (y7_.2.1) (y7_.2.2.1) (y7_.2.2.2) y8_ hy8) <|
   k
  by_cases hy9 : y8_ < 0
  ·rw [if_pos hy9] at h
   obtain rfl := oI h
   exact runC2 hm ⟨[0, 1, 4, 11, 12], [(0, 0, true)], 1, 0, [], false, [], [], []⟩ (k0 <|
    zz 16 (xdT hy9) <|
    ww (qa_ rwf_uuuu x0 24) <|
    ee) (by kernel_rfl)
  ·rw [if_neg hy9] at h
   obtain rfl := oI h
   exact runC2 hm ⟨[0, 1, 4, 11, 12], [(0, 0, true)], 1, 0, [], false, [], [], []⟩ (k0 <|
    zz 16 (xdF hy9) <|
    ww (qa_ rwf_uuuu x0 24) <|
    ee) (by kernel_rfl)
 ·rw [if_neg hy1] at h
  obtain rfl := oI h
  exact runC2 hm ⟨[0, 1, 4, 11, 12], [(0, 0, true)], 1, 0, [], false, [], [], []⟩ (zz 4 (xdF hy1) <|
   ww (qa_ rwf_uuuu x0 24) <|
   ee) (by kernel_rfl)
theorem qi4_ (n : Nat) {rnd : Option Nat} (x0 : List (Int × Int × Int × Int)) (x1 : Nat) (x2 : Nat) (x3 : Int) (x4 : Int) (st : Int) (r : Int) (h : qd7_ n x0 x1 x2 x3 x4 st = some r) : CG P rnd (fnN P 52) 1 (qt_ P 52 [false, false, true, false, false, false, false, true, true, true]) (qbp_ x0 x1 x2 x3 x4 st) (qbq_ x0 x1 x2 x3 x4 r) :=
 CG.iter (b := qt_ P 52 [false, false, false, true, false, false, false, false, true, true, true]) (by kernel_rfl) (body := qu_ n x0 x1 x2 x3 x4) (S := qbp_ x0 x1 x2 x3 x4) (X := qbq_ x0 x1 x2 x3 x4)
  (fun s s' h => qf2_ n x0 x1 x2 x3 x4 s (.inl s') h)
  (fun s r h => qf2_ n x0 x1 x2 x3 x4 s (.inr r) h)
  (fun r => by intro hx; cases hx) h
def qbr_ (x0 : List (Int × Int × Int × Int)) (x1 : Nat) (x2 : Nat) (x3 : Int) (x5 : Int) (st : Int) : XSt := match st with
 | x4 => (sT 90 [(0, (sN 0 0 x1 x2)), (1, (i6 x3)), (4, (Value.func (.func 38) #[] #[])), (11, (i6 x4)), (12, (i6 x5))], [], ⟨sB [(0, (some (.cells (layT (rows rw_uuuu x0)) 24)))], 1, 0⟩)
def qbs_ (x0 : List (Int × Int × Int × Int)) (x1 : Nat) (x2 : Nat) (x3 : Int) (x5 : Int) (r : Int) : Ex × XSt := match r with
 | z0 => (.exit 2, (sT 90 [(0, (sN 0 0 x1 x2)), (1, (i6 x3)), (4, (Value.func (.func 38) #[] #[])), (11, (i6 z0)), (12, (i6 x5))], [], ⟨sB [(0, (some (.cells (layT (rows rw_uuuu x0)) 24)))], 1, 0⟩))
abbrev qo3_ (rnd : Option Nat) (x0 : List (Int × Int × Int × Int)) (x1 : Nat) (x2 : Nat) (x3 : Int) (x5 : Int) (st : Int) (c : Ex × XSt) : Prop := CG P rnd (fnN P 52) 1 (qt_ P 52 [false, false, false, false, false, false, false, true, true, true]) (qbr_ x0 x1 x2 x3 x5 st) c
abbrev qjo_ (rd : Option Nat) (x0 : List (Int × Int × Int × Int)) (x1 : Nat) (x2 : Nat) (x3 : Int) (x5 : Int) (st : Int) (r : Int) : Prop := CG P rd (fnN P 52) 1 (qt_ P 52 [false, false, false, false, false, false, true, true, true]) (qbr_ x0 x1 x2 x3 x5 st) (qbs_ x0 x1 x2 x3 x5 r)
def qv_ (n : Nat) (x0 : List (Int × Int × Int × Int)) (x1 : Nat) (x2 : Nat) (x3 : Int) (x5 : Int) (st : Int) : Option ((Int) ⊕ (Int)) := match st with
 | x4 =>
  if x4 ≤ x5 then
   if 0 ≤ x3 ∧ x3 < ((x1 : Nat) : Int) then
    if (x3).toNat < (x0).length then
     ((some ((x0).getD (x3).toNat (0, 0, 0, 0)))).bind fun y4_ =>
     if 0 ≤ x4 ∧ x4 < ((x1 : Nat) : Int) then
      if (x4).toNat < (x0).length then
       ((some ((x0).getD (x4).toNat (0, 0, 0, 0)))).bind fun y7_ =>
       (qd_ n (y4_.1) (y4_.2.1) (y4_.2.2.1) (y4_.2.2.2) (y7_.1) (y7_.2.1) (y7_.2.2.1) (y7_.2.2.2)).bind fun y8_ =>
       if y8_ < 0 then
        some (.inr x4)
       else
        some (.inl (w64 (x4 + 1)))
      else none
     else none
    else none
   else none
  else
   some (.inr x4)
def qd8_ (n : Nat) (x0 : List (Int × Int × Int × Int)) (x1 : Nat) (x2 : Nat) (x3 : Int) (x5 : Int) (st : Int) : Option (Int) := iterM (qv_ n x0 x1 x2 x3 x5) n st
theorem qf3_ (n : Nat) {rnd : Option Nat} (x0 : List (Int × Int × Int × Int)) (x1 : Nat) (x2 : Nat) (x3 : Int) (x5 : Int) (x4 : Int) (o : (Int) ⊕ (Int)) (h : qv_ n x0 x1 x2 x3 x5 x4 = some o) : CG P rnd (fnN P 52) 1 (qt_ P 52 [false, false, false, false, false, false, false, true, true, true]) (qbr_ x0 x1 x2 x3 x5 x4) (Sum.elim (fun s => (.normal, qbr_ x0 x1 x2 x3 x5 s)) (fun r => qbs_ x0 x1 x2 x3 x5 r) o) := by
 unfold qv_ at h
 dsimp only at h
 by_cases hy1 : x4 ≤ x5
 ·rw [if_pos hy1] at h
  obtain ⟨hy2, h⟩ := gd h
  obtain ⟨hy3, h⟩ := gd h
  obtain ⟨y4_, hy4, h⟩ := oB h
  obtain ⟨hy5, h⟩ := gd h
  obtain ⟨hy6, h⟩ := gd h
  obtain ⟨y7_, hy7, h⟩ := oB h
  obtain ⟨y8_, hy8, h⟩ := oB h
  have k0 := fun {A L l} (k : PL A L l) => zz 4 (xdT hy1) <|
   zz 9 (xk3 0 x2 hy2) <|
   yy 10 (.ld (Value.agg #[(Value.int .u64 (y4_.1)), (Value.int .u64 (y4_.2.1)), (Value.int .u64 (y4_.2.2.1)), (Value.int .u64 (y4_.2.2.2))])) <|
   ww (p := rdT (layT (rows rw_uuuu x0)) 4 ((x3).toNat * 4) = some [(Value.int .u64 (y4_.1)), (Value.int .u64 (y4_.2.1)), (Value.int .u64 (y4_.2.2.1)), (Value.int .u64 (y4_.2.2.2))]) (qn_ rwf_uuuu (0, 0, 0, 0) (hr := hy4) (i := (x3).toNat) (j := 0) ((x3).toNat * 4) rfl (hy3) (by decide) rfl) <|
   zz 13 (xk3 0 x2 hy5) <|
   yy 14 (.ld (Value.agg #[(Value.int .u64 (y7_.1)), (Value.int .u64 (y7_.2.1)), (Value.int .u64 (y7_.2.2.1)), (Value.int .u64 (y7_.2.2.2))])) <|
   ww (p := rdT (layT (rows rw_uuuu x0)) 4 ((x4).toNat * 4) = some [(Value.int .u64 (y7_.1)), (Value.int .u64 (y7_.2.1)), (Value.int .u64 (y7_.2.2.1)), (Value.int .u64 (y7_.2.2.2))]) (qn_ rwf_uuuu (0, 0, 0, 0) (hr := hy7) (i := (x4).toNat) (j := 0) ((x4).toNat * 4) rfl (hy6) (by decide) rfl) <|
   yy 15 (.call (qbg_ (y4_.1) (y4_.2.1) (y4_.2.2.1) (y4_.2.2.2) (y7_.1) (y7_.2.1) (y7_.2.2.1) (y7_.2.2.2) y8_ [] [])) <|
   ww (qw_ n (y4_.1) (y4_.2.1) (y4_.2.2.1) (y4_.2.2.2) (y7_.1) (y7_.2.1) (y7_.2.2.1) (y7_.2.2.2) y8_ hy8) <|
   k
  by_cases hy9 : y8_ < 0
  ·rw [if_pos hy9] at h
   obtain rfl := oI h
   exact runC2 hm ⟨[0, 1, 4, 11, 12], [(0, 0, true)], 1, 0, [], false, [], [], []⟩ (k0 <|
    zz 16 (xdT hy9) <|
    ww (qa_ rwf_uuuu x0 24) <|
    ee) (by kernel_rfl)
  ·rw [if_neg hy9] at h
   obtain rfl := oI h
   exact runC2 hm ⟨[0, 1, 4, 11, 12], [(0, 0, true)], 1, 0, [], false, [], [], []⟩ (k0 <|
    zz 16 (xdF hy9) <|
    ww (qa_ rwf_uuuu x0 24) <|
    ee) (by kernel_rfl)
 ·rw [if_neg hy1] at h
  obtain rfl := oI h
  exact runC2 hm ⟨[0, 1, 4, 11, 12], [(0, 0, true)], 1, 0, [], false, [], [], []⟩ (zz 4 (xdF hy1) <|
   ww (qa_ rwf_uuuu x0 24) <|
   ee) (by kernel_rfl)
theorem qi5_ (n : Nat) {rnd : Option Nat} (x0 : List (Int × Int × Int × Int)) (x1 : Nat) (x2 : Nat) (x3 : Int) (x5 : Int) (st : Int) (r : Int) (h : qd8_ n x0 x1 x2 x3 x5 st = some r) : CG P rnd (fnN P 52) 1 (qt_ P 52 [false, false, false, false, false, false, true, true, true]) (qbr_ x0 x1 x2 x3 x5 st) (qbs_ x0 x1 x2 x3 x5 r) :=
 CG.iter (b := qt_ P 52 [false, false, false, false, false, false, false, true, true, true]) (by kernel_rfl) (body := qv_ n x0 x1 x2 x3 x5) (S := qbr_ x0 x1 x2 x3 x5) (X := qbs_ x0 x1 x2 x3 x5)
  (fun s s' h => qf3_ n x0 x1 x2 x3 x5 s (.inl s') h)
  (fun s r h => qf3_ n x0 x1 x2 x3 x5 s (.inr r) h)
  (fun r => by intro hx; cases hx) h
def qbt_ (x1 : Nat) (x2 : Nat) (x3 : Int) (st : List (Int × Int × Int × Int) × Int × Int) : XSt := match st with
 | (x0, x4, x5) => (sT 90 [(0, (sN 0 0 x1 x2)), (1, (i6 x3)), (4, (Value.func (.func 38) #[] #[])), (11, (i6 x4)), (12, (i6 x5))], [], ⟨sB [(0, (some (.cells (layT (rows rw_uuuu x0)) 24)))], 1, 0⟩)
def qbu_ (x1 : Nat) (x2 : Nat) (x3 : Int) (r : List (Int × Int × Int × Int) × Int) : Ex × XSt := match r with
 | (z0, z1) => (.exit 0, (sT 90 [(11, (i6 z1))], [], ⟨sB [(0, (some (.cells (layT (rows rw_uuuu z0)) 24)))], 1, 0⟩))
abbrev qo4_ (rnd : Option Nat) (x1 : Nat) (x2 : Nat) (x3 : Int) (st : List (Int × Int × Int × Int) × Int × Int) (c : Ex × XSt) : Prop := CG P rnd (fnN P 52) 1 (qt_ P 52 [false, false, false, true, true, true]) (qbt_ x1 x2 x3 st) c
abbrev qjp_ (rd : Option Nat) (x1 : Nat) (x2 : Nat) (x3 : Int) (st : List (Int × Int × Int × Int) × Int × Int) (r : List (Int × Int × Int × Int) × Int) : Prop := CG P rd (fnN P 52) 1 (qt_ P 52 [false, false, true, true, true]) (qbt_ x1 x2 x3 st) (qbu_ x1 x2 x3 r)
def qbv_ (n : Nat) (x1 : Nat) (x2 : Nat) (x3 : Int) (st : List (Int × Int × Int × Int) × Int × Int) : Option ((List (Int × Int × Int × Int) × Int × Int) ⊕ (List (Int × Int × Int × Int) × Int)) := match st with
 | (x0, x4, x5) =>
  (qd8_ n x0 x1 x2 x3 x5 x4).bind fun y1_ =>
  (qd7_ n x0 x1 x2 x3 y1_ x5).bind fun y2_ =>
  if y1_ > y2_ then
   some (.inr (x0, y1_))
  else
   if 0 ≤ y2_ ∧ y2_ < ((x1 : Nat) : Int) then
    if (y2_).toNat < (x0).length then
     ((some ((x0).getD (y2_).toNat (0, 0, 0, 0)))).bind fun y6_ =>
     if 0 ≤ y1_ ∧ y1_ < ((x1 : Nat) : Int) then
      if (y1_).toNat < (x0).length then
       ((some ((x0).getD (y1_).toNat (0, 0, 0, 0)))).bind fun y9_ =>
       if (y2_).toNat < (((x0).set (y1_).toNat y6_)).length then
        some (.inl (((((x0).set (y1_).toNat y6_)).set (y2_).toNat y9_), (w64 (y1_ + 1)), (w64 (y2_ - 1))))
       else none
      else none
     else none
    else none
   else none
def qd9_ (n : Nat) (x1 : Nat) (x2 : Nat) (x3 : Int) (st : List (Int × Int × Int × Int) × Int × Int) : Option (List (Int × Int × Int × Int) × Int) := iterM (qbv_ n x1 x2 x3) n st
theorem qf4_ (n : Nat) {rnd : Option Nat} (x1 : Nat) (x2 : Nat) (x3 : Int) (st : List (Int × Int × Int × Int) × Int × Int) (o : (List (Int × Int × Int × Int) × Int × Int) ⊕ (List (Int × Int × Int × Int) × Int)) (h : qbv_ n x1 x2 x3 st = some o) : CG P rnd (fnN P 52) 1 (qt_ P 52 [false, false, false, true, true, true]) (qbt_ x1 x2 x3 st) (Sum.elim (fun s => (.normal, qbt_ x1 x2 x3 s)) (fun r => qbu_ x1 x2 x3 r) o) := by
 obtain ⟨x0, x4, x5⟩ := st
 unfold qbv_ at h
 dsimp only at h
 obtain ⟨y1_, hy1, h⟩ := oB h
 obtain ⟨y2_, hy2, h⟩ := oB h
 have k0 := fun {A L l} (k : PL A L l) => ww (p := qjo_ rnd x0 x1 x2 x3 x5 x4 y1_) (qi5_ n x0 x1 x2 x3 x5 x4 y1_ hy1) <|
  ww (qa_ rwf_uuuu x0 24) <|
  ll 3 ⟨⟨[0, 1, 4, 11, 12], [(0, 0, true)], 1, 0, [], false, [], [], []⟩, (qbs_ x0 x1 x2 x3 x5 y1_).1, (qbs_ x0 x1 x2 x3 x5 y1_).2⟩ <|
  ww (p := qjn_ rnd x0 x1 x2 x3 y1_ x5 y2_) (qi4_ n x0 x1 x2 x3 y1_ x5 y2_ hy2) <|
  ww (qa_ rwf_uuuu x0 24) <|
  ll 6 ⟨⟨[0, 1, 4, 11, 12], [(0, 0, true)], 1, 0, [], false, [], [], []⟩, (qbq_ x0 x1 x2 x3 y1_ y2_).1, (qbq_ x0 x1 x2 x3 y1_ y2_).2⟩ <|
  k
 by_cases hy3 : y1_ > y2_
 ·rw [if_pos hy3] at h
  obtain rfl := oI h
  exact runC2 hm ⟨[11], [(0, 0, true)], 1, 0, [], false, [], [], []⟩ (k0 <|
   zz 11 (xdT hy3) <|
   ww (qa_ rwf_uuuu x0 24) <|
   ee) (by kernel_rfl)
 ·rw [if_neg hy3] at h
  obtain ⟨hy4, h⟩ := gd h
  obtain ⟨hy5, h⟩ := gd h
  obtain ⟨y6_, hy6, h⟩ := oB h
  obtain ⟨hy7, h⟩ := gd h
  obtain ⟨hy8, h⟩ := gd h
  obtain ⟨y9_, hy9, h⟩ := oB h
  obtain ⟨hy10, h⟩ := gd h
  obtain rfl := oI h
  exact runC2 hm ⟨[0, 1, 4, 11, 12], [(0, 0, true)], 1, 0, [], false, [], [], []⟩ (k0 <|
   zz 11 (xdF hy3) <|
   zz 20 (xk3 0 x2 hy4) <|
   yy 21 (.ld (Value.agg #[(Value.int .u64 (y6_.1)), (Value.int .u64 (y6_.2.1)), (Value.int .u64 (y6_.2.2.1)), (Value.int .u64 (y6_.2.2.2))])) <|
   ww (p := rdT (layT (rows rw_uuuu x0)) 4 ((y2_).toNat * 4) = some [(Value.int .u64 (y6_.1)), (Value.int .u64 (y6_.2.1)), (Value.int .u64 (y6_.2.2.1)), (Value.int .u64 (y6_.2.2.2))]) (qn_ rwf_uuuu (0, 0, 0, 0) (hr := hy6) (i := (y2_).toNat) (j := 0) ((y2_).toNat * 4) rfl (hy5) (by decide) rfl) <|
   zz 24 (xk3 0 x2 hy7) <|
   yy 25 (.ld (Value.agg #[(Value.int .u64 (y9_.1)), (Value.int .u64 (y9_.2.1)), (Value.int .u64 (y9_.2.2.1)), (Value.int .u64 (y9_.2.2.2))])) <|
   ww (p := rdT (layT (rows rw_uuuu x0)) 4 ((y1_).toNat * 4) = some [(Value.int .u64 (y9_.1)), (Value.int .u64 (y9_.2.1)), (Value.int .u64 (y9_.2.2.1)), (Value.int .u64 (y9_.2.2.2))]) (qn_ rwf_uuuu (0, 0, 0, 0) (hr := hy9) (i := (y1_).toNat) (j := 0) ((y1_).toNat * 4) rfl (hy8) (by decide) rfl) <|
   zz 26 (xk3 0 x2 hy7) <|
   yy 27 (.sto (layT (rows rw_uuuu ((x0).set (y1_).toNat y6_)))) <|
   ww (p := ∃ old, rdT (layT (rows rw_uuuu x0)) 4 ((y1_).toNat * 4) = some old) (Exists.elim (qcx_ rwf_uuuu (0, 0, 0, 0) (i := (y1_).toNat) (j := 0) (l := [(Value.int .u64 (y6_.1)), (Value.int .u64 (y6_.2.1)), (Value.int .u64 (y6_.2.2.1)), (Value.int .u64 (y6_.2.2.2))]) y6_ ((y1_).toNat * 4) rfl (hy8) (Nat.le_of_ble_eq_true rfl) rfl) fun o h => ⟨o, h.1⟩) <|
   ww (p := layL [(Value.int .u64 (y6_.1)), (Value.int .u64 (y6_.2.1)), (Value.int .u64 (y6_.2.2.1)), (Value.int .u64 (y6_.2.2.2))] ((y1_).toNat * 4) (layT (rows rw_uuuu x0)) = layT (rows rw_uuuu ((x0).set (y1_).toNat y6_))) (Exists.elim (qcx_ rwf_uuuu (0, 0, 0, 0) (i := (y1_).toNat) (j := 0) (l := [(Value.int .u64 (y6_.1)), (Value.int .u64 (y6_.2.1)), (Value.int .u64 (y6_.2.2.1)), (Value.int .u64 (y6_.2.2.2))]) y6_ ((y1_).toNat * 4) rfl (hy8) (Nat.le_of_ble_eq_true rfl) rfl) fun o h => h.2) <|
   zz 28 (xk3 0 x2 hy4) <|
   yy 29 (.sto (layT (rows rw_uuuu ((((x0).set (y1_).toNat y6_)).set (y2_).toNat y9_)))) <|
   ww (p := ∃ old, rdT (layT (rows rw_uuuu ((x0).set (y1_).toNat y6_))) 4 ((y2_).toNat * 4) = some old) (Exists.elim (qcx_ rwf_uuuu (0, 0, 0, 0) (i := (y2_).toNat) (j := 0) (l := [(Value.int .u64 (y9_.1)), (Value.int .u64 (y9_.2.1)), (Value.int .u64 (y9_.2.2.1)), (Value.int .u64 (y9_.2.2.2))]) y9_ ((y2_).toNat * 4) rfl (hy10) (Nat.le_of_ble_eq_true rfl) rfl) fun o h => ⟨o, h.1⟩) <|
   ww (p := layL [(Value.int .u64 (y9_.1)), (Value.int .u64 (y9_.2.1)), (Value.int .u64 (y9_.2.2.1)), (Value.int .u64 (y9_.2.2.2))] ((y2_).toNat * 4) (layT (rows rw_uuuu ((x0).set (y1_).toNat y6_))) = layT (rows rw_uuuu ((((x0).set (y1_).toNat y6_)).set (y2_).toNat y9_))) (Exists.elim (qcx_ rwf_uuuu (0, 0, 0, 0) (i := (y2_).toNat) (j := 0) (l := [(Value.int .u64 (y9_.1)), (Value.int .u64 (y9_.2.1)), (Value.int .u64 (y9_.2.2.1)), (Value.int .u64 (y9_.2.2.2))]) y9_ ((y2_).toNat * 4) rfl (hy10) (Nat.le_of_ble_eq_true rfl) rfl) fun o h => h.2) <|
   ww (qa_ rwf_uuuu ((((x0).set (y1_).toNat y6_)).set (y2_).toNat y9_) 24) <|
   ee) (by kernel_rfl)
theorem qi6_ (n : Nat) {rnd : Option Nat} (x1 : Nat) (x2 : Nat) (x3 : Int) (st : List (Int × Int × Int × Int) × Int × Int) (r : List (Int × Int × Int × Int) × Int) (h : qd9_ n x1 x2 x3 st = some r) : CG P rnd (fnN P 52) 1 (qt_ P 52 [false, false, true, true, true]) (qbt_ x1 x2 x3 st) (qbu_ x1 x2 x3 r) :=
 CG.iter (b := qt_ P 52 [false, false, false, true, true, true]) (by kernel_rfl) (body := qbv_ n x1 x2 x3) (S := qbt_ x1 x2 x3) (X := qbu_ x1 x2 x3)
  (fun s s' h => qf4_ n x1 x2 x3 s (.inl s') h)
  (fun s r h => qf4_ n x1 x2 x3 s (.inr r) h)
  (fun r => by intro hx; cases hx) h
def qc5_ (n : Nat) (a0 : List (Int × Int × Int × Int)) (a1 : Nat) (a2 : Nat) (a3 : Int) (a4 : Int) (a5 : Int) : Option (List (Int × Int × Int × Int) × Int) :=
 if 0 ≤ a5 ∧ a5 < ((a1 : Nat) : Int) then
  if (a5).toNat < (a0).length then
   ((some ((a0).getD (a5).toNat (0, 0, 0, 0)))).bind fun c3_ =>
   if 0 ≤ a3 ∧ a3 < ((a1 : Nat) : Int) then
    if (a3).toNat < (a0).length then
     ((some ((a0).getD (a3).toNat (0, 0, 0, 0)))).bind fun c6_ =>
     if (a5).toNat < (((a0).set (a3).toNat c3_)).length then
      (qd9_ n a1 a2 a3 (((((a0).set (a3).toNat c3_)).set (a5).toNat c6_), (w64 (a3 + 1)), (w64 (a4 - 1)))).bind fun t => match t with
      | (c8_0, c8_1) =>
       some (c8_0, c8_1)
     else none
    else none
   else none
  else none
 else none
theorem qjj_ (n : Nat) (a0 : List (Int × Int × Int × Int)) (a1 : Nat) (a2 : Nat) (a3 : Int) (a4 : Int) (a5 : Int) (r : List (Int × Int × Int × Int) × Int) (h : qc5_ n a0 a1 a2 a3 a4 a5 = some r) : Gv P (.func 52) (qgq_ a0 a1 a2 a3 a4 a5) (qgr_ a0 a1 a2 a3 a4 a5) (qei_ a0 a1 a2 a3 a4 a5 r) (qej_ a0 a1 a2 a3 a4 a5 r) := by
 unfold qc5_ at h
 obtain ⟨hc1, h⟩ := gd h
 obtain ⟨hc2, h⟩ := gd h
 obtain ⟨c3_, hc3, h⟩ := oB h
 obtain ⟨hc4, h⟩ := gd h
 obtain ⟨hc5, h⟩ := gd h
 obtain ⟨c6_, hc6, h⟩ := oB h
 obtain ⟨hc7, h⟩ := gd h
 obtain ⟨⟨c8_0, c8_1⟩, hc8, h⟩ := oB h
 dsimp only at h
 obtain rfl := oI h
 exact runF2 hm ⟨[10], [(0, 0, true)], 1, 0, [], false, [], [], []⟩ (zz 9 (xk3 0 a2 hc1) <|
  yy 10 (.ld (Value.agg #[(Value.int .u64 (c3_.1)), (Value.int .u64 (c3_.2.1)), (Value.int .u64 (c3_.2.2.1)), (Value.int .u64 (c3_.2.2.2))])) <|
  ww (p := rdT (layT (rows rw_uuuu a0)) 4 ((a5).toNat * 4) = some [(Value.int .u64 (c3_.1)), (Value.int .u64 (c3_.2.1)), (Value.int .u64 (c3_.2.2.1)), (Value.int .u64 (c3_.2.2.2))]) (qn_ rwf_uuuu (0, 0, 0, 0) (hr := hc3) (i := (a5).toNat) (j := 0) ((a5).toNat * 4) rfl (hc2) (by decide) rfl) <|
  zz 13 (xk3 0 a2 hc4) <|
  yy 14 (.ld (Value.agg #[(Value.int .u64 (c6_.1)), (Value.int .u64 (c6_.2.1)), (Value.int .u64 (c6_.2.2.1)), (Value.int .u64 (c6_.2.2.2))])) <|
  ww (p := rdT (layT (rows rw_uuuu a0)) 4 ((a3).toNat * 4) = some [(Value.int .u64 (c6_.1)), (Value.int .u64 (c6_.2.1)), (Value.int .u64 (c6_.2.2.1)), (Value.int .u64 (c6_.2.2.2))]) (qn_ rwf_uuuu (0, 0, 0, 0) (hr := hc6) (i := (a3).toNat) (j := 0) ((a3).toNat * 4) rfl (hc5) (by decide) rfl) <|
  zz 15 (xk3 0 a2 hc4) <|
  yy 16 (.sto (layT (rows rw_uuuu ((a0).set (a3).toNat c3_)))) <|
  ww (p := ∃ old, rdT (layT (rows rw_uuuu a0)) 4 ((a3).toNat * 4) = some old) (Exists.elim (qcx_ rwf_uuuu (0, 0, 0, 0) (i := (a3).toNat) (j := 0) (l := [(Value.int .u64 (c3_.1)), (Value.int .u64 (c3_.2.1)), (Value.int .u64 (c3_.2.2.1)), (Value.int .u64 (c3_.2.2.2))]) c3_ ((a3).toNat * 4) rfl (hc5) (Nat.le_of_ble_eq_true rfl) rfl) fun o h => ⟨o, h.1⟩) <|
  ww (p := layL [(Value.int .u64 (c3_.1)), (Value.int .u64 (c3_.2.1)), (Value.int .u64 (c3_.2.2.1)), (Value.int .u64 (c3_.2.2.2))] ((a3).toNat * 4) (layT (rows rw_uuuu a0)) = layT (rows rw_uuuu ((a0).set (a3).toNat c3_))) (Exists.elim (qcx_ rwf_uuuu (0, 0, 0, 0) (i := (a3).toNat) (j := 0) (l := [(Value.int .u64 (c3_.1)), (Value.int .u64 (c3_.2.1)), (Value.int .u64 (c3_.2.2.1)), (Value.int .u64 (c3_.2.2.2))]) c3_ ((a3).toNat * 4) rfl (hc5) (Nat.le_of_ble_eq_true rfl) rfl) fun o h => h.2) <|
  zz 17 (xk3 0 a2 hc1) <|
  yy 18 (.sto (layT (rows rw_uuuu ((((a0).set (a3).toNat c3_)).set (a5).toNat c6_)))) <|
  ww (p := ∃ old, rdT (layT (rows rw_uuuu ((a0).set (a3).toNat c3_))) 4 ((a5).toNat * 4) = some old) (Exists.elim (qcx_ rwf_uuuu (0, 0, 0, 0) (i := (a5).toNat) (j := 0) (l := [(Value.int .u64 (c6_.1)), (Value.int .u64 (c6_.2.1)), (Value.int .u64 (c6_.2.2.1)), (Value.int .u64 (c6_.2.2.2))]) c6_ ((a5).toNat * 4) rfl (hc7) (Nat.le_of_ble_eq_true rfl) rfl) fun o h => ⟨o, h.1⟩) <|
  ww (p := layL [(Value.int .u64 (c6_.1)), (Value.int .u64 (c6_.2.1)), (Value.int .u64 (c6_.2.2.1)), (Value.int .u64 (c6_.2.2.2))] ((a5).toNat * 4) (layT (rows rw_uuuu ((a0).set (a3).toNat c3_))) = layT (rows rw_uuuu ((((a0).set (a3).toNat c3_)).set (a5).toNat c6_))) (Exists.elim (qcx_ rwf_uuuu (0, 0, 0, 0) (i := (a5).toNat) (j := 0) (l := [(Value.int .u64 (c6_.1)), (Value.int .u64 (c6_.2.1)), (Value.int .u64 (c6_.2.2.1)), (Value.int .u64 (c6_.2.2.2))]) c6_ ((a5).toNat * 4) rfl (hc7) (Nat.le_of_ble_eq_true rfl) rfl) fun o h => h.2) <|
  ww (p := qjp_ none a1 a2 a3 (((((a0).set (a3).toNat c3_)).set (a5).toNat c6_), (w64 (a3 + 1)), (w64 (a4 - 1))) (c8_0, c8_1)) (qi6_ n a1 a2 a3 (((((a0).set (a3).toNat c3_)).set (a5).toNat c6_), (w64 (a3 + 1)), (w64 (a4 - 1))) (c8_0, c8_1) hc8) <|
  ww (qa_ rwf_uuuu ((((a0).set (a3).toNat c3_)).set (a5).toNat c6_) 24) <|
  ll 28 ⟨⟨[0, 1, 4, 11, 12], [(0, 0, true)], 1, 0, [], false, [], [], []⟩, (qbu_ a1 a2 a3 (c8_0, c8_1)).1, (qbu_ a1 a2 a3 (c8_0, c8_1)).2⟩ <|
  ww (qa_ rwf_uuuu c8_0 24) <|
  ee) (by kernel_rfl)

def qlz_ (a0 : Int) : List Value := [(i6 a0)]
def ql0_ (a0 : Int) : AH := ⟨sB [], 0, 0⟩
def qi7_ (a0 : Int) (r : Int) : Value := match r with
 | o0 => (Value.int .u64 o0)
def qi8_ (a0 : Int) (r : Int) : AH := match r with
 | o0 => ⟨sB [], 0, 0⟩
abbrev qxn_ (a0 : Int) (r : Int) : Prop := Gv P (.func 58) (qlz_ a0) (ql0_ a0) (qi7_ a0 r) (qi8_ a0 r)
abbrev qoq_ (a0 : Int) (r : Int) (ins outs : BL) : CallA := ⟨0, ins, qi7_ a0 r, qi8_ a0 r, outs⟩
def qfr_ (n : Nat) (a0 : Int) : Option (Int) :=
 (qj5_ n (IntKind.u64.wrap a0)).bind fun c1_ =>
 if 0 ≤ c1_ then
  some (shlV .u64 (1 : Int) c1_)
 else none
theorem qnk_ (n : Nat) (a0 : Int) (r : Int) (h : qfr_ n a0 = some r) : Gv P (.func 58) (qlz_ a0) (ql0_ a0) (qi7_ a0 r) (qi8_ a0 r) := by
 unfold qfr_ at h
 obtain ⟨c1_, hc1, h⟩ := oB h
 obtain ⟨hc2, h⟩ := gd h
 obtain rfl := oI h
 exact runF2 hm ⟨[2], [], 0, 0, [], false, [], [], []⟩ (yy 5 (.call (qwt_ (IntKind.u64.wrap a0) c1_ [] [])) <|
  ww (qr4_ n (IntKind.u64.wrap a0) c1_ hc1) <|
  yy 6 (.pur (Value.int .u64 (shlV .u64 (1 : Int) c1_))) <|
  ww (p := opBin P .shl 48 (.const (Value.int .u64 (1 : Int))) (.tmp 5) (Value.int .u64 (1 : Int)) (i6 c1_) Ax.h0 = some ((Value.int .u64 (shlV .u64 (1 : Int) c1_)), Ax.h0)) (shl_u64_i64 hc2) <|
  ee) (by kernel_rfl)

def qmq_ (a0 : Int) : List Value := [(pN 0 0)]
def qmr_ (a0 : Int) : AH := ⟨sB [(0, (some (.cells (layT [(Value.int .u64 a0)]) 71)))], 1, 1⟩
def qjz_ (a0 : Int) (r : Int) : Value := match r with
 | o0 => (Value.int .u64 o0)
def qj0_ (a0 : Int) (r : Int) : AH := match r with
 | o0 => ⟨sB [(0, (some (.cells (layT [(Value.int .u64 o0)]) 71)))], 1, 0⟩
abbrev G_slicesxorshiftNextq1 (a0 : Int) (r : Int) : Prop := Gv P (.func 59) (qmq_ a0) (qmr_ a0) (qjz_ a0 r) (qj0_ a0 r)
abbrev qp0_ (a0 : Int) (r : Int) (ins outs : BL) : CallA := ⟨1, ins, qjz_ a0 r, qj0_ a0 r, outs⟩
def qgh_ (n : Nat) (a0 : Int) : Option (Int) :=
 ((some (bXor .u64 (bXor .u64 a0 (IntKind.u64.wrap (a0 * 8192))) (Int.fdiv (bXor .u64 a0 (IntKind.u64.wrap (a0 * 8192))) 128)))).bind fun c1_ =>
 some (bXor .u64 c1_ (IntKind.u64.wrap (c1_ * 131072)))
theorem qoc_ (n : Nat) (a0 : Int) (r : Int) (h : qgh_ n a0 = some r) : Gv P (.func 59) (qmq_ a0) (qmr_ a0) (qjz_ a0 r) (qj0_ a0 r) := by
 unfold qgh_ at h
 obtain ⟨c1_, hc1, h⟩ := oB h
 obtain rfl := oI h
 exact runF2 hm ⟨[2], [(0, 0, false)], 1, 0, [], false, [], [], []⟩ (zz 21 (xnmK (k := .u64) hc1) <|
  ee) (by kernel_rfl)

def qgw_ (a0 : List (Int × Int × Int × Int)) (a1 : Nat) (a2 : Nat) (a3 : Int) (a4 : Int) : List Value := [(sN 0 0 a1 a2), (i6 a3), (i6 a4), (Value.func (.func 38) #[] #[])]
def qgx_ (a0 : List (Int × Int × Int × Int)) (a1 : Nat) (a2 : Nat) (a3 : Int) (a4 : Int) : AH := ⟨sB [(0, (some (.cells (layT (rows rw_uuuu a0)) 24)))], 1, 1⟩
def qew_ (a0 : List (Int × Int × Int × Int)) (a1 : Nat) (a2 : Nat) (a3 : Int) (a4 : Int) (r : List (Int × Int × Int × Int)) : Value := match r with
 | o0 => (Value.tuple #[])
def qex_ (a0 : List (Int × Int × Int × Int)) (a1 : Nat) (a2 : Nat) (a3 : Int) (a4 : Int) (r : List (Int × Int × Int × Int)) : AH := match r with
 | o0 => ⟨sB [(0, (some (.cells (layT (rows rw_uuuu o0)) 24)))], 1, 0⟩
abbrev qqg_ (a0 : List (Int × Int × Int × Int)) (a1 : Nat) (a2 : Nat) (a3 : Int) (a4 : Int) (r : List (Int × Int × Int × Int)) : Prop := Gv P (.func 48) (qgw_ a0 a1 a2 a3 a4) (qgx_ a0 a1 a2 a3 a4) (qew_ a0 a1 a2 a3 a4 r) (qex_ a0 a1 a2 a3 a4 r)
abbrev qkn_ (a0 : List (Int × Int × Int × Int)) (a1 : Nat) (a2 : Nat) (a3 : Int) (a4 : Int) (r : List (Int × Int × Int × Int)) (ins outs : BL) : CallA := ⟨1, ins, qew_ a0 a1 a2 a3 a4 r, qex_ a0 a1 a2 a3 a4 r, outs⟩
def qb2_ (x1 : Nat) (x2 : Nat) (x3 : Int) (x4 : Int) (x6 : Int) (st : List (Int × Int × Int × Int) × Int × Int) : XSt := match st with
 | (x0, x5, x7) => (sT 67 [(0, (sN 0 0 x1 x2)), (1, (i6 x3)), (8, (i6 x4)), (9, (pN 1 0)), (10, (Value.int .u64 x6)), (11, (i6 x7))], [], ⟨sB [(0, (some (.cells (layT (rows rw_uuuu x0)) 24))), (1, (some (.cells (layT [(Value.int .u64 x5)]) 71)))], 2, 0⟩)
def qb3_ (x1 : Nat) (x2 : Nat) (x3 : Int) (x4 : Int) (x6 : Int) (r : List (Int × Int × Int × Int)) : Ex × XSt := match r with
 | z0 => (.exit 0, (sT 67 [], [], ⟨sB [(0, (some (.cells (layT (rows rw_uuuu z0)) 24)))], 1, 0⟩))
abbrev qp1_ (rnd : Option Nat) (x1 : Nat) (x2 : Nat) (x3 : Int) (x4 : Int) (x6 : Int) (st : List (Int × Int × Int × Int) × Int × Int) (c : Ex × XSt) : Prop := CG P rnd (fnN P 48) 1 (qt_ P 48 [false, false, true, true, true, false, true, true]) (qb2_ x1 x2 x3 x4 x6 st) c
abbrev qj1_ (rd : Option Nat) (x1 : Nat) (x2 : Nat) (x3 : Int) (x4 : Int) (x6 : Int) (st : List (Int × Int × Int × Int) × Int × Int) (r : List (Int × Int × Int × Int)) : Prop := CG P rd (fnN P 48) 1 (qt_ P 48 [false, true, true, true, false, true, true]) (qb2_ x1 x2 x3 x4 x6 st) (qb3_ x1 x2 x3 x4 x6 r)
def qx_ (n : Nat) (x1 : Nat) (x2 : Nat) (x3 : Int) (x4 : Int) (x6 : Int) (st : List (Int × Int × Int × Int) × Int × Int) : Option ((List (Int × Int × Int × Int) × Int × Int) ⊕ (List (Int × Int × Int × Int))) := match st with
 | (x0, x5, x7) =>
  if ¬ ((4 : Int) = 0) then
   ((some (w64 ((IntKind.i64.wrap (Int.tdiv x4 (4 : Int))) * 2)))).bind fun y2_ =>
   ((some (w64 ((w64 (x3 + y2_)) + 1)))).bind fun y3_ =>
   if x7 ≤ y3_ then
    (qgh_ n x5).bind fun y5_ =>
    if (IntKind.i64.wrap (bAnd .u64 y5_ (IntKind.u64.wrap (x6 - 1)))) ≥ x4 then
     ((some (w64 ((IntKind.i64.wrap (bAnd .u64 y5_ (IntKind.u64.wrap (x6 - 1)))) - x4)))).bind fun y7_ =>
     if 0 ≤ (w64 (x3 + y7_)) ∧ (w64 (x3 + y7_)) < ((x1 : Nat) : Int) then
      if ((w64 (x3 + y7_))).toNat < (x0).length then
       ((some ((x0).getD ((w64 (x3 + y7_))).toNat (0, 0, 0, 0)))).bind fun y10_ =>
       if 0 ≤ x7 ∧ x7 < ((x1 : Nat) : Int) then
        if (x7).toNat < (x0).length then
         ((some ((x0).getD (x7).toNat (0, 0, 0, 0)))).bind fun y13_ =>
         if ((w64 (x3 + y7_))).toNat < (((x0).set (x7).toNat y10_)).length then
          some (.inl (((((x0).set (x7).toNat y10_)).set ((w64 (x3 + y7_))).toNat y13_), y5_, (w64 (x7 + 1))))
         else none
        else none
       else none
      else none
     else none
    else
     ((some (w64 (x3 + (IntKind.i64.wrap (bAnd .u64 y5_ (IntKind.u64.wrap (x6 - 1)))))))).bind fun y7_ =>
     if 0 ≤ y7_ ∧ y7_ < ((x1 : Nat) : Int) then
      if (y7_).toNat < (x0).length then
       ((some ((x0).getD (y7_).toNat (0, 0, 0, 0)))).bind fun y10_ =>
       if 0 ≤ x7 ∧ x7 < ((x1 : Nat) : Int) then
        if (x7).toNat < (x0).length then
         ((some ((x0).getD (x7).toNat (0, 0, 0, 0)))).bind fun y13_ =>
         if (y7_).toNat < (((x0).set (x7).toNat y10_)).length then
          some (.inl (((((x0).set (x7).toNat y10_)).set (y7_).toNat y13_), y5_, (w64 (x7 + 1))))
         else none
        else none
       else none
      else none
     else none
   else
    some (.inr x0)
  else none
def qec_ (n : Nat) (x1 : Nat) (x2 : Nat) (x3 : Int) (x4 : Int) (x6 : Int) (st : List (Int × Int × Int × Int) × Int × Int) : Option (List (Int × Int × Int × Int)) := iterM (qx_ n x1 x2 x3 x4 x6) n st
theorem qgi_ (n : Nat) {rnd : Option Nat} (x1 : Nat) (x2 : Nat) (x3 : Int) (x4 : Int) (x6 : Int) (st : List (Int × Int × Int × Int) × Int × Int) (o : (List (Int × Int × Int × Int) × Int × Int) ⊕ (List (Int × Int × Int × Int))) (h : qx_ n x1 x2 x3 x4 x6 st = some o) : CG P rnd (fnN P 48) 1 (qt_ P 48 [false, false, true, true, true, false, true, true]) (qb2_ x1 x2 x3 x4 x6 st) (Sum.elim (fun s => (.normal, qb2_ x1 x2 x3 x4 x6 s)) (fun r => qb3_ x1 x2 x3 x4 x6 r) o) := by
 obtain ⟨x0, x5, x7⟩ := st
 unfold qx_ at h
 dsimp only at h
 obtain ⟨hy1, h⟩ := gd h
 obtain ⟨y2_, hy2, h⟩ := oB h
 obtain ⟨y3_, hy3, h⟩ := oB h
 have k0 := fun {A L l} (k : PL A L l) => yy 5 (.pur (i6 (IntKind.i64.wrap (Int.tdiv x4 (4 : Int))))) <|
  ww (p := opBin P .quo 3 (.tmp 30) (.const (i6 (4 : Int))) (i6 x4) (i6 (4 : Int)) Ax.h0 = some ((i6 (IntKind.i64.wrap (Int.tdiv x4 (4 : Int)))), Ax.h0)) (qve_ hy1) <|
  zz 6 (xnm hy2) <|
  zz 8 (xnm hy3) <|
  k
 by_cases hy4 : x7 ≤ y3_
 ·rw [if_pos hy4] at h
  obtain ⟨y5_, hy5, h⟩ := oB h
  have k4 := fun {A L l} (k : PL A L l) => zz 9 (xdT hy4) <|
   yy 14 (.call (qp0_ x5 y5_ [(0, 1, false)] [(1, 0, false)])) <|
   ww (qoc_ n x5 y5_ hy5) <|
   k
  by_cases hy6 : (IntKind.i64.wrap (bAnd .u64 y5_ (IntKind.u64.wrap (x6 - 1)))) ≥ x4
  ·rw [if_pos hy6] at h
   obtain ⟨y7_, hy7, h⟩ := oB h
   obtain ⟨hy8, h⟩ := gd h
   obtain ⟨hy9, h⟩ := gd h
   obtain ⟨y10_, hy10, h⟩ := oB h
   obtain ⟨hy11, h⟩ := gd h
   obtain ⟨hy12, h⟩ := gd h
   obtain ⟨y13_, hy13, h⟩ := oB h
   obtain ⟨hy14, h⟩ := gd h
   obtain rfl := oI h
   exact runC2 hm ⟨[0, 1, 8, 9, 10, 11], [(0, 0, true), (1, 1, false)], 2, 0, [], false, [], [], []⟩ (k0 <|
    k4 <|
    zz 24 (xdT hy6) <|
    zz 28 (xnm hy7) <|
    zz 40 (xk3 0 x2 hy8) <|
    yy 41 (.ld (Value.agg #[(Value.int .u64 (y10_.1)), (Value.int .u64 (y10_.2.1)), (Value.int .u64 (y10_.2.2.1)), (Value.int .u64 (y10_.2.2.2))])) <|
    ww (p := rdT (layT (rows rw_uuuu x0)) 4 (((w64 (x3 + y7_))).toNat * 4) = some [(Value.int .u64 (y10_.1)), (Value.int .u64 (y10_.2.1)), (Value.int .u64 (y10_.2.2.1)), (Value.int .u64 (y10_.2.2.2))]) (qn_ rwf_uuuu (0, 0, 0, 0) (hr := hy10) (i := ((w64 (x3 + y7_))).toNat) (j := 0) (((w64 (x3 + y7_))).toNat * 4) rfl (hy9) (by decide) rfl) <|
    zz 44 (xk3 0 x2 hy11) <|
    yy 45 (.ld (Value.agg #[(Value.int .u64 (y13_.1)), (Value.int .u64 (y13_.2.1)), (Value.int .u64 (y13_.2.2.1)), (Value.int .u64 (y13_.2.2.2))])) <|
    ww (p := rdT (layT (rows rw_uuuu x0)) 4 ((x7).toNat * 4) = some [(Value.int .u64 (y13_.1)), (Value.int .u64 (y13_.2.1)), (Value.int .u64 (y13_.2.2.1)), (Value.int .u64 (y13_.2.2.2))]) (qn_ rwf_uuuu (0, 0, 0, 0) (hr := hy13) (i := (x7).toNat) (j := 0) ((x7).toNat * 4) rfl (hy12) (by decide) rfl) <|
    zz 46 (xk3 0 x2 hy11) <|
    yy 47 (.sto (layT (rows rw_uuuu ((x0).set (x7).toNat y10_)))) <|
    ww (p := ∃ old, rdT (layT (rows rw_uuuu x0)) 4 ((x7).toNat * 4) = some old) (Exists.elim (qcx_ rwf_uuuu (0, 0, 0, 0) (i := (x7).toNat) (j := 0) (l := [(Value.int .u64 (y10_.1)), (Value.int .u64 (y10_.2.1)), (Value.int .u64 (y10_.2.2.1)), (Value.int .u64 (y10_.2.2.2))]) y10_ ((x7).toNat * 4) rfl (hy12) (Nat.le_of_ble_eq_true rfl) rfl) fun o h => ⟨o, h.1⟩) <|
    ww (p := layL [(Value.int .u64 (y10_.1)), (Value.int .u64 (y10_.2.1)), (Value.int .u64 (y10_.2.2.1)), (Value.int .u64 (y10_.2.2.2))] ((x7).toNat * 4) (layT (rows rw_uuuu x0)) = layT (rows rw_uuuu ((x0).set (x7).toNat y10_))) (Exists.elim (qcx_ rwf_uuuu (0, 0, 0, 0) (i := (x7).toNat) (j := 0) (l := [(Value.int .u64 (y10_.1)), (Value.int .u64 (y10_.2.1)), (Value.int .u64 (y10_.2.2.1)), (Value.int .u64 (y10_.2.2.2))]) y10_ ((x7).toNat * 4) rfl (hy12) (Nat.le_of_ble_eq_true rfl) rfl) fun o h => h.2) <|
    zz 48 (xk3 0 x2 hy8) <|
    yy 49 (.sto (layT (rows rw_uuuu ((((x0).set (x7).toNat y10_)).set ((w64 (x3 + y7_))).toNat y13_)))) <|
    ww (p := ∃ old, rdT (layT (rows rw_uuuu ((x0).set (x7).toNat y10_))) 4 (((w64 (x3 + y7_))).toNat * 4) = some old) (Exists.elim (qcx_ rwf_uuuu (0, 0, 0, 0) (i := ((w64 (x3 + y7_))).toNat) (j := 0) (l := [(Value.int .u64 (y13_.1)), (Value.int .u64 (y13_.2.1)), (Value.int .u64 (y13_.2.2.1)), (Value.int .u64 (y13_.2.2.2))]) y13_ (((w64 (x3 + y7_))).toNat * 4) rfl (hy14) (Nat.le_of_ble_eq_true rfl) rfl) fun o h => ⟨o, h.1⟩) <|
    ww (p := layL [(Value.int .u64 (y13_.1)), (Value.int .u64 (y13_.2.1)), (Value.int .u64 (y13_.2.2.1)), (Value.int .u64 (y13_.2.2.2))] (((w64 (x3 + y7_))).toNat * 4) (layT (rows rw_uuuu ((x0).set (x7).toNat y10_))) = layT (rows rw_uuuu ((((x0).set (x7).toNat y10_)).set ((w64 (x3 + y7_))).toNat y13_))) (Exists.elim (qcx_ rwf_uuuu (0, 0, 0, 0) (i := ((w64 (x3 + y7_))).toNat) (j := 0) (l := [(Value.int .u64 (y13_.1)), (Value.int .u64 (y13_.2.1)), (Value.int .u64 (y13_.2.2.1)), (Value.int .u64 (y13_.2.2.2))]) y13_ (((w64 (x3 + y7_))).toNat * 4) rfl (hy14) (Nat.le_of_ble_eq_true rfl) rfl) fun o h => h.2) <|
    ww (qa_ rwf_uuuu ((((x0).set (x7).toNat y10_)).set ((w64 (x3 + y7_))).toNat y13_) 24) <|
    ee) (by kernel_rfl)
  ·rw [if_neg hy6] at h
   obtain ⟨y7_, hy7, h⟩ := oB h
   obtain ⟨hy8, h⟩ := gd h
   obtain ⟨hy9, h⟩ := gd h
   obtain ⟨y10_, hy10, h⟩ := oB h
   obtain ⟨hy11, h⟩ := gd h
   obtain ⟨hy12, h⟩ := gd h
   obtain ⟨y13_, hy13, h⟩ := oB h
   obtain ⟨hy14, h⟩ := gd h
   obtain rfl := oI h
   exact runC2 hm ⟨[0, 1, 8, 9, 10, 11], [(0, 0, true), (1, 1, false)], 2, 0, [], false, [], [], []⟩ (k0 <|
    k4 <|
    zz 24 (xdF hy6) <|
    zz 31 (xnm hy7) <|
    zz 35 (xnm hy7) <|
    zz 36 (xk3 0 x2 hy8) <|
    yy 37 (.ld (Value.agg #[(Value.int .u64 (y10_.1)), (Value.int .u64 (y10_.2.1)), (Value.int .u64 (y10_.2.2.1)), (Value.int .u64 (y10_.2.2.2))])) <|
    ww (p := rdT (layT (rows rw_uuuu x0)) 4 ((y7_).toNat * 4) = some [(Value.int .u64 (y10_.1)), (Value.int .u64 (y10_.2.1)), (Value.int .u64 (y10_.2.2.1)), (Value.int .u64 (y10_.2.2.2))]) (qn_ rwf_uuuu (0, 0, 0, 0) (hr := hy10) (i := (y7_).toNat) (j := 0) ((y7_).toNat * 4) rfl (hy9) (by decide) rfl) <|
    zz 40 (xk3 0 x2 hy11) <|
    yy 41 (.ld (Value.agg #[(Value.int .u64 (y13_.1)), (Value.int .u64 (y13_.2.1)), (Value.int .u64 (y13_.2.2.1)), (Value.int .u64 (y13_.2.2.2))])) <|
    ww (p := rdT (layT (rows rw_uuuu x0)) 4 ((x7).toNat * 4) = some [(Value.int .u64 (y13_.1)), (Value.int .u64 (y13_.2.1)), (Value.int .u64 (y13_.2.2.1)), (Value.int .u64 (y13_.2.2.2))]) (qn_ rwf_uuuu (0, 0, 0, 0) (hr := hy13) (i := (x7).toNat) (j := 0) ((x7).toNat * 4) rfl (hy12) (by decide) rfl) <|
    zz 42 (xk3 0 x2 hy11) <|
    yy 43 (.sto (layT (rows rw_uuuu ((x0).set (x7).toNat y10_)))) <|
    ww (p := ∃ old, rdT (layT (rows rw_uuuu x0)) 4 ((x7).toNat * 4) = some old) (Exists.elim (qcx_ rwf_uuuu (0, 0, 0, 0) (i := (x7).toNat) (j := 0) (l := [(Value.int .u64 (y10_.1)), (Value.int .u64 (y10_.2.1)), (Value.int .u64 (y10_.2.2.1)), (Value.int .u64 (y10_.2.2.2))]) y10_ ((x7).toNat * 4) rfl (hy12) (Nat.le_of_ble_eq_true rfl) rfl) fun o h => ⟨o, h.1⟩) <|
    ww (p := layL [(Value.int .u64 (y10_.1)), (Value.int .u64 (y10_.2.1)), (Value.int .u64 (y10_.2.2.1)), (Value.int .u64 (y10_.2.2.2))] ((x7).toNat * 4) (layT (rows rw_uuuu x0)) = layT (rows rw_uuuu ((x0).set (x7).toNat y10_))) (Exists.elim (qcx_ rwf_uuuu (0, 0, 0, 0) (i := (x7).toNat) (j := 0) (l := [(Value.int .u64 (y10_.1)), (Value.int .u64 (y10_.2.1)), (Value.int .u64 (y10_.2.2.1)), (Value.int .u64 (y10_.2.2.2))]) y10_ ((x7).toNat * 4) rfl (hy12) (Nat.le_of_ble_eq_true rfl) rfl) fun o h => h.2) <|
    zz 44 (xk3 0 x2 hy8) <|
    yy 45 (.sto (layT (rows rw_uuuu ((((x0).set (x7).toNat y10_)).set (y7_).toNat y13_)))) <|
    ww (p := ∃ old, rdT (layT (rows rw_uuuu ((x0).set (x7).toNat y10_))) 4 ((y7_).toNat * 4) = some old) (Exists.elim (qcx_ rwf_uuuu (0, 0, 0, 0) (i := (y7_).toNat) (j := 0) (l := [(Value.int .u64 (y13_.1)), (Value.int .u64 (y13_.2.1)), (Value.int .u64 (y13_.2.2.1)), (Value.int .u64 (y13_.2.2.2))]) y13_ ((y7_).toNat * 4) rfl (hy14) (Nat.le_of_ble_eq_true rfl) rfl) fun o h => ⟨o, h.1⟩) <|
    ww (p := layL [(Value.int .u64 (y13_.1)), (Value.int .u64 (y13_.2.1)), (Value.int .u64 (y13_.2.2.1)), (Value.int .u64 (y13_.2.2.2))] ((y7_).toNat * 4) (layT (rows rw_uuuu ((x0).set (x7).toNat y10_))) = layT (rows rw_uuuu ((((x0).set (x7).toNat y10_)).set (y7_).toNat y13_))) (Exists.elim (qcx_ rwf_uuuu (0, 0, 0, 0) (i := (y7_).toNat) (j := 0) (l := [(Value.int .u64 (y13_.1)), (Value.int .u64 (y13_.2.1)), (Value.int .u64 (y13_.2.2.1)), (Value.int .u64 (y13_.2.2.2))]) y13_ ((y7_).toNat * 4) rfl (hy14) (Nat.le_of_ble_eq_true rfl) rfl) fun o h => h.2) <|
    ww (qa_ rwf_uuuu ((((x0).set (x7).toNat y10_)).set (y7_).toNat y13_) 24) <|
    ee) (by kernel_rfl)
 ·rw [if_neg hy4] at h
  obtain rfl := oI h
  exact runC2 hm ⟨[], [(0, 0, true)], 1, 0, [], false, [], [], []⟩ (k0 <|
   zz 9 (xdF hy4) <|
   ww (qa_ rwf_uuuu x0 24) <|
   ee) (by kernel_rfl)
theorem qjc_ (n : Nat) {rnd : Option Nat} (x1 : Nat) (x2 : Nat) (x3 : Int) (x4 : Int) (x6 : Int) (st : List (Int × Int × Int × Int) × Int × Int) (r : List (Int × Int × Int × Int)) (h : qec_ n x1 x2 x3 x4 x6 st = some r) : CG P rnd (fnN P 48) 1 (qt_ P 48 [false, true, true, true, false, true, true]) (qb2_ x1 x2 x3 x4 x6 st) (qb3_ x1 x2 x3 x4 x6 r) :=
 CG.iter (b := qt_ P 48 [false, false, true, true, true, false, true, true]) (by kernel_rfl) (body := qx_ n x1 x2 x3 x4 x6) (S := qb2_ x1 x2 x3 x4 x6) (X := qb3_ x1 x2 x3 x4 x6)
  (fun s s' h => qgi_ n x1 x2 x3 x4 x6 s (.inl s') h)
  (fun s r h => qgi_ n x1 x2 x3 x4 x6 s (.inr r) h)
  (fun r => by intro hx; cases hx) h
def qdi_ (n : Nat) (a0 : List (Int × Int × Int × Int)) (a1 : Nat) (a2 : Nat) (a3 : Int) (a4 : Int) : Option (List (Int × Int × Int × Int)) :=
 if (w64 (a4 - a3)) ≥ 8 then
  (qfr_ n (w64 (a4 - a3))).bind fun c2_ =>
  if ¬ ((4 : Int) = 0) then
   ((some (w64 ((IntKind.i64.wrap (Int.tdiv (w64 (a4 - a3)) (4 : Int))) * 2)))).bind fun c4_ =>
   (qec_ n a1 a2 a3 (w64 (a4 - a3)) c2_ (a0, (IntKind.u64.wrap (w64 (a4 - a3))), (w64 ((w64 (a3 + c4_)) - 1)))).bind fun c5_ =>
   some c5_
  else none
 else
  some a0
theorem qjq_ (n : Nat) (a0 : List (Int × Int × Int × Int)) (a1 : Nat) (a2 : Nat) (a3 : Int) (a4 : Int) (r : List (Int × Int × Int × Int)) (h : qdi_ n a0 a1 a2 a3 a4 = some r) : Gv P (.func 48) (qgw_ a0 a1 a2 a3 a4) (qgx_ a0 a1 a2 a3 a4) (qew_ a0 a1 a2 a3 a4 r) (qex_ a0 a1 a2 a3 a4 r) := by
 unfold qdi_ at h
 by_cases hc1 : (w64 (a4 - a3)) ≥ 8
 ·rw [if_pos hc1] at h
  obtain ⟨c2_, hc2, h⟩ := oB h
  obtain ⟨hc3, h⟩ := gd h
  obtain ⟨c4_, hc4, h⟩ := oB h
  obtain ⟨c5_, hc5, h⟩ := oB h
  obtain rfl := oI h
  exact runF2 hm ⟨[], [(0, 0, true)], 1, 0, [], false, [], [], []⟩ (zz 7 (xdT hc1) <|
   yy 16 (.call (qoq_ (w64 (a4 - a3)) c2_ [] [])) <|
   ww (qnk_ n (w64 (a4 - a3)) c2_ hc2) <|
   yy 21 (.pur (i6 (IntKind.i64.wrap (Int.tdiv (w64 (a4 - a3)) (4 : Int))))) <|
   ww (p := opBin P .quo 3 (.tmp 23) (.const (i6 (4 : Int))) (i6 (w64 (a4 - a3))) (i6 (4 : Int)) Ax.h0 = some ((i6 (IntKind.i64.wrap (Int.tdiv (w64 (a4 - a3)) (4 : Int)))), Ax.h0)) (qve_ hc3) <|
   zz 22 (xnm hc4) <|
   ww (p := qj1_ none a1 a2 a3 (w64 (a4 - a3)) c2_ (a0, (IntKind.u64.wrap (w64 (a4 - a3))), (w64 ((w64 (a3 + c4_)) - 1))) c5_) (qjc_ n a1 a2 a3 (w64 (a4 - a3)) c2_ (a0, (IntKind.u64.wrap (w64 (a4 - a3))), (w64 ((w64 (a3 + c4_)) - 1))) c5_ hc5) <|
   ww (qa_ rwf_uuuu a0 24) <|
   ll 27 ⟨⟨[0, 1, 8, 9, 10, 11], [(0, 0, true), (1, 1, false)], 2, 0, [], false, [], [], []⟩, (qb3_ a1 a2 a3 (w64 (a4 - a3)) c2_ c5_).1, (qb3_ a1 a2 a3 (w64 (a4 - a3)) c2_ c5_).2⟩ <|
   ww (qa_ rwf_uuuu c5_ 24) <|
   ee) (by kernel_rfl)
 ·rw [if_neg hc1] at h
  obtain rfl := oI h
  exact runF2 hm ⟨[], [(0, 0, true)], 1, 0, [], false, [], [], []⟩ (zz 7 (xdF hc1) <|
   ww (qa_ rwf_uuuu a0 24) <|
   ee) (by kernel_rfl)


end Go.Proofs.YtdjkjpmcmpihgaaDoor.clp01
