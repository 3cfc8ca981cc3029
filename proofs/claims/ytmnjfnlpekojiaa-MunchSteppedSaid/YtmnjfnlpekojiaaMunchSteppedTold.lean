/-
  What functions do, told by pure functions. No condition.
-/
import Derived.Test.YtmnjfnlpekojiaaMunchTold
set_option linter.unusedSimpArgs false
set_option linter.unusedVariables false
set_option linter.unusedSectionVars false
set_option linter.unnecessarySimpa false
namespace Go.Proofs.Ytmnjfnlpekojiaa.munchw
open Go Go.Proofs.Ytmnjfnlpekojiaa Ax
variable [Args]
noncomputable def A24a : List Value := [(Value.slice (some ⟨0, 0, some 1⟩) (Args.N).length Args.cN)]
noncomputable def H24a : AH := ⟨sB [], 0, 0⟩
noncomputable def V24a (r : List Int) : Value := match r with
  | o0 => (Value.slice (some ⟨0, 0, none⟩) (o0).length (Nat.add big 1))
noncomputable def R24a (r : List Int) : AH := match r with
  | o0 => ⟨sB [(0, (some (.cells (layT (iv o0)) 3)))], 1, 0⟩
def m24a (n : Nat) : Option (List Int) :=
  if 0 < (Args.N).length then
    if (0 + (Args.N).length) * 8 ≤ 140737488355328 then
      if 0 < 0 + (Args.N).length then
        some (([] : List Int) ++ Args.N)
      else none
    else none
  else none
set_option maxRecDepth 100000 in
theorem p24a_0 (n : Nat) (hc1 : 0 < (Args.N).length) (hc2 : (0 + (Args.N).length) * 8 ≤ 140737488355328) (hc3 : 0 < 0 + (Args.N).length) : Gv P (.func 24) A24a H24a (V24a  (([] : List Int) ++ Args.N)) (R24a  (([] : List Int) ++ Args.N)) :=
  runF_ok hm (A := aT [(5, .nil (.bool false)), (10, .app ⟨some ((Args.N).length, (iv Args.N)), ([] : List Value), (iv (([] : List Int) ++ Args.N)), ((([] : List Int) ++ Args.N)).length, true⟩)]) (L := lT []) (wk := ⟨[2], [(0, 1, true)], 1, 0⟩)
    (ps := [∃ m, (Args.N).length = m + 1,
    cmpOp .eql false = some (Value.bool false),
    (Args.N).length = (Args.N).length,
    rdL (iv Args.N) (Nat.mul (Args.N).length 1) 0 = some (iv Args.N),
    flatL (iv Args.N) = true,
    0 < (Args.N).length,
    0 < big,
    0 < Nat.add 0 (Args.N).length,
    rdT (layT ([] : List Value)) (Nat.mul 0 1) 0 = some (([] : List Value)),
    fits (Nat.add 0 (Args.N).length) 8 = true,
    ([] : List Value) ++ (iv Args.N) = (iv (([] : List Int) ++ Args.N)),
    Nat.add 0 (Args.N).length = ((([] : List Int) ++ Args.N)).length,
    FlatB (.cells (layT (iv (([] : List Int) ++ Args.N))) 3)]) (by kernel_rfl) ⟨(⟨(Args.N).length - 1, by have := hc1; omega⟩), (rfl), (rfl), (rdL_iv _ _ rfl), (iv_flatL _), (hc1), ((by decide)), (hc3), (rfl), (fits_ok hc2 (by have := hc2; show (_ : Nat) + _ ≤ _; omega)), (by simp [iv]), (by simp <;> omega), (iv_flat _ _), trivial⟩
theorem m24a_ok (n : Nat) (r : List Int) (h : m24a n = some r) : Gv P (.func 24) A24a H24a (V24a  r) (R24a  r) := by
  unfold m24a at h
  by_cases hc1 : 0 < (Args.N).length
  · rw [if_pos hc1] at h
    by_cases hc2 : (0 + (Args.N).length) * 8 ≤ 140737488355328
    · rw [if_pos hc2] at h
      by_cases hc3 : 0 < 0 + (Args.N).length
      · rw [if_pos hc3] at h
        obtain rfl := Option.some.inj h; exact p24a_0 n hc1 hc2 hc3
      · rw [if_neg hc3] at h; cases h
    · rw [if_neg hc2] at h; cases h
  · rw [if_neg hc1] at h; cases h

noncomputable def A24b : List Value := [(Value.slice (some ⟨1, 0, some 1⟩) (Args.R).length Args.cR)]
noncomputable def H24b : AH := ⟨sB [], 0, 0⟩
noncomputable def V24b (r : List Int) : Value := match r with
  | o0 => (Value.slice (some ⟨0, 0, none⟩) (o0).length (Nat.add big 1))
noncomputable def R24b (r : List Int) : AH := match r with
  | o0 => ⟨sB [(0, (some (.cells (layT (iv o0)) 3)))], 1, 0⟩
def m24b (n : Nat) : Option (List Int) :=
  if 0 < (Args.R).length then
    if (0 + (Args.R).length) * 8 ≤ 140737488355328 then
      if 0 < 0 + (Args.R).length then
        some (([] : List Int) ++ Args.R)
      else none
    else none
  else none
set_option maxRecDepth 100000 in
theorem p24b_0 (n : Nat) (hc1 : 0 < (Args.R).length) (hc2 : (0 + (Args.R).length) * 8 ≤ 140737488355328) (hc3 : 0 < 0 + (Args.R).length) : Gv P (.func 24) A24b H24b (V24b  (([] : List Int) ++ Args.R)) (R24b  (([] : List Int) ++ Args.R)) :=
  runF_ok hm (A := aT [(5, .nil (.bool false)), (10, .app ⟨some ((Args.R).length, (iv Args.R)), ([] : List Value), (iv (([] : List Int) ++ Args.R)), ((([] : List Int) ++ Args.R)).length, true⟩)]) (L := lT []) (wk := ⟨[2], [(0, 1, true)], 1, 0⟩)
    (ps := [∃ m, (Args.R).length = m + 1,
    cmpOp .eql false = some (Value.bool false),
    (Args.R).length = (Args.R).length,
    rdL (iv Args.R) (Nat.mul (Args.R).length 1) 0 = some (iv Args.R),
    flatL (iv Args.R) = true,
    0 < (Args.R).length,
    0 < big,
    0 < Nat.add 0 (Args.R).length,
    rdT (layT ([] : List Value)) (Nat.mul 0 1) 0 = some (([] : List Value)),
    fits (Nat.add 0 (Args.R).length) 8 = true,
    ([] : List Value) ++ (iv Args.R) = (iv (([] : List Int) ++ Args.R)),
    Nat.add 0 (Args.R).length = ((([] : List Int) ++ Args.R)).length,
    FlatB (.cells (layT (iv (([] : List Int) ++ Args.R))) 3)]) (by kernel_rfl) ⟨(⟨(Args.R).length - 1, by have := hc1; omega⟩), (rfl), (rfl), (rdL_iv _ _ rfl), (iv_flatL _), (hc1), ((by decide)), (hc3), (rfl), (fits_ok hc2 (by have := hc2; show (_ : Nat) + _ ≤ _; omega)), (by simp [iv]), (by simp <;> omega), (iv_flat _ _), trivial⟩
theorem m24b_ok (n : Nat) (r : List Int) (h : m24b n = some r) : Gv P (.func 24) A24b H24b (V24b  r) (R24b  r) := by
  unfold m24b at h
  by_cases hc1 : 0 < (Args.R).length
  · rw [if_pos hc1] at h
    by_cases hc2 : (0 + (Args.R).length) * 8 ≤ 140737488355328
    · rw [if_pos hc2] at h
      by_cases hc3 : 0 < 0 + (Args.R).length
      · rw [if_pos hc3] at h
        obtain rfl := Option.some.inj h; exact p24b_0 n hc1 hc2 hc3
      · rw [if_neg hc3] at h; cases h
    · rw [if_neg hc2] at h; cases h
  · rw [if_neg hc1] at h; cases h

noncomputable def A13 : List Value := [(Value.agg #[(Value.slice (some ⟨0, 0, some 1⟩) (Args.N).length Args.cN), (Value.slice (some ⟨1, 0, some 1⟩) (Args.R).length Args.cR)])]
noncomputable def H13 : AH := ⟨sB [], 0, 0⟩
noncomputable def V13 (r : List Int × List Int) : Value := match r with
  | (o0, o1) => (Value.tuple #[(Value.pointer (some ⟨0, 0, none⟩)), (Value.int .i64 (0 : Int))])
noncomputable def R13 (r : List Int × List Int) : AH := match r with
  | (o0, o1) => ⟨sB [(0, (some (.cells (layT [(Value.pointer (some ⟨0, 0, none⟩)), (Value.slice (some ⟨1, 0, none⟩) (o0).length (Nat.add big 1)), (Value.slice (some ⟨2, 0, none⟩) (o1).length (Nat.add big 1)), (Value.int .i64 (0 : Int)), (Value.int .i64 (0 : Int)), (Value.int .i64 (0 : Int)), (Value.int .i64 (0 : Int)), (Value.int .i64 (0 : Int)), (Value.bool false), (Value.bool false)]) 54))), (1, (some (.cells (layT (iv o0)) 3))), (2, (some (.cells (layT (iv o1)) 3)))], 3, 0⟩
def m13 (n : Nat) : Option (List Int × List Int) :=
  (m22 n).bind fun c1_ =>
  if c1_ = (0 : Int) then
    (m24a n).bind fun c3_ =>
    (m24b n).bind fun c4_ =>
    some (c3_, c4_)
  else
    none
set_option maxRecDepth 100000 in
theorem p13_0 (n : Nat) (c1_ : Int) (hc1 : m22 n = some c1_) (hc2 : c1_ = (0 : Int)) (c3_ : List Int) (hc3 : m24a n = some c3_) (c4_ : List Int) (hc4 : m24b n = some c4_) : Gv P (.func 13) A13 H13 (V13  (c3_, c4_)) (R13  (c3_, c4_)) :=
  runF_ok hm (A := aT [(7, .call ⟨0, [], (V22  c1_), (R22  c1_), []⟩), (11, .val (.bool false)), (16, .call ⟨0, [], (V24a  c3_), (R24a  c3_), [(10, 0, true)]⟩), (19, .call ⟨0, [], (V24b  c4_), (R24b  c4_), [(11, 0, true)]⟩)]) (L := lT []) (wk := ⟨[2, 3], [(0, 9, false), (1, 10, true), (2, 11, true)], 3, 0⟩)
    (ps := [Gv P (.func 22) A22 H22 (V22  c1_) (R22  c1_),
    (Value.bool (c1_ != (0 : Int))) = (Value.bool false),
    Gv P (.func 24) A24a H24a (V24a  c3_) (R24a  c3_),
    FlatB (.cells (layT (iv c3_)) 3),
    Gv P (.func 24) A24b H24b (V24b  c4_) (R24b  c4_),
    FlatB (.cells (layT (iv c4_)) 3),
    FlatB (.cells (layT (iv c3_)) 3),
    FlatB (.cells (layT (iv c4_)) 3)]) (by kernel_rfl) ⟨(m22_ok n c1_ hc1), (vnF hc2), (m24a_ok n c3_ hc3), (iv_flat _ _), (m24b_ok n c4_ hc4), (iv_flat _ _), (iv_flat _ _), (iv_flat _ _), trivial⟩
theorem m13_ok (n : Nat) (r : List Int × List Int) (h : m13 n = some r) : Gv P (.func 13) A13 H13 (V13  r) (R13  r) := by
  unfold m13 at h
  obtain ⟨c1_, hc1, h⟩ := Option.bind_eq_some_iff.1 h
  by_cases hc2 : c1_ = (0 : Int)
  · rw [if_pos hc2] at h
    obtain ⟨c3_, hc3, h⟩ := Option.bind_eq_some_iff.1 h
    obtain ⟨c4_, hc4, h⟩ := Option.bind_eq_some_iff.1 h
    obtain rfl := Option.some.inj h; exact p13_0 n c1_ hc1 hc2 c3_ hc3 c4_ hc4
  · rw [if_neg hc2] at h
    cases h

noncomputable def S29o_1 (x1_0 : ByteArray) (x1_1 : Int) (x1_2 : Int) (x1_7 : Bool) (x1_8 : List Int) (x1_9 : List Int) (st : Int × Int × Int × Int × Int) : XSt := match st with
  | (x1_3, x1_4, x1_5, x1_6, x1_10) => (sT 64 [(2, (Value.string x1_0)), (3, (Value.int .i64 x1_1)), (4, (Value.pointer (some ⟨2, 0, none⟩))), (5, (Value.pointer (some ⟨3, 0, none⟩))), (8, (Value.pointer (some ⟨4, 0, none⟩))), (9, (Value.int .i64 x1_10))], [], ⟨sB [(0, (some (.cells (layT (iv x1_8)) 3))), (1, (some (.cells (layT (iv x1_9)) 3))), (2, (some (.cells (layT [(Value.int .i64 x1_2), (Value.int .i64 x1_3), (Value.int .i64 x1_4), (Value.int .i64 x1_5), (Value.int .i64 x1_6), (Value.bool x1_7)]) 52))), (3, (some (.cells (layT [(Value.slice (some ⟨0, 0, none⟩) (x1_8).length (Nat.add big 1)), (Value.slice (some ⟨1, 0, none⟩) (x1_9).length (Nat.add big 1))]) 24))), (4, (some (.cells (layT [(Value.int .i64 (0 : Int)), (Value.int .i64 (0 : Int)), (Value.int .i64 (0 : Int)), (Value.int .i64 (0 : Int)), (Value.int .i64 (0 : Int)), (Value.bool false)]) 52)))], 5, 2⟩)
noncomputable def X29o_1 (x1_0 : ByteArray) (x1_1 : Int) (x1_2 : Int) (x1_7 : Bool) (x1_8 : List Int) (x1_9 : List Int) (r : Int × Int × Int × Int × Bool) : Ex × XSt := match r with
  | (z1_0, z1_1, z1_2, z1_3, z1_4) => (.exit 0, (sT 64 [(4, (Value.pointer (some ⟨2, 0, none⟩))), (8, (Value.pointer (some ⟨3, 0, none⟩)))], [], ⟨sB [(2, (some (.cells (layT [(Value.int .i64 x1_2), (Value.int .i64 z1_0), (Value.int .i64 z1_1), (Value.int .i64 z1_2), (Value.int .i64 z1_3), (Value.bool z1_4)]) 52))), (3, (some (.cells (layT [(Value.int .i64 (0 : Int)), (Value.int .i64 (0 : Int)), (Value.int .i64 (0 : Int)), (Value.int .i64 (0 : Int)), (Value.int .i64 (0 : Int)), (Value.bool false)]) 52)))], 4, 2⟩))
def B29o_1 (n : Nat) (x1_0 : ByteArray) (x1_1 : Int) (x1_2 : Int) (x1_7 : Bool) (x1_8 : List Int) (x1_9 : List Int) (st : Int × Int × Int × Int × Int) : Option ((Int × Int × Int × Int × Int) ⊕ (Int × Int × Int × Int × Bool)) := match st with
  | (x1_3, x1_4, x1_5, x1_6, x1_10) =>
    if x1_10 < x1_1 then
      (m28 n x1_2 x1_3 x1_4 x1_5 x1_6 x1_7).bind fun _ =>
      if (w64 (x1_2 + x1_3)) = (((x1_0).size : Nat) : Int) then
        some (.inr ((w64 (x1_3 + (1 : Int))), x1_4, x1_5, x1_6, true))
      else
        if 0 ≤ (w64 (x1_2 + x1_3)) ∧ (w64 (x1_2 + x1_3)) < (((x1_0).size : Nat) : Int) then
          if 0 ≤ (w64 ((w64 (x1_4 * (256 : Int))) + (IntKind.i64.wrap (byteAt x1_0 ((w64 (x1_2 + x1_3))).toNat)))) ∧ (w64 ((w64 (x1_4 * (256 : Int))) + (IntKind.i64.wrap (byteAt x1_0 ((w64 (x1_2 + x1_3))).toNat)))) < (((x1_8).length : Nat) : Int) then
            if ((x1_8).getD ((w64 ((w64 (x1_4 * (256 : Int))) + (IntKind.i64.wrap (byteAt x1_0 ((w64 (x1_2 + x1_3))).toNat))))).toNat 0) < (0 : Int) then
              some (.inr ((w64 (x1_3 + (1 : Int))), ((x1_8).getD ((w64 ((w64 (x1_4 * (256 : Int))) + (IntKind.i64.wrap (byteAt x1_0 ((w64 (x1_2 + x1_3))).toNat))))).toNat 0), x1_5, x1_6, true))
            else
              if 0 ≤ ((x1_8).getD ((w64 ((w64 (x1_4 * (256 : Int))) + (IntKind.i64.wrap (byteAt x1_0 ((w64 (x1_2 + x1_3))).toNat))))).toNat 0) ∧ ((x1_8).getD ((w64 ((w64 (x1_4 * (256 : Int))) + (IntKind.i64.wrap (byteAt x1_0 ((w64 (x1_2 + x1_3))).toNat))))).toNat 0) < (((x1_9).length : Nat) : Int) then
                if ((x1_9).getD (((x1_8).getD ((w64 ((w64 (x1_4 * (256 : Int))) + (IntKind.i64.wrap (byteAt x1_0 ((w64 (x1_2 + x1_3))).toNat))))).toNat 0)).toNat 0) ≥ (0 : Int) then
                  some (.inl ((w64 (x1_3 + (1 : Int))), ((x1_8).getD ((w64 ((w64 (x1_4 * (256 : Int))) + (IntKind.i64.wrap (byteAt x1_0 ((w64 (x1_2 + x1_3))).toNat))))).toNat 0), ((x1_9).getD (((x1_8).getD ((w64 ((w64 (x1_4 * (256 : Int))) + (IntKind.i64.wrap (byteAt x1_0 ((w64 (x1_2 + x1_3))).toNat))))).toNat 0)).toNat 0), (w64 ((w64 (x1_2 + x1_3)) + (1 : Int))), (w64 (x1_10 + (1 : Int)))))
                else
                  some (.inl ((w64 (x1_3 + (1 : Int))), ((x1_8).getD ((w64 ((w64 (x1_4 * (256 : Int))) + (IntKind.i64.wrap (byteAt x1_0 ((w64 (x1_2 + x1_3))).toNat))))).toNat 0), x1_5, x1_6, (w64 (x1_10 + (1 : Int)))))
              else none
          else none
        else none
    else
      some (.inr (x1_3, x1_4, x1_5, x1_6, x1_7))
def m29o_1 (n : Nat) (x1_0 : ByteArray) (x1_1 : Int) (x1_2 : Int) (x1_7 : Bool) (x1_8 : List Int) (x1_9 : List Int) (st : Int × Int × Int × Int × Int) : Option (Int × Int × Int × Int × Bool) := iterM (B29o_1 n x1_0 x1_1 x1_2 x1_7 x1_8 x1_9) n st
set_option maxRecDepth 100000 in
theorem q29o_1_0 (n : Nat) (x1_0 : ByteArray) (x1_1 : Int) (x1_2 : Int) (x1_3 : Int) (x1_4 : Int) (x1_5 : Int) (x1_6 : Int) (x1_7 : Bool) (x1_8 : List Int) (x1_9 : List Int) (x1_10 : Int) (hy1_1 : x1_10 < x1_1) (hy1_2 : m28 n x1_2 x1_3 x1_4 x1_5 x1_6 x1_7 = some ()) (hy1_3 : (w64 (x1_2 + x1_3)) = (((x1_0).size : Nat) : Int)) : CG P none (fnN P 29) 2 (codeOf P 29 [false, false, true, false, true, false, true]) (S29o_1 x1_0 x1_1 x1_2 x1_7 x1_8 x1_9 (x1_3, x1_4, x1_5, x1_6, x1_10)) (X29o_1 x1_0 x1_1 x1_2 x1_7 x1_8 x1_9 ((w64 (x1_3 + (1 : Int))), x1_4, x1_5, x1_6, true)) :=
  runC_ok hm (A := aT [(4, .val (.bool true)), (10, .call ⟨0, [], (V28 x1_2 x1_3 x1_4 x1_5 x1_6 x1_7 ()), (R28 x1_2 x1_3 x1_4 x1_5 x1_6 x1_7 ()), []⟩), (23, .val (.bool true))]) (L := lT []) (wk := ⟨[4, 8], [(2, 2, false), (3, 4, false)], 4, 2⟩)
    (ps := [(Value.bool (decide (x1_10 < x1_1))) = (Value.bool true),
    Gv P (.func 28) (A28 x1_2 x1_3 x1_4 x1_5 x1_6 x1_7) (H28 x1_2 x1_3 x1_4 x1_5 x1_6 x1_7) (V28 x1_2 x1_3 x1_4 x1_5 x1_6 x1_7 ()) (R28 x1_2 x1_3 x1_4 x1_5 x1_6 x1_7 ()),
    (Value.bool ((w64 (x1_2 + x1_3)) == (((x1_0).size : Nat) : Int))) = (Value.bool true)]) (by kernel_rfl) ⟨(vbT hy1_1), (m28_ok n x1_2 x1_3 x1_4 x1_5 x1_6 x1_7 () hy1_2), (veT hy1_3), trivial⟩
set_option maxRecDepth 100000 in
theorem q29o_1_1 (n : Nat) (x1_0 : ByteArray) (x1_1 : Int) (x1_2 : Int) (x1_3 : Int) (x1_4 : Int) (x1_5 : Int) (x1_6 : Int) (x1_7 : Bool) (x1_8 : List Int) (x1_9 : List Int) (x1_10 : Int) (hy1_1 : x1_10 < x1_1) (hy1_2 : m28 n x1_2 x1_3 x1_4 x1_5 x1_6 x1_7 = some ()) (hy1_3 : ¬ ((w64 (x1_2 + x1_3)) = (((x1_0).size : Nat) : Int))) (hy1_4 : 0 ≤ (w64 (x1_2 + x1_3)) ∧ (w64 (x1_2 + x1_3)) < (((x1_0).size : Nat) : Int)) (hy1_5 : 0 ≤ (w64 ((w64 (x1_4 * (256 : Int))) + (IntKind.i64.wrap (byteAt x1_0 ((w64 (x1_2 + x1_3))).toNat)))) ∧ (w64 ((w64 (x1_4 * (256 : Int))) + (IntKind.i64.wrap (byteAt x1_0 ((w64 (x1_2 + x1_3))).toNat)))) < (((x1_8).length : Nat) : Int)) (hy1_6 : ((x1_8).getD ((w64 ((w64 (x1_4 * (256 : Int))) + (IntKind.i64.wrap (byteAt x1_0 ((w64 (x1_2 + x1_3))).toNat))))).toNat 0) < (0 : Int)) : CG P none (fnN P 29) 2 (codeOf P 29 [false, false, true, false, true, false, true]) (S29o_1 x1_0 x1_1 x1_2 x1_7 x1_8 x1_9 (x1_3, x1_4, x1_5, x1_6, x1_10)) (X29o_1 x1_0 x1_1 x1_2 x1_7 x1_8 x1_9 ((w64 (x1_3 + (1 : Int))), ((x1_8).getD ((w64 ((w64 (x1_4 * (256 : Int))) + (IntKind.i64.wrap (byteAt x1_0 ((w64 (x1_2 + x1_3))).toNat))))).toNat 0), x1_5, x1_6, true)) :=
  runC_ok hm (A := aT [(4, .val (.bool true)), (10, .call ⟨0, [], (V28 x1_2 x1_3 x1_4 x1_5 x1_6 x1_7 ()), (R28 x1_2 x1_3 x1_4 x1_5 x1_6 x1_7 ()), []⟩), (23, .val (.bool false)), (33, .pur (Value.int .u8 (byteAt x1_0 ((w64 (x1_2 + x1_3))).toNat))), (36, .pur (Value.pointer (some ⟨0, ((w64 ((w64 (x1_4 * (256 : Int))) + (IntKind.i64.wrap (byteAt x1_0 ((w64 (x1_2 + x1_3))).toNat))))).toNat, none⟩))), (37, .ld (Value.int .i64 ((x1_8).getD ((w64 ((w64 (x1_4 * (256 : Int))) + (IntKind.i64.wrap (byteAt x1_0 ((w64 (x1_2 + x1_3))).toNat))))).toNat 0))), (44, .val (.bool true))]) (L := lT []) (wk := ⟨[4, 8], [(2, 2, false), (3, 4, false)], 4, 2⟩)
    (ps := [(Value.bool (decide (x1_10 < x1_1))) = (Value.bool true),
    Gv P (.func 28) (A28 x1_2 x1_3 x1_4 x1_5 x1_6 x1_7) (H28 x1_2 x1_3 x1_4 x1_5 x1_6 x1_7) (V28 x1_2 x1_3 x1_4 x1_5 x1_6 x1_7 ()) (R28 x1_2 x1_3 x1_4 x1_5 x1_6 x1_7 ()),
    (Value.bool ((w64 (x1_2 + x1_3)) == (((x1_0).size : Nat) : Int))) = (Value.bool false),
    opIndex P 9 (Value.string x1_0) (Value.int .i64 (w64 (x1_2 + x1_3))) Ax.h0 = some ((Value.int .u8 (byteAt x1_0 ((w64 (x1_2 + x1_3))).toNat)), Ax.h0),
    opIndexAddr P 22 (Value.slice (some ⟨0, 0, none⟩) (x1_8).length (Nat.add big 1)) (Value.int .i64 (w64 ((w64 (x1_4 * (256 : Int))) + (IntKind.i64.wrap (byteAt x1_0 ((w64 (x1_2 + x1_3))).toNat))))) Ax.h0 = some ((Value.pointer (some ⟨0, ((w64 ((w64 (x1_4 * (256 : Int))) + (IntKind.i64.wrap (byteAt x1_0 ((w64 (x1_2 + x1_3))).toNat))))).toNat, none⟩)), Ax.h0),
    (layT (iv x1_8)).get ((w64 ((w64 (x1_4 * (256 : Int))) + (IntKind.i64.wrap (byteAt x1_0 ((w64 (x1_2 + x1_3))).toNat))))).toNat = some (Value.int .i64 ((x1_8).getD ((w64 ((w64 (x1_4 * (256 : Int))) + (IntKind.i64.wrap (byteAt x1_0 ((w64 (x1_2 + x1_3))).toNat))))).toNat 0)),
    (Value.bool (decide (((x1_8).getD ((w64 ((w64 (x1_4 * (256 : Int))) + (IntKind.i64.wrap (byteAt x1_0 ((w64 (x1_2 + x1_3))).toNat))))).toNat 0) < (0 : Int)))) = (Value.bool true)]) (by kernel_rfl) ⟨(vbT hy1_1), (m28_ok n x1_2 x1_3 x1_4 x1_5 x1_6 x1_7 () hy1_2), (veF hy1_3), (ixStr (by kernel_rfl) hy1_4), (ixS1 (e := 3) (by kernel_rfl) (by kernel_rfl) hy1_5), (iv_ld _ _ (toNatLt hy1_5)), (vbT hy1_6), trivial⟩
set_option maxRecDepth 100000 in
theorem q29o_1_2 (n : Nat) (x1_0 : ByteArray) (x1_1 : Int) (x1_2 : Int) (x1_3 : Int) (x1_4 : Int) (x1_5 : Int) (x1_6 : Int) (x1_7 : Bool) (x1_8 : List Int) (x1_9 : List Int) (x1_10 : Int) (hy1_1 : x1_10 < x1_1) (hy1_2 : m28 n x1_2 x1_3 x1_4 x1_5 x1_6 x1_7 = some ()) (hy1_3 : ¬ ((w64 (x1_2 + x1_3)) = (((x1_0).size : Nat) : Int))) (hy1_4 : 0 ≤ (w64 (x1_2 + x1_3)) ∧ (w64 (x1_2 + x1_3)) < (((x1_0).size : Nat) : Int)) (hy1_5 : 0 ≤ (w64 ((w64 (x1_4 * (256 : Int))) + (IntKind.i64.wrap (byteAt x1_0 ((w64 (x1_2 + x1_3))).toNat)))) ∧ (w64 ((w64 (x1_4 * (256 : Int))) + (IntKind.i64.wrap (byteAt x1_0 ((w64 (x1_2 + x1_3))).toNat)))) < (((x1_8).length : Nat) : Int)) (hy1_6 : ¬ (((x1_8).getD ((w64 ((w64 (x1_4 * (256 : Int))) + (IntKind.i64.wrap (byteAt x1_0 ((w64 (x1_2 + x1_3))).toNat))))).toNat 0) < (0 : Int))) (hy1_7 : 0 ≤ ((x1_8).getD ((w64 ((w64 (x1_4 * (256 : Int))) + (IntKind.i64.wrap (byteAt x1_0 ((w64 (x1_2 + x1_3))).toNat))))).toNat 0) ∧ ((x1_8).getD ((w64 ((w64 (x1_4 * (256 : Int))) + (IntKind.i64.wrap (byteAt x1_0 ((w64 (x1_2 + x1_3))).toNat))))).toNat 0) < (((x1_9).length : Nat) : Int)) (hy1_8 : ((x1_9).getD (((x1_8).getD ((w64 ((w64 (x1_4 * (256 : Int))) + (IntKind.i64.wrap (byteAt x1_0 ((w64 (x1_2 + x1_3))).toNat))))).toNat 0)).toNat 0) ≥ (0 : Int)) : CG P none (fnN P 29) 2 (codeOf P 29 [false, false, true, false, true, false, true]) (S29o_1 x1_0 x1_1 x1_2 x1_7 x1_8 x1_9 (x1_3, x1_4, x1_5, x1_6, x1_10)) (.normal, S29o_1 x1_0 x1_1 x1_2 x1_7 x1_8 x1_9 ((w64 (x1_3 + (1 : Int))), ((x1_8).getD ((w64 ((w64 (x1_4 * (256 : Int))) + (IntKind.i64.wrap (byteAt x1_0 ((w64 (x1_2 + x1_3))).toNat))))).toNat 0), ((x1_9).getD (((x1_8).getD ((w64 ((w64 (x1_4 * (256 : Int))) + (IntKind.i64.wrap (byteAt x1_0 ((w64 (x1_2 + x1_3))).toNat))))).toNat 0)).toNat 0), (w64 ((w64 (x1_2 + x1_3)) + (1 : Int))), (w64 (x1_10 + (1 : Int))))) :=
  runC_ok hm (A := aT [(4, .val (.bool true)), (10, .call ⟨0, [], (V28 x1_2 x1_3 x1_4 x1_5 x1_6 x1_7 ()), (R28 x1_2 x1_3 x1_4 x1_5 x1_6 x1_7 ()), []⟩), (23, .val (.bool false)), (33, .pur (Value.int .u8 (byteAt x1_0 ((w64 (x1_2 + x1_3))).toNat))), (36, .pur (Value.pointer (some ⟨0, ((w64 ((w64 (x1_4 * (256 : Int))) + (IntKind.i64.wrap (byteAt x1_0 ((w64 (x1_2 + x1_3))).toNat))))).toNat, none⟩))), (37, .ld (Value.int .i64 ((x1_8).getD ((w64 ((w64 (x1_4 * (256 : Int))) + (IntKind.i64.wrap (byteAt x1_0 ((w64 (x1_2 + x1_3))).toNat))))).toNat 0))), (44, .val (.bool false)), (52, .pur (Value.pointer (some ⟨1, (((x1_8).getD ((w64 ((w64 (x1_4 * (256 : Int))) + (IntKind.i64.wrap (byteAt x1_0 ((w64 (x1_2 + x1_3))).toNat))))).toNat 0)).toNat, none⟩))), (53, .ld (Value.int .i64 ((x1_9).getD (((x1_8).getD ((w64 ((w64 (x1_4 * (256 : Int))) + (IntKind.i64.wrap (byteAt x1_0 ((w64 (x1_2 + x1_3))).toNat))))).toNat 0)).toNat 0))), (54, .val (.bool true)), (61, .pur (Value.pointer (some ⟨1, (((x1_8).getD ((w64 ((w64 (x1_4 * (256 : Int))) + (IntKind.i64.wrap (byteAt x1_0 ((w64 (x1_2 + x1_3))).toNat))))).toNat 0)).toNat, none⟩))), (62, .ld (Value.int .i64 ((x1_9).getD (((x1_8).getD ((w64 ((w64 (x1_4 * (256 : Int))) + (IntKind.i64.wrap (byteAt x1_0 ((w64 (x1_2 + x1_3))).toNat))))).toNat 0)).toNat 0)))]) (L := lT []) (wk := ⟨[2, 3, 4, 5, 8, 9], [(0, 0, true), (1, 1, true), (2, 2, false), (3, 3, false), (4, 4, false)], 5, 2⟩)
    (ps := [(Value.bool (decide (x1_10 < x1_1))) = (Value.bool true),
    Gv P (.func 28) (A28 x1_2 x1_3 x1_4 x1_5 x1_6 x1_7) (H28 x1_2 x1_3 x1_4 x1_5 x1_6 x1_7) (V28 x1_2 x1_3 x1_4 x1_5 x1_6 x1_7 ()) (R28 x1_2 x1_3 x1_4 x1_5 x1_6 x1_7 ()),
    (Value.bool ((w64 (x1_2 + x1_3)) == (((x1_0).size : Nat) : Int))) = (Value.bool false),
    opIndex P 9 (Value.string x1_0) (Value.int .i64 (w64 (x1_2 + x1_3))) Ax.h0 = some ((Value.int .u8 (byteAt x1_0 ((w64 (x1_2 + x1_3))).toNat)), Ax.h0),
    opIndexAddr P 22 (Value.slice (some ⟨0, 0, none⟩) (x1_8).length (Nat.add big 1)) (Value.int .i64 (w64 ((w64 (x1_4 * (256 : Int))) + (IntKind.i64.wrap (byteAt x1_0 ((w64 (x1_2 + x1_3))).toNat))))) Ax.h0 = some ((Value.pointer (some ⟨0, ((w64 ((w64 (x1_4 * (256 : Int))) + (IntKind.i64.wrap (byteAt x1_0 ((w64 (x1_2 + x1_3))).toNat))))).toNat, none⟩)), Ax.h0),
    (layT (iv x1_8)).get ((w64 ((w64 (x1_4 * (256 : Int))) + (IntKind.i64.wrap (byteAt x1_0 ((w64 (x1_2 + x1_3))).toNat))))).toNat = some (Value.int .i64 ((x1_8).getD ((w64 ((w64 (x1_4 * (256 : Int))) + (IntKind.i64.wrap (byteAt x1_0 ((w64 (x1_2 + x1_3))).toNat))))).toNat 0)),
    (Value.bool (decide (((x1_8).getD ((w64 ((w64 (x1_4 * (256 : Int))) + (IntKind.i64.wrap (byteAt x1_0 ((w64 (x1_2 + x1_3))).toNat))))).toNat 0) < (0 : Int)))) = (Value.bool false),
    opIndexAddr P 22 (Value.slice (some ⟨1, 0, none⟩) (x1_9).length (Nat.add big 1)) (Value.int .i64 ((x1_8).getD ((w64 ((w64 (x1_4 * (256 : Int))) + (IntKind.i64.wrap (byteAt x1_0 ((w64 (x1_2 + x1_3))).toNat))))).toNat 0)) Ax.h0 = some ((Value.pointer (some ⟨1, (((x1_8).getD ((w64 ((w64 (x1_4 * (256 : Int))) + (IntKind.i64.wrap (byteAt x1_0 ((w64 (x1_2 + x1_3))).toNat))))).toNat 0)).toNat, none⟩)), Ax.h0),
    (layT (iv x1_9)).get (((x1_8).getD ((w64 ((w64 (x1_4 * (256 : Int))) + (IntKind.i64.wrap (byteAt x1_0 ((w64 (x1_2 + x1_3))).toNat))))).toNat 0)).toNat = some (Value.int .i64 ((x1_9).getD (((x1_8).getD ((w64 ((w64 (x1_4 * (256 : Int))) + (IntKind.i64.wrap (byteAt x1_0 ((w64 (x1_2 + x1_3))).toNat))))).toNat 0)).toNat 0)),
    (Value.bool (decide (((x1_9).getD (((x1_8).getD ((w64 ((w64 (x1_4 * (256 : Int))) + (IntKind.i64.wrap (byteAt x1_0 ((w64 (x1_2 + x1_3))).toNat))))).toNat 0)).toNat 0) ≥ (0 : Int)))) = (Value.bool true),
    opIndexAddr P 22 (Value.slice (some ⟨1, 0, none⟩) (x1_9).length (Nat.add big 1)) (Value.int .i64 ((x1_8).getD ((w64 ((w64 (x1_4 * (256 : Int))) + (IntKind.i64.wrap (byteAt x1_0 ((w64 (x1_2 + x1_3))).toNat))))).toNat 0)) Ax.h0 = some ((Value.pointer (some ⟨1, (((x1_8).getD ((w64 ((w64 (x1_4 * (256 : Int))) + (IntKind.i64.wrap (byteAt x1_0 ((w64 (x1_2 + x1_3))).toNat))))).toNat 0)).toNat, none⟩)), Ax.h0),
    (layT (iv x1_9)).get (((x1_8).getD ((w64 ((w64 (x1_4 * (256 : Int))) + (IntKind.i64.wrap (byteAt x1_0 ((w64 (x1_2 + x1_3))).toNat))))).toNat 0)).toNat = some (Value.int .i64 ((x1_9).getD (((x1_8).getD ((w64 ((w64 (x1_4 * (256 : Int))) + (IntKind.i64.wrap (byteAt x1_0 ((w64 (x1_2 + x1_3))).toNat))))).toNat 0)).toNat 0)),
    FlatB (.cells (layT (iv x1_8)) 3),
    FlatB (.cells (layT (iv x1_9)) 3)]) (by kernel_rfl) ⟨(vbT hy1_1), (m28_ok n x1_2 x1_3 x1_4 x1_5 x1_6 x1_7 () hy1_2), (veF hy1_3), (ixStr (by kernel_rfl) hy1_4), (ixS1 (e := 3) (by kernel_rfl) (by kernel_rfl) hy1_5), (iv_ld _ _ (toNatLt hy1_5)), (vbF hy1_6), (ixS1 (e := 3) (by kernel_rfl) (by kernel_rfl) hy1_7), (iv_ld _ _ (toNatLt hy1_7)), (vbT hy1_8), (ixS1 (e := 3) (by kernel_rfl) (by kernel_rfl) hy1_7), (iv_ld _ _ (toNatLt hy1_7)), (iv_flat _ _), (iv_flat _ _), trivial⟩
set_option maxRecDepth 100000 in
theorem q29o_1_3 (n : Nat) (x1_0 : ByteArray) (x1_1 : Int) (x1_2 : Int) (x1_3 : Int) (x1_4 : Int) (x1_5 : Int) (x1_6 : Int) (x1_7 : Bool) (x1_8 : List Int) (x1_9 : List Int) (x1_10 : Int) (hy1_1 : x1_10 < x1_1) (hy1_2 : m28 n x1_2 x1_3 x1_4 x1_5 x1_6 x1_7 = some ()) (hy1_3 : ¬ ((w64 (x1_2 + x1_3)) = (((x1_0).size : Nat) : Int))) (hy1_4 : 0 ≤ (w64 (x1_2 + x1_3)) ∧ (w64 (x1_2 + x1_3)) < (((x1_0).size : Nat) : Int)) (hy1_5 : 0 ≤ (w64 ((w64 (x1_4 * (256 : Int))) + (IntKind.i64.wrap (byteAt x1_0 ((w64 (x1_2 + x1_3))).toNat)))) ∧ (w64 ((w64 (x1_4 * (256 : Int))) + (IntKind.i64.wrap (byteAt x1_0 ((w64 (x1_2 + x1_3))).toNat)))) < (((x1_8).length : Nat) : Int)) (hy1_6 : ¬ (((x1_8).getD ((w64 ((w64 (x1_4 * (256 : Int))) + (IntKind.i64.wrap (byteAt x1_0 ((w64 (x1_2 + x1_3))).toNat))))).toNat 0) < (0 : Int))) (hy1_7 : 0 ≤ ((x1_8).getD ((w64 ((w64 (x1_4 * (256 : Int))) + (IntKind.i64.wrap (byteAt x1_0 ((w64 (x1_2 + x1_3))).toNat))))).toNat 0) ∧ ((x1_8).getD ((w64 ((w64 (x1_4 * (256 : Int))) + (IntKind.i64.wrap (byteAt x1_0 ((w64 (x1_2 + x1_3))).toNat))))).toNat 0) < (((x1_9).length : Nat) : Int)) (hy1_8 : ¬ (((x1_9).getD (((x1_8).getD ((w64 ((w64 (x1_4 * (256 : Int))) + (IntKind.i64.wrap (byteAt x1_0 ((w64 (x1_2 + x1_3))).toNat))))).toNat 0)).toNat 0) ≥ (0 : Int))) : CG P none (fnN P 29) 2 (codeOf P 29 [false, false, true, false, true, false, true]) (S29o_1 x1_0 x1_1 x1_2 x1_7 x1_8 x1_9 (x1_3, x1_4, x1_5, x1_6, x1_10)) (.normal, S29o_1 x1_0 x1_1 x1_2 x1_7 x1_8 x1_9 ((w64 (x1_3 + (1 : Int))), ((x1_8).getD ((w64 ((w64 (x1_4 * (256 : Int))) + (IntKind.i64.wrap (byteAt x1_0 ((w64 (x1_2 + x1_3))).toNat))))).toNat 0), x1_5, x1_6, (w64 (x1_10 + (1 : Int))))) :=
  runC_ok hm (A := aT [(4, .val (.bool true)), (10, .call ⟨0, [], (V28 x1_2 x1_3 x1_4 x1_5 x1_6 x1_7 ()), (R28 x1_2 x1_3 x1_4 x1_5 x1_6 x1_7 ()), []⟩), (23, .val (.bool false)), (33, .pur (Value.int .u8 (byteAt x1_0 ((w64 (x1_2 + x1_3))).toNat))), (36, .pur (Value.pointer (some ⟨0, ((w64 ((w64 (x1_4 * (256 : Int))) + (IntKind.i64.wrap (byteAt x1_0 ((w64 (x1_2 + x1_3))).toNat))))).toNat, none⟩))), (37, .ld (Value.int .i64 ((x1_8).getD ((w64 ((w64 (x1_4 * (256 : Int))) + (IntKind.i64.wrap (byteAt x1_0 ((w64 (x1_2 + x1_3))).toNat))))).toNat 0))), (44, .val (.bool false)), (52, .pur (Value.pointer (some ⟨1, (((x1_8).getD ((w64 ((w64 (x1_4 * (256 : Int))) + (IntKind.i64.wrap (byteAt x1_0 ((w64 (x1_2 + x1_3))).toNat))))).toNat 0)).toNat, none⟩))), (53, .ld (Value.int .i64 ((x1_9).getD (((x1_8).getD ((w64 ((w64 (x1_4 * (256 : Int))) + (IntKind.i64.wrap (byteAt x1_0 ((w64 (x1_2 + x1_3))).toNat))))).toNat 0)).toNat 0))), (54, .val (.bool false))]) (L := lT []) (wk := ⟨[2, 3, 4, 5, 8, 9], [(0, 0, true), (1, 1, true), (2, 2, false), (3, 3, false), (4, 4, false)], 5, 2⟩)
    (ps := [(Value.bool (decide (x1_10 < x1_1))) = (Value.bool true),
    Gv P (.func 28) (A28 x1_2 x1_3 x1_4 x1_5 x1_6 x1_7) (H28 x1_2 x1_3 x1_4 x1_5 x1_6 x1_7) (V28 x1_2 x1_3 x1_4 x1_5 x1_6 x1_7 ()) (R28 x1_2 x1_3 x1_4 x1_5 x1_6 x1_7 ()),
    (Value.bool ((w64 (x1_2 + x1_3)) == (((x1_0).size : Nat) : Int))) = (Value.bool false),
    opIndex P 9 (Value.string x1_0) (Value.int .i64 (w64 (x1_2 + x1_3))) Ax.h0 = some ((Value.int .u8 (byteAt x1_0 ((w64 (x1_2 + x1_3))).toNat)), Ax.h0),
    opIndexAddr P 22 (Value.slice (some ⟨0, 0, none⟩) (x1_8).length (Nat.add big 1)) (Value.int .i64 (w64 ((w64 (x1_4 * (256 : Int))) + (IntKind.i64.wrap (byteAt x1_0 ((w64 (x1_2 + x1_3))).toNat))))) Ax.h0 = some ((Value.pointer (some ⟨0, ((w64 ((w64 (x1_4 * (256 : Int))) + (IntKind.i64.wrap (byteAt x1_0 ((w64 (x1_2 + x1_3))).toNat))))).toNat, none⟩)), Ax.h0),
    (layT (iv x1_8)).get ((w64 ((w64 (x1_4 * (256 : Int))) + (IntKind.i64.wrap (byteAt x1_0 ((w64 (x1_2 + x1_3))).toNat))))).toNat = some (Value.int .i64 ((x1_8).getD ((w64 ((w64 (x1_4 * (256 : Int))) + (IntKind.i64.wrap (byteAt x1_0 ((w64 (x1_2 + x1_3))).toNat))))).toNat 0)),
    (Value.bool (decide (((x1_8).getD ((w64 ((w64 (x1_4 * (256 : Int))) + (IntKind.i64.wrap (byteAt x1_0 ((w64 (x1_2 + x1_3))).toNat))))).toNat 0) < (0 : Int)))) = (Value.bool false),
    opIndexAddr P 22 (Value.slice (some ⟨1, 0, none⟩) (x1_9).length (Nat.add big 1)) (Value.int .i64 ((x1_8).getD ((w64 ((w64 (x1_4 * (256 : Int))) + (IntKind.i64.wrap (byteAt x1_0 ((w64 (x1_2 + x1_3))).toNat))))).toNat 0)) Ax.h0 = some ((Value.pointer (some ⟨1, (((x1_8).getD ((w64 ((w64 (x1_4 * (256 : Int))) + (IntKind.i64.wrap (byteAt x1_0 ((w64 (x1_2 + x1_3))).toNat))))).toNat 0)).toNat, none⟩)), Ax.h0),
    (layT (iv x1_9)).get (((x1_8).getD ((w64 ((w64 (x1_4 * (256 : Int))) + (IntKind.i64.wrap (byteAt x1_0 ((w64 (x1_2 + x1_3))).toNat))))).toNat 0)).toNat = some (Value.int .i64 ((x1_9).getD (((x1_8).getD ((w64 ((w64 (x1_4 * (256 : Int))) + (IntKind.i64.wrap (byteAt x1_0 ((w64 (x1_2 + x1_3))).toNat))))).toNat 0)).toNat 0)),
    (Value.bool (decide (((x1_9).getD (((x1_8).getD ((w64 ((w64 (x1_4 * (256 : Int))) + (IntKind.i64.wrap (byteAt x1_0 ((w64 (x1_2 + x1_3))).toNat))))).toNat 0)).toNat 0) ≥ (0 : Int)))) = (Value.bool false),
    FlatB (.cells (layT (iv x1_8)) 3),
    FlatB (.cells (layT (iv x1_9)) 3)]) (by kernel_rfl) ⟨(vbT hy1_1), (m28_ok n x1_2 x1_3 x1_4 x1_5 x1_6 x1_7 () hy1_2), (veF hy1_3), (ixStr (by kernel_rfl) hy1_4), (ixS1 (e := 3) (by kernel_rfl) (by kernel_rfl) hy1_5), (iv_ld _ _ (toNatLt hy1_5)), (vbF hy1_6), (ixS1 (e := 3) (by kernel_rfl) (by kernel_rfl) hy1_7), (iv_ld _ _ (toNatLt hy1_7)), (vbF hy1_8), (iv_flat _ _), (iv_flat _ _), trivial⟩
set_option maxRecDepth 100000 in
theorem q29o_1_4 (n : Nat) (x1_0 : ByteArray) (x1_1 : Int) (x1_2 : Int) (x1_3 : Int) (x1_4 : Int) (x1_5 : Int) (x1_6 : Int) (x1_7 : Bool) (x1_8 : List Int) (x1_9 : List Int) (x1_10 : Int) (hy1_1 : ¬ (x1_10 < x1_1)) : CG P none (fnN P 29) 2 (codeOf P 29 [false, false, true, false, true, false, true]) (S29o_1 x1_0 x1_1 x1_2 x1_7 x1_8 x1_9 (x1_3, x1_4, x1_5, x1_6, x1_10)) (X29o_1 x1_0 x1_1 x1_2 x1_7 x1_8 x1_9 (x1_3, x1_4, x1_5, x1_6, x1_7)) :=
  runC_ok hm (A := aT [(4, .val (.bool false))]) (L := lT []) (wk := ⟨[4, 8], [(2, 2, false), (3, 4, false)], 4, 2⟩)
    (ps := [(Value.bool (decide (x1_10 < x1_1))) = (Value.bool false)]) (by kernel_rfl) ⟨(vbF hy1_1), trivial⟩
theorem m29o_1_ok (n : Nat) (x1_0 : ByteArray) (x1_1 : Int) (x1_2 : Int) (x1_7 : Bool) (x1_8 : List Int) (x1_9 : List Int) (st : Int × Int × Int × Int × Int) (r : Int × Int × Int × Int × Bool) (h : m29o_1 n x1_0 x1_1 x1_2 x1_7 x1_8 x1_9 st = some r) : CG P none (fnN P 29) 2 (codeOf P 29 [false, true, false, true, false, true]) (S29o_1 x1_0 x1_1 x1_2 x1_7 x1_8 x1_9 st) (X29o_1 x1_0 x1_1 x1_2 x1_7 x1_8 x1_9 r) :=
  CG.iter (b := codeOf P 29 [false, false, true, false, true, false, true]) (by kernel_rfl) (body := B29o_1 n x1_0 x1_1 x1_2 x1_7 x1_8 x1_9) (S := S29o_1 x1_0 x1_1 x1_2 x1_7 x1_8 x1_9) (X := X29o_1 x1_0 x1_1 x1_2 x1_7 x1_8 x1_9)
    (fun s s' h => by
    obtain ⟨x1_3, x1_4, x1_5, x1_6, x1_10⟩ := s
    unfold B29o_1 at h
    dsimp only at h
    by_cases hy1_1 : x1_10 < x1_1
    · rw [if_pos hy1_1] at h
      obtain ⟨_, hy1_2, h⟩ := Option.bind_eq_some_iff.1 h
      by_cases hy1_3 : (w64 (x1_2 + x1_3)) = (((x1_0).size : Nat) : Int)
      · rw [if_pos hy1_3] at h
        cases h
      · rw [if_neg hy1_3] at h
        by_cases hy1_4 : 0 ≤ (w64 (x1_2 + x1_3)) ∧ (w64 (x1_2 + x1_3)) < (((x1_0).size : Nat) : Int)
        · rw [if_pos hy1_4] at h
          by_cases hy1_5 : 0 ≤ (w64 ((w64 (x1_4 * (256 : Int))) + (IntKind.i64.wrap (byteAt x1_0 ((w64 (x1_2 + x1_3))).toNat)))) ∧ (w64 ((w64 (x1_4 * (256 : Int))) + (IntKind.i64.wrap (byteAt x1_0 ((w64 (x1_2 + x1_3))).toNat)))) < (((x1_8).length : Nat) : Int)
          · rw [if_pos hy1_5] at h
            by_cases hy1_6 : ((x1_8).getD ((w64 ((w64 (x1_4 * (256 : Int))) + (IntKind.i64.wrap (byteAt x1_0 ((w64 (x1_2 + x1_3))).toNat))))).toNat 0) < (0 : Int)
            · rw [if_pos hy1_6] at h
              cases h
            · rw [if_neg hy1_6] at h
              by_cases hy1_7 : 0 ≤ ((x1_8).getD ((w64 ((w64 (x1_4 * (256 : Int))) + (IntKind.i64.wrap (byteAt x1_0 ((w64 (x1_2 + x1_3))).toNat))))).toNat 0) ∧ ((x1_8).getD ((w64 ((w64 (x1_4 * (256 : Int))) + (IntKind.i64.wrap (byteAt x1_0 ((w64 (x1_2 + x1_3))).toNat))))).toNat 0) < (((x1_9).length : Nat) : Int)
              · rw [if_pos hy1_7] at h
                by_cases hy1_8 : ((x1_9).getD (((x1_8).getD ((w64 ((w64 (x1_4 * (256 : Int))) + (IntKind.i64.wrap (byteAt x1_0 ((w64 (x1_2 + x1_3))).toNat))))).toNat 0)).toNat 0) ≥ (0 : Int)
                · rw [if_pos hy1_8] at h
                  obtain rfl := Sum.inl.inj (Option.some.inj h); exact q29o_1_2 n x1_0 x1_1 x1_2 x1_3 x1_4 x1_5 x1_6 x1_7 x1_8 x1_9 x1_10 hy1_1 hy1_2 hy1_3 hy1_4 hy1_5 hy1_6 hy1_7 hy1_8
                · rw [if_neg hy1_8] at h
                  obtain rfl := Sum.inl.inj (Option.some.inj h); exact q29o_1_3 n x1_0 x1_1 x1_2 x1_3 x1_4 x1_5 x1_6 x1_7 x1_8 x1_9 x1_10 hy1_1 hy1_2 hy1_3 hy1_4 hy1_5 hy1_6 hy1_7 hy1_8
              · rw [if_neg hy1_7] at h; cases h
          · rw [if_neg hy1_5] at h; cases h
        · rw [if_neg hy1_4] at h; cases h
    · rw [if_neg hy1_1] at h
      cases h)
    (fun s r h => by
    obtain ⟨x1_3, x1_4, x1_5, x1_6, x1_10⟩ := s
    unfold B29o_1 at h
    dsimp only at h
    by_cases hy1_1 : x1_10 < x1_1
    · rw [if_pos hy1_1] at h
      obtain ⟨_, hy1_2, h⟩ := Option.bind_eq_some_iff.1 h
      by_cases hy1_3 : (w64 (x1_2 + x1_3)) = (((x1_0).size : Nat) : Int)
      · rw [if_pos hy1_3] at h
        obtain rfl := Sum.inr.inj (Option.some.inj h); exact q29o_1_0 n x1_0 x1_1 x1_2 x1_3 x1_4 x1_5 x1_6 x1_7 x1_8 x1_9 x1_10 hy1_1 hy1_2 hy1_3
      · rw [if_neg hy1_3] at h
        by_cases hy1_4 : 0 ≤ (w64 (x1_2 + x1_3)) ∧ (w64 (x1_2 + x1_3)) < (((x1_0).size : Nat) : Int)
        · rw [if_pos hy1_4] at h
          by_cases hy1_5 : 0 ≤ (w64 ((w64 (x1_4 * (256 : Int))) + (IntKind.i64.wrap (byteAt x1_0 ((w64 (x1_2 + x1_3))).toNat)))) ∧ (w64 ((w64 (x1_4 * (256 : Int))) + (IntKind.i64.wrap (byteAt x1_0 ((w64 (x1_2 + x1_3))).toNat)))) < (((x1_8).length : Nat) : Int)
          · rw [if_pos hy1_5] at h
            by_cases hy1_6 : ((x1_8).getD ((w64 ((w64 (x1_4 * (256 : Int))) + (IntKind.i64.wrap (byteAt x1_0 ((w64 (x1_2 + x1_3))).toNat))))).toNat 0) < (0 : Int)
            · rw [if_pos hy1_6] at h
              obtain rfl := Sum.inr.inj (Option.some.inj h); exact q29o_1_1 n x1_0 x1_1 x1_2 x1_3 x1_4 x1_5 x1_6 x1_7 x1_8 x1_9 x1_10 hy1_1 hy1_2 hy1_3 hy1_4 hy1_5 hy1_6
            · rw [if_neg hy1_6] at h
              by_cases hy1_7 : 0 ≤ ((x1_8).getD ((w64 ((w64 (x1_4 * (256 : Int))) + (IntKind.i64.wrap (byteAt x1_0 ((w64 (x1_2 + x1_3))).toNat))))).toNat 0) ∧ ((x1_8).getD ((w64 ((w64 (x1_4 * (256 : Int))) + (IntKind.i64.wrap (byteAt x1_0 ((w64 (x1_2 + x1_3))).toNat))))).toNat 0) < (((x1_9).length : Nat) : Int)
              · rw [if_pos hy1_7] at h
                by_cases hy1_8 : ((x1_9).getD (((x1_8).getD ((w64 ((w64 (x1_4 * (256 : Int))) + (IntKind.i64.wrap (byteAt x1_0 ((w64 (x1_2 + x1_3))).toNat))))).toNat 0)).toNat 0) ≥ (0 : Int)
                · rw [if_pos hy1_8] at h
                  cases h
                · rw [if_neg hy1_8] at h
                  cases h
              · rw [if_neg hy1_7] at h; cases h
          · rw [if_neg hy1_5] at h; cases h
        · rw [if_neg hy1_4] at h; cases h
    · rw [if_neg hy1_1] at h
      obtain rfl := Sum.inr.inj (Option.some.inj h); exact q29o_1_4 n x1_0 x1_1 x1_2 x1_3 x1_4 x1_5 x1_6 x1_7 x1_8 x1_9 x1_10 hy1_1)
    (fun r => by intro hx; cases hx) h
noncomputable def A29o (L : List Int) (K : List Int) (sf : Int) (sp : Int) (sq : Int) (sr : Int) (st : Int) (sd : Bool) (x : ByteArray) (m : Int) : List Value := [(Value.agg #[(Value.int .i64 sf), (Value.int .i64 sp), (Value.int .i64 sq), (Value.int .i64 sr), (Value.int .i64 st), (Value.bool sd)]), (Value.agg #[(Value.slice (some ⟨0, 0, none⟩) (L).length (Nat.add big 1)), (Value.slice (some ⟨1, 0, none⟩) (K).length (Nat.add big 1))]), (Value.string x), (Value.int .i64 m)]
noncomputable def H29o (L : List Int) (K : List Int) (sf : Int) (sp : Int) (sq : Int) (sr : Int) (st : Int) (sd : Bool) (x : ByteArray) (m : Int) : AH := ⟨sB [(0, (some (.cells (layT (iv L)) 3))), (1, (some (.cells (layT (iv K)) 3)))], 2, 2⟩
noncomputable def V29o (L : List Int) (K : List Int) (sf : Int) (sp : Int) (sq : Int) (sr : Int) (st : Int) (sd : Bool) (x : ByteArray) (m : Int) (r : Int × Int × Int × Int × Bool) : Value := match r with
  | (o0, o1, o2, o3, o4) => (Value.agg #[(Value.int .i64 sf), (Value.int .i64 o0), (Value.int .i64 o1), (Value.int .i64 o2), (Value.int .i64 o3), (Value.bool o4)])
noncomputable def R29o (L : List Int) (K : List Int) (sf : Int) (sp : Int) (sq : Int) (sr : Int) (st : Int) (sd : Bool) (x : ByteArray) (m : Int) (r : Int × Int × Int × Int × Bool) : AH := match r with
  | (o0, o1, o2, o3, o4) => ⟨sB [(2, (some (.cells (layT [(Value.int .i64 sf), (Value.int .i64 o0), (Value.int .i64 o1), (Value.int .i64 o2), (Value.int .i64 o3), (Value.bool o4)]) 52)))], 3, 2⟩
def m29o (n : Nat) (L : List Int) (K : List Int) (sf : Int) (sp : Int) (sq : Int) (sr : Int) (st : Int) (sd : Bool) (x : ByteArray) (m : Int) : Option (Int × Int × Int × Int × Bool) :=
  (m29o_1 n x m sf sd L K (sp, sq, sr, st, 0)).bind fun t => match t with
  | (c1_0, c1_1, c1_2, c1_3, c1_4) =>
    some (c1_0, c1_1, c1_2, c1_3, c1_4)
set_option maxRecDepth 100000 in
theorem p29o_0 (n : Nat) (L : List Int) (K : List Int) (sf : Int) (sp : Int) (sq : Int) (sr : Int) (st : Int) (sd : Bool) (x : ByteArray) (m : Int) (c1_0 : Int) (c1_1 : Int) (c1_2 : Int) (c1_3 : Int) (c1_4 : Bool) (hc1 : m29o_1 n x m sf sd L K (sp, sq, sr, st, 0) = some (c1_0, c1_1, c1_2, c1_3, c1_4)) : Gv P (.func 29) (A29o L K sf sp sq sr st sd x m) (H29o L K sf sp sq sr st sd x m) (V29o L K sf sp sq sr st sd x m (c1_0, c1_1, c1_2, c1_3, c1_4)) (R29o L K sf sp sq sr st sd x m (c1_0, c1_1, c1_2, c1_3, c1_4)) :=
  runF_ok hm (A := aT []) (L := lT [(9, ⟨⟨[2, 3, 4, 5, 8, 9], [(0, 0, true), (1, 1, true), (2, 2, false), (3, 3, false), (4, 4, false)], 5, 2⟩, (X29o_1 x m sf sd L K (c1_0, c1_1, c1_2, c1_3, c1_4)).1, (X29o_1 x m sf sd L K (c1_0, c1_1, c1_2, c1_3, c1_4)).2⟩)]) (wk := ⟨[8], [(2, 3, false)], 3, 2⟩)
    (ps := [CG P none (fnN P 29) 2 (codeOf P 29 [false, true, false, true, false, true]) (S29o_1 x m sf sd L K (sp, sq, sr, st, 0)) (X29o_1 x m sf sd L K (c1_0, c1_1, c1_2, c1_3, c1_4)),
    FlatB (.cells (layT (iv L)) 3),
    FlatB (.cells (layT (iv K)) 3)]) (by kernel_rfl) ⟨(m29o_1_ok n x m sf sd L K (sp, sq, sr, st, 0) (c1_0, c1_1, c1_2, c1_3, c1_4) hc1), (iv_flat _ _), (iv_flat _ _), trivial⟩
theorem m29o_ok (n : Nat) (L : List Int) (K : List Int) (sf : Int) (sp : Int) (sq : Int) (sr : Int) (st : Int) (sd : Bool) (x : ByteArray) (m : Int) (r : Int × Int × Int × Int × Bool) (h : m29o n L K sf sp sq sr st sd x m = some r) : Gv P (.func 29) (A29o L K sf sp sq sr st sd x m) (H29o L K sf sp sq sr st sd x m) (V29o L K sf sp sq sr st sd x m r) (R29o L K sf sp sq sr st sd x m r) := by
  unfold m29o at h
  obtain ⟨⟨c1_0, c1_1, c1_2, c1_3, c1_4⟩, hc1, h⟩ := Option.bind_eq_some_iff.1 h
  dsimp only at h
  obtain rfl := Option.some.inj h; exact p29o_0 n L K sf sp sq sr st sd x m c1_0 c1_1 c1_2 c1_3 c1_4 hc1

noncomputable def A25 (L : List Int) (K : List Int) (sf : Int) (sp : Int) (sq : Int) (sr : Int) (st : Int) (sd : Bool) (on : Bool) : List Value := [(Value.pointer (some ⟨0, 0, none⟩))]
noncomputable def H25 (L : List Int) (K : List Int) (sf : Int) (sp : Int) (sq : Int) (sr : Int) (st : Int) (sd : Bool) (on : Bool) : AH := ⟨sB [(0, (some (.cells (layT [(Value.pointer (some ⟨0, 0, none⟩)), (Value.slice (some ⟨1, 0, none⟩) (L).length (Nat.add big 1)), (Value.slice (some ⟨2, 0, none⟩) (K).length (Nat.add big 1)), (Value.int .i64 sf), (Value.int .i64 sp), (Value.int .i64 sq), (Value.int .i64 sr), (Value.int .i64 st), (Value.bool sd), (Value.bool on)]) 54))), (1, (some (.cells (layT (iv L)) 3))), (2, (some (.cells (layT (iv K)) 3)))], 3, 3⟩
noncomputable def V25 (L : List Int) (K : List Int) (sf : Int) (sp : Int) (sq : Int) (sr : Int) (st : Int) (sd : Bool) (on : Bool) (r : Unit) : Value := match r with
  | _ => (Value.bool true)
noncomputable def R25 (L : List Int) (K : List Int) (sf : Int) (sp : Int) (sq : Int) (sr : Int) (st : Int) (sd : Bool) (on : Bool) (r : Unit) : AH := match r with
  | _ => ⟨sB [], 3, 3⟩
def m25 (n : Nat) (L : List Int) (K : List Int) (sf : Int) (sp : Int) (sq : Int) (sr : Int) (st : Int) (sd : Bool) (on : Bool) : Option (Unit) :=
  some ()
set_option maxRecDepth 100000 in
theorem p25_0 (n : Nat) (L : List Int) (K : List Int) (sf : Int) (sp : Int) (sq : Int) (sr : Int) (st : Int) (sd : Bool) (on : Bool) : Gv P (.func 25) (A25 L K sf sp sq sr st sd on) (H25 L K sf sp sq sr st sd on) (V25 L K sf sp sq sr st sd on ()) (R25 L K sf sp sq sr st sd on ()) :=
  runF_ok hm (A := aT []) (L := lT []) (wk := ⟨[2], [], 3, 3⟩)
    (ps := []) (by kernel_rfl) trivial
theorem m25_ok (n : Nat) (L : List Int) (K : List Int) (sf : Int) (sp : Int) (sq : Int) (sr : Int) (st : Int) (sd : Bool) (on : Bool) (r : Unit) (h : m25 n L K sf sp sq sr st sd on = some r) : Gv P (.func 25) (A25 L K sf sp sq sr st sd on) (H25 L K sf sp sq sr st sd on) (V25 L K sf sp sq sr st sd on r) (R25 L K sf sp sq sr st sd on r) := by
  unfold m25 at h
  obtain rfl := Option.some.inj h; exact p25_0 n L K sf sp sq sr st sd on

noncomputable def A17 (L : List Int) (K : List Int) (sf : Int) (sp : Int) (sq : Int) (sr : Int) (st : Int) (sd : Bool) (on : Bool) : List Value := [(Value.pointer (some ⟨0, 0, none⟩))]
noncomputable def H17 (L : List Int) (K : List Int) (sf : Int) (sp : Int) (sq : Int) (sr : Int) (st : Int) (sd : Bool) (on : Bool) : AH := ⟨sB [(0, (some (.cells (layT [(Value.pointer (some ⟨0, 0, none⟩)), (Value.slice (some ⟨1, 0, none⟩) (L).length (Nat.add big 1)), (Value.slice (some ⟨2, 0, none⟩) (K).length (Nat.add big 1)), (Value.int .i64 sf), (Value.int .i64 sp), (Value.int .i64 sq), (Value.int .i64 sr), (Value.int .i64 st), (Value.bool sd), (Value.bool on)]) 54))), (1, (some (.cells (layT (iv L)) 3))), (2, (some (.cells (layT (iv K)) 3)))], 3, 3⟩
noncomputable def V17 (L : List Int) (K : List Int) (sf : Int) (sp : Int) (sq : Int) (sr : Int) (st : Int) (sd : Bool) (on : Bool) (r : Unit) : Value := match r with
  | _ => (Value.int .i64 (w64 (sf + sp)))
noncomputable def R17 (L : List Int) (K : List Int) (sf : Int) (sp : Int) (sq : Int) (sr : Int) (st : Int) (sd : Bool) (on : Bool) (r : Unit) : AH := match r with
  | _ => ⟨sB [], 3, 3⟩
def m17 (n : Nat) (L : List Int) (K : List Int) (sf : Int) (sp : Int) (sq : Int) (sr : Int) (st : Int) (sd : Bool) (on : Bool) : Option (Unit) :=
  (m25 n L K sf sp sq sr st sd on).bind fun _ =>
  (m28 n sf sp sq sr st sd).bind fun _ =>
  some ()
set_option maxRecDepth 100000 in
theorem p17_0 (n : Nat) (L : List Int) (K : List Int) (sf : Int) (sp : Int) (sq : Int) (sr : Int) (st : Int) (sd : Bool) (on : Bool) (hc1 : m25 n L K sf sp sq sr st sd on = some ()) (hc2 : m28 n sf sp sq sr st sd = some ()) : Gv P (.func 17) (A17 L K sf sp sq sr st sd on) (H17 L K sf sp sq sr st sd on) (V17 L K sf sp sq sr st sd on ()) (R17 L K sf sp sq sr st sd on ()) :=
  runF_ok hm (A := aT [(5, .call ⟨3, [(0, 0, false), (1, 1, true), (2, 2, true)], (V25 L K sf sp sq sr st sd on ()), (R25 L K sf sp sq sr st sd on ()), []⟩), (13, .call ⟨0, [], (V28 sf sp sq sr st sd ()), (R28 sf sp sq sr st sd ()), []⟩)]) (L := lT []) (wk := ⟨[2], [], 3, 3⟩)
    (ps := [Gv P (.func 25) (A25 L K sf sp sq sr st sd on) (H25 L K sf sp sq sr st sd on) (V25 L K sf sp sq sr st sd on ()) (R25 L K sf sp sq sr st sd on ()),
    FlatB (.cells (layT (iv L)) 3),
    FlatB (.cells (layT (iv K)) 3),
    Gv P (.func 28) (A28 sf sp sq sr st sd) (H28 sf sp sq sr st sd) (V28 sf sp sq sr st sd ()) (R28 sf sp sq sr st sd ())]) (by kernel_rfl) ⟨(m25_ok n L K sf sp sq sr st sd on () hc1), (iv_flat _ _), (iv_flat _ _), (m28_ok n sf sp sq sr st sd () hc2), trivial⟩
theorem m17_ok (n : Nat) (L : List Int) (K : List Int) (sf : Int) (sp : Int) (sq : Int) (sr : Int) (st : Int) (sd : Bool) (on : Bool) (r : Unit) (h : m17 n L K sf sp sq sr st sd on = some r) : Gv P (.func 17) (A17 L K sf sp sq sr st sd on) (H17 L K sf sp sq sr st sd on) (V17 L K sf sp sq sr st sd on r) (R17 L K sf sp sq sr st sd on r) := by
  unfold m17 at h
  obtain ⟨_, hc1, h⟩ := Option.bind_eq_some_iff.1 h
  obtain ⟨_, hc2, h⟩ := Option.bind_eq_some_iff.1 h
  obtain rfl := Option.some.inj h; exact p17_0 n L K sf sp sq sr st sd on hc1 hc2

noncomputable def A18 (L : List Int) (K : List Int) (sf : Int) (sp : Int) (sq : Int) (sr : Int) (st : Int) (sd : Bool) (on : Bool) : List Value := [(Value.pointer (some ⟨0, 0, none⟩))]
noncomputable def H18 (L : List Int) (K : List Int) (sf : Int) (sp : Int) (sq : Int) (sr : Int) (st : Int) (sd : Bool) (on : Bool) : AH := ⟨sB [(0, (some (.cells (layT [(Value.pointer (some ⟨0, 0, none⟩)), (Value.slice (some ⟨1, 0, none⟩) (L).length (Nat.add big 1)), (Value.slice (some ⟨2, 0, none⟩) (K).length (Nat.add big 1)), (Value.int .i64 sf), (Value.int .i64 sp), (Value.int .i64 sq), (Value.int .i64 sr), (Value.int .i64 st), (Value.bool sd), (Value.bool on)]) 54))), (1, (some (.cells (layT (iv L)) 3))), (2, (some (.cells (layT (iv K)) 3)))], 3, 3⟩
noncomputable def V18 (L : List Int) (K : List Int) (sf : Int) (sp : Int) (sq : Int) (sr : Int) (st : Int) (sd : Bool) (on : Bool) (r : Unit) : Value := match r with
  | _ => (Value.int .i64 sp)
noncomputable def R18 (L : List Int) (K : List Int) (sf : Int) (sp : Int) (sq : Int) (sr : Int) (st : Int) (sd : Bool) (on : Bool) (r : Unit) : AH := match r with
  | _ => ⟨sB [], 3, 3⟩
def m18 (n : Nat) (L : List Int) (K : List Int) (sf : Int) (sp : Int) (sq : Int) (sr : Int) (st : Int) (sd : Bool) (on : Bool) : Option (Unit) :=
  (m25 n L K sf sp sq sr st sd on).bind fun _ =>
  some ()
set_option maxRecDepth 100000 in
theorem p18_0 (n : Nat) (L : List Int) (K : List Int) (sf : Int) (sp : Int) (sq : Int) (sr : Int) (st : Int) (sd : Bool) (on : Bool) (hc1 : m25 n L K sf sp sq sr st sd on = some ()) : Gv P (.func 18) (A18 L K sf sp sq sr st sd on) (H18 L K sf sp sq sr st sd on) (V18 L K sf sp sq sr st sd on ()) (R18 L K sf sp sq sr st sd on ()) :=
  runF_ok hm (A := aT [(5, .call ⟨3, [(0, 0, false), (1, 1, true), (2, 2, true)], (V25 L K sf sp sq sr st sd on ()), (R25 L K sf sp sq sr st sd on ()), []⟩)]) (L := lT []) (wk := ⟨[2], [], 3, 3⟩)
    (ps := [Gv P (.func 25) (A25 L K sf sp sq sr st sd on) (H25 L K sf sp sq sr st sd on) (V25 L K sf sp sq sr st sd on ()) (R25 L K sf sp sq sr st sd on ()),
    FlatB (.cells (layT (iv L)) 3),
    FlatB (.cells (layT (iv K)) 3)]) (by kernel_rfl) ⟨(m25_ok n L K sf sp sq sr st sd on () hc1), (iv_flat _ _), (iv_flat _ _), trivial⟩
theorem m18_ok (n : Nat) (L : List Int) (K : List Int) (sf : Int) (sp : Int) (sq : Int) (sr : Int) (st : Int) (sd : Bool) (on : Bool) (r : Unit) (h : m18 n L K sf sp sq sr st sd on = some r) : Gv P (.func 18) (A18 L K sf sp sq sr st sd on) (H18 L K sf sp sq sr st sd on) (V18 L K sf sp sq sr st sd on r) (R18 L K sf sp sq sr st sd on r) := by
  unfold m18 at h
  obtain ⟨_, hc1, h⟩ := Option.bind_eq_some_iff.1 h
  obtain rfl := Option.some.inj h; exact p18_0 n L K sf sp sq sr st sd on hc1

noncomputable def A15 (L : List Int) (K : List Int) (sf : Int) (sp : Int) (sq : Int) (sr : Int) (st : Int) (sd : Bool) (on : Bool) : List Value := [(Value.pointer (some ⟨0, 0, none⟩))]
noncomputable def H15 (L : List Int) (K : List Int) (sf : Int) (sp : Int) (sq : Int) (sr : Int) (st : Int) (sd : Bool) (on : Bool) : AH := ⟨sB [(0, (some (.cells (layT [(Value.pointer (some ⟨0, 0, none⟩)), (Value.slice (some ⟨1, 0, none⟩) (L).length (Nat.add big 1)), (Value.slice (some ⟨2, 0, none⟩) (K).length (Nat.add big 1)), (Value.int .i64 sf), (Value.int .i64 sp), (Value.int .i64 sq), (Value.int .i64 sr), (Value.int .i64 st), (Value.bool sd), (Value.bool on)]) 54))), (1, (some (.cells (layT (iv L)) 3))), (2, (some (.cells (layT (iv K)) 3)))], 3, 3⟩
noncomputable def V15 (L : List Int) (K : List Int) (sf : Int) (sp : Int) (sq : Int) (sr : Int) (st : Int) (sd : Bool) (on : Bool) (r : Int × Int × Int × Int × Bool) : Value := match r with
  | (o0, o1, o2, o3, o4) => (Value.tuple #[(Value.agg #[(Value.int .i64 o0), (Value.int .i64 o1), (Value.int .i64 o2), (Value.int .i64 o3)]), (Value.bool o4)])
noncomputable def R15 (L : List Int) (K : List Int) (sf : Int) (sp : Int) (sq : Int) (sr : Int) (st : Int) (sd : Bool) (on : Bool) (r : Int × Int × Int × Int × Bool) : AH := match r with
  | (o0, o1, o2, o3, o4) => ⟨sB [(3, (some (.cells (layT [(Value.int .i64 o0), (Value.int .i64 o1), (Value.int .i64 o2), (Value.int .i64 o3)]) 31)))], 4, 3⟩
def m15 (n : Nat) (L : List Int) (K : List Int) (sf : Int) (sp : Int) (sq : Int) (sr : Int) (st : Int) (sd : Bool) (on : Bool) : Option (Int × Int × Int × Int × Bool) :=
  (m25 n L K sf sp sq sr st sd on).bind fun _ =>
  if sd = true then
    (m27 n sf sp sq sr st sd).bind fun c3_ =>
    some (sr, sf, c3_, (w64 (sf + sp)), true)
  else
    some (0, 0, 0, 0, false)
set_option maxRecDepth 100000 in
theorem p15_0 (n : Nat) (L : List Int) (K : List Int) (sf : Int) (sp : Int) (sq : Int) (sr : Int) (st : Int) (sd : Bool) (on : Bool) (hc1 : m25 n L K sf sp sq sr st sd on = some ()) (hc2 : sd = true) (c3_ : Int) (hc3 : m27 n sf sp sq sr st sd = some c3_) : Gv P (.func 15) (A15 L K sf sp sq sr st sd on) (H15 L K sf sp sq sr st sd on) (V15 L K sf sp sq sr st sd on (sr, sf, c3_, (w64 (sf + sp)), true)) (R15 L K sf sp sq sr st sd on (sr, sf, c3_, (w64 (sf + sp)), true)) :=
  runF_ok hm (A := aT [(6, .call ⟨3, [(0, 0, false), (1, 1, true), (2, 2, true)], (V25 L K sf sp sq sr st sd on ()), (R25 L K sf sp sq sr st sd on ()), []⟩), (14, .val (.bool false)), (22, .call ⟨0, [], (V27 sf sp sq sr st sd c3_), (R27 sf sp sq sr st sd c3_), [(4, 0, false)]⟩)]) (L := lT []) (wk := ⟨[2, 3], [(3, 3, false)], 4, 3⟩)
    (ps := [Gv P (.func 25) (A25 L K sf sp sq sr st sd on) (H25 L K sf sp sq sr st sd on) (V25 L K sf sp sq sr st sd on ()) (R25 L K sf sp sq sr st sd on ()),
    FlatB (.cells (layT (iv L)) 3),
    FlatB (.cells (layT (iv K)) 3),
    (Value.bool (!sd)) = (Value.bool false),
    Gv P (.func 27) (A27 sf sp sq sr st sd) (H27 sf sp sq sr st sd) (V27 sf sp sq sr st sd c3_) (R27 sf sp sq sr st sd c3_)]) (by kernel_rfl) ⟨(m25_ok n L K sf sp sq sr st sd on () hc1), (iv_flat _ _), (iv_flat _ _), (vBn hc2), (m27_ok n sf sp sq sr st sd c3_ hc3), trivial⟩
set_option maxRecDepth 100000 in
theorem p15_1 (n : Nat) (L : List Int) (K : List Int) (sf : Int) (sp : Int) (sq : Int) (sr : Int) (st : Int) (sd : Bool) (on : Bool) (hc1 : m25 n L K sf sp sq sr st sd on = some ()) (hc2 : ¬ (sd = true)) : Gv P (.func 15) (A15 L K sf sp sq sr st sd on) (H15 L K sf sp sq sr st sd on) (V15 L K sf sp sq sr st sd on (0, 0, 0, 0, false)) (R15 L K sf sp sq sr st sd on (0, 0, 0, 0, false)) :=
  runF_ok hm (A := aT [(6, .call ⟨3, [(0, 0, false), (1, 1, true), (2, 2, true)], (V25 L K sf sp sq sr st sd on ()), (R25 L K sf sp sq sr st sd on ()), []⟩), (14, .val (.bool true))]) (L := lT []) (wk := ⟨[2, 3], [(3, 3, false)], 4, 3⟩)
    (ps := [Gv P (.func 25) (A25 L K sf sp sq sr st sd on) (H25 L K sf sp sq sr st sd on) (V25 L K sf sp sq sr st sd on ()) (R25 L K sf sp sq sr st sd on ()),
    FlatB (.cells (layT (iv L)) 3),
    FlatB (.cells (layT (iv K)) 3),
    (Value.bool (!sd)) = (Value.bool true)]) (by kernel_rfl) ⟨(m25_ok n L K sf sp sq sr st sd on () hc1), (iv_flat _ _), (iv_flat _ _), (vBn (Bool.eq_false_iff.2 hc2)), trivial⟩
theorem m15_ok (n : Nat) (L : List Int) (K : List Int) (sf : Int) (sp : Int) (sq : Int) (sr : Int) (st : Int) (sd : Bool) (on : Bool) (r : Int × Int × Int × Int × Bool) (h : m15 n L K sf sp sq sr st sd on = some r) : Gv P (.func 15) (A15 L K sf sp sq sr st sd on) (H15 L K sf sp sq sr st sd on) (V15 L K sf sp sq sr st sd on r) (R15 L K sf sp sq sr st sd on r) := by
  unfold m15 at h
  obtain ⟨_, hc1, h⟩ := Option.bind_eq_some_iff.1 h
  by_cases hc2 : sd = true
  · rw [if_pos hc2] at h
    obtain ⟨c3_, hc3, h⟩ := Option.bind_eq_some_iff.1 h
    obtain rfl := Option.some.inj h; exact p15_0 n L K sf sp sq sr st sd on hc1 hc2 c3_ hc3
  · rw [if_neg hc2] at h
    obtain rfl := Option.some.inj h; exact p15_1 n L K sf sp sq sr st sd on hc1 hc2

noncomputable def A14 (L : List Int) (K : List Int) (sf : Int) (sp : Int) (sq : Int) (sr : Int) (st : Int) (sd : Bool) (on : Bool) (a : Int) : List Value := [(Value.pointer (some ⟨0, 0, none⟩)), (Value.int .i64 a)]
noncomputable def H14 (L : List Int) (K : List Int) (sf : Int) (sp : Int) (sq : Int) (sr : Int) (st : Int) (sd : Bool) (on : Bool) (a : Int) : AH := ⟨sB [(0, (some (.cells (layT [(Value.pointer (some ⟨0, 0, none⟩)), (Value.slice (some ⟨1, 0, none⟩) (L).length (Nat.add big 1)), (Value.slice (some ⟨2, 0, none⟩) (K).length (Nat.add big 1)), (Value.int .i64 sf), (Value.int .i64 sp), (Value.int .i64 sq), (Value.int .i64 sr), (Value.int .i64 st), (Value.bool sd), (Value.bool on)]) 54))), (1, (some (.cells (layT (iv L)) 3))), (2, (some (.cells (layT (iv K)) 3)))], 3, 3⟩
noncomputable def V14 (L : List Int) (K : List Int) (sf : Int) (sp : Int) (sq : Int) (sr : Int) (st : Int) (sd : Bool) (on : Bool) (a : Int) (r : Int × Int × Int × Int × Int × Bool × Bool × Int) : Value := match r with
  | (o0, o1, o2, o3, o4, o5, o6, o7) => (Value.int .i64 o7)
noncomputable def R14 (L : List Int) (K : List Int) (sf : Int) (sp : Int) (sq : Int) (sr : Int) (st : Int) (sd : Bool) (on : Bool) (a : Int) (r : Int × Int × Int × Int × Int × Bool × Bool × Int) : AH := match r with
  | (o0, o1, o2, o3, o4, o5, o6, o7) => ⟨sB [(0, (some (.cells (layT [(Value.pointer (some ⟨0, 0, none⟩)), (Value.slice (some ⟨1, 0, none⟩) (L).length (Nat.add big 1)), (Value.slice (some ⟨2, 0, none⟩) (K).length (Nat.add big 1)), (Value.int .i64 o0), (Value.int .i64 o1), (Value.int .i64 o2), (Value.int .i64 o3), (Value.int .i64 o4), (Value.bool o5), (Value.bool o6)]) 54))), (1, (some (.cells (layT (iv L)) 3))), (2, (some (.cells (layT (iv K)) 3)))], 3, 0⟩
def m14 (n : Nat) (L : List Int) (K : List Int) (sf : Int) (sp : Int) (sq : Int) (sr : Int) (st : Int) (sd : Bool) (on : Bool) (a : Int) : Option (Int × Int × Int × Int × Int × Bool × Bool × Int) :=
  (m25 n L K sf sp sq sr st sd on).bind fun _ =>
  if a < (0 : Int) then
    some (sf, sp, sq, sr, st, sd, on, 2)
  else
    (m26 n a).bind fun _ =>
    some (a, 0, 0, (-1), a, false, true, 0)
set_option maxRecDepth 100000 in
theorem p14_0 (n : Nat) (L : List Int) (K : List Int) (sf : Int) (sp : Int) (sq : Int) (sr : Int) (st : Int) (sd : Bool) (on : Bool) (a : Int) (hc1 : m25 n L K sf sp sq sr st sd on = some ()) (hc2 : a < (0 : Int)) : Gv P (.func 14) (A14 L K sf sp sq sr st sd on a) (H14 L K sf sp sq sr st sd on a) (V14 L K sf sp sq sr st sd on a (sf, sp, sq, sr, st, sd, on, 2)) (R14 L K sf sp sq sr st sd on a (sf, sp, sq, sr, st, sd, on, 2)) :=
  runF_ok hm (A := aT [(5, .call ⟨3, [(0, 0, false), (1, 1, true), (2, 2, true)], (V25 L K sf sp sq sr st sd on ()), (R25 L K sf sp sq sr st sd on ()), []⟩), (11, .val (.bool true))]) (L := lT []) (wk := ⟨[4], [(0, 0, false), (1, 1, true), (2, 2, true)], 3, 0⟩)
    (ps := [Gv P (.func 25) (A25 L K sf sp sq sr st sd on) (H25 L K sf sp sq sr st sd on) (V25 L K sf sp sq sr st sd on ()) (R25 L K sf sp sq sr st sd on ()),
    FlatB (.cells (layT (iv L)) 3),
    FlatB (.cells (layT (iv K)) 3),
    (Value.bool (decide (a < (0 : Int)))) = (Value.bool true),
    FlatB (.cells (layT (iv L)) 3),
    FlatB (.cells (layT (iv K)) 3)]) (by kernel_rfl) ⟨(m25_ok n L K sf sp sq sr st sd on () hc1), (iv_flat _ _), (iv_flat _ _), (vbT hc2), (iv_flat _ _), (iv_flat _ _), trivial⟩
set_option maxRecDepth 100000 in
theorem p14_1 (n : Nat) (L : List Int) (K : List Int) (sf : Int) (sp : Int) (sq : Int) (sr : Int) (st : Int) (sd : Bool) (on : Bool) (a : Int) (hc1 : m25 n L K sf sp sq sr st sd on = some ()) (hc2 : ¬ (a < (0 : Int))) (hc3 : m26 n a = some ()) : Gv P (.func 14) (A14 L K sf sp sq sr st sd on a) (H14 L K sf sp sq sr st sd on a) (V14 L K sf sp sq sr st sd on a (a, 0, 0, (-1), a, false, true, 0)) (R14 L K sf sp sq sr st sd on a (a, 0, 0, (-1), a, false, true, 0)) :=
  runF_ok hm (A := aT [(5, .call ⟨3, [(0, 0, false), (1, 1, true), (2, 2, true)], (V25 L K sf sp sq sr st sd on ()), (R25 L K sf sp sq sr st sd on ()), []⟩), (11, .val (.bool false)), (17, .call ⟨0, [], (V26 a ()), (R26 a ()), [(3, 0, false)]⟩)]) (L := lT []) (wk := ⟨[4], [(0, 0, false), (1, 1, true), (2, 2, true)], 3, 0⟩)
    (ps := [Gv P (.func 25) (A25 L K sf sp sq sr st sd on) (H25 L K sf sp sq sr st sd on) (V25 L K sf sp sq sr st sd on ()) (R25 L K sf sp sq sr st sd on ()),
    FlatB (.cells (layT (iv L)) 3),
    FlatB (.cells (layT (iv K)) 3),
    (Value.bool (decide (a < (0 : Int)))) = (Value.bool false),
    Gv P (.func 26) (A26 a) (H26 a) (V26 a ()) (R26 a ()),
    FlatB (.cells (layT (iv L)) 3),
    FlatB (.cells (layT (iv K)) 3)]) (by kernel_rfl) ⟨(m25_ok n L K sf sp sq sr st sd on () hc1), (iv_flat _ _), (iv_flat _ _), (vbF hc2), (m26_ok n a () hc3), (iv_flat _ _), (iv_flat _ _), trivial⟩
theorem m14_ok (n : Nat) (L : List Int) (K : List Int) (sf : Int) (sp : Int) (sq : Int) (sr : Int) (st : Int) (sd : Bool) (on : Bool) (a : Int) (r : Int × Int × Int × Int × Int × Bool × Bool × Int) (h : m14 n L K sf sp sq sr st sd on a = some r) : Gv P (.func 14) (A14 L K sf sp sq sr st sd on a) (H14 L K sf sp sq sr st sd on a) (V14 L K sf sp sq sr st sd on a r) (R14 L K sf sp sq sr st sd on a r) := by
  unfold m14 at h
  obtain ⟨_, hc1, h⟩ := Option.bind_eq_some_iff.1 h
  by_cases hc2 : a < (0 : Int)
  · rw [if_pos hc2] at h
    obtain rfl := Option.some.inj h; exact p14_0 n L K sf sp sq sr st sd on a hc1 hc2
  · rw [if_neg hc2] at h
    obtain ⟨_, hc3, h⟩ := Option.bind_eq_some_iff.1 h
    obtain rfl := Option.some.inj h; exact p14_1 n L K sf sp sq sr st sd on a hc1 hc2 hc3

noncomputable def A16 (L : List Int) (K : List Int) (sf : Int) (sp : Int) (sq : Int) (sr : Int) (st : Int) (sd : Bool) (on : Bool) (x : ByteArray) : List Value := [(Value.pointer (some ⟨0, 0, none⟩)), (Value.string x)]
noncomputable def H16 (L : List Int) (K : List Int) (sf : Int) (sp : Int) (sq : Int) (sr : Int) (st : Int) (sd : Bool) (on : Bool) (x : ByteArray) : AH := ⟨sB [(0, (some (.cells (layT [(Value.pointer (some ⟨0, 0, none⟩)), (Value.slice (some ⟨1, 0, none⟩) (L).length (Nat.add big 1)), (Value.slice (some ⟨2, 0, none⟩) (K).length (Nat.add big 1)), (Value.int .i64 sf), (Value.int .i64 sp), (Value.int .i64 sq), (Value.int .i64 sr), (Value.int .i64 st), (Value.bool sd), (Value.bool on)]) 54))), (1, (some (.cells (layT (iv L)) 3))), (2, (some (.cells (layT (iv K)) 3)))], 3, 3⟩
noncomputable def V16 (L : List Int) (K : List Int) (sf : Int) (sp : Int) (sq : Int) (sr : Int) (st : Int) (sd : Bool) (on : Bool) (x : ByteArray) (r : Int × Int × Int × Int × Bool × Bool × Int) : Value := match r with
  | (o0, o1, o2, o3, o4, o5, o6) => (Value.tuple #[(Value.bool o5), (Value.int .i64 o6)])
noncomputable def R16 (L : List Int) (K : List Int) (sf : Int) (sp : Int) (sq : Int) (sr : Int) (st : Int) (sd : Bool) (on : Bool) (x : ByteArray) (r : Int × Int × Int × Int × Bool × Bool × Int) : AH := match r with
  | (o0, o1, o2, o3, o4, o5, o6) => ⟨sB [(0, (some (.cells (layT [(Value.pointer (some ⟨0, 0, none⟩)), (Value.slice (some ⟨1, 0, none⟩) (L).length (Nat.add big 1)), (Value.slice (some ⟨2, 0, none⟩) (K).length (Nat.add big 1)), (Value.int .i64 sf), (Value.int .i64 o0), (Value.int .i64 o1), (Value.int .i64 o2), (Value.int .i64 o3), (Value.bool o4), (Value.bool on)]) 54))), (1, (some (.cells (layT (iv L)) 3))), (2, (some (.cells (layT (iv K)) 3)))], 3, 0⟩
def m16 (n : Nat) (L : List Int) (K : List Int) (sf : Int) (sp : Int) (sq : Int) (sr : Int) (st : Int) (sd : Bool) (on : Bool) (x : ByteArray) : Option (Int × Int × Int × Int × Bool × Bool × Int) :=
  (m25 n L K sf sp sq sr st sd on).bind fun _ =>
  if on = true then
    if sd = true then
      some (sp, sq, sr, st, sd, false, 9)
    else
      if sf ≥ (((x).size : Nat) : Int) then
        some (sp, sq, sr, st, sd, false, 2)
      else
        (m28 n sf sp sq sr st sd).bind fun _ =>
        if (w64 (sf + sp)) > (((x).size : Nat) : Int) then
          some (sp, sq, sr, st, sd, false, 2)
        else
          (m29o n L K sf sp sq sr st sd x 1).bind fun t => match t with
          | (c7_0, c7_1, c7_2, c7_3, c7_4) =>
            some (c7_0, c7_1, c7_2, c7_3, c7_4, c7_4, 0)
  else
    some (sp, sq, sr, st, sd, false, 9)
set_option maxRecDepth 100000 in
theorem p16_0 (n : Nat) (L : List Int) (K : List Int) (sf : Int) (sp : Int) (sq : Int) (sr : Int) (st : Int) (sd : Bool) (on : Bool) (x : ByteArray) (hc1 : m25 n L K sf sp sq sr st sd on = some ()) (hc2 : on = true) (hc3 : sd = true) : Gv P (.func 16) (A16 L K sf sp sq sr st sd on x) (H16 L K sf sp sq sr st sd on x) (V16 L K sf sp sq sr st sd on x (sp, sq, sr, st, sd, false, 9)) (R16 L K sf sp sq sr st sd on x (sp, sq, sr, st, sd, false, 9)) :=
  runF_ok hm (A := aT [(6, .call ⟨3, [(0, 0, false), (1, 1, true), (2, 2, true)], (V25 L K sf sp sq sr st sd on ()), (R25 L K sf sp sq sr st sd on ()), []⟩), (15, .val (.bool false)), (23, .val (.bool true))]) (L := lT []) (wk := ⟨[4, 5], [(0, 0, false), (1, 1, true), (2, 2, true)], 3, 0⟩)
    (ps := [Gv P (.func 25) (A25 L K sf sp sq sr st sd on) (H25 L K sf sp sq sr st sd on) (V25 L K sf sp sq sr st sd on ()) (R25 L K sf sp sq sr st sd on ()),
    FlatB (.cells (layT (iv L)) 3),
    FlatB (.cells (layT (iv K)) 3),
    (Value.bool (!on)) = (Value.bool false),
    (Value.bool sd) = (Value.bool true),
    FlatB (.cells (layT (iv L)) 3),
    FlatB (.cells (layT (iv K)) 3)]) (by kernel_rfl) ⟨(m25_ok n L K sf sp sq sr st sd on () hc1), (iv_flat _ _), (iv_flat _ _), (vBn hc2), (vB hc3), (iv_flat _ _), (iv_flat _ _), trivial⟩
set_option maxRecDepth 100000 in
theorem p16_1 (n : Nat) (L : List Int) (K : List Int) (sf : Int) (sp : Int) (sq : Int) (sr : Int) (st : Int) (sd : Bool) (on : Bool) (x : ByteArray) (hc1 : m25 n L K sf sp sq sr st sd on = some ()) (hc2 : on = true) (hc3 : ¬ (sd = true)) (hc4 : sf ≥ (((x).size : Nat) : Int)) : Gv P (.func 16) (A16 L K sf sp sq sr st sd on x) (H16 L K sf sp sq sr st sd on x) (V16 L K sf sp sq sr st sd on x (sp, sq, sr, st, sd, false, 2)) (R16 L K sf sp sq sr st sd on x (sp, sq, sr, st, sd, false, 2)) :=
  runF_ok hm (A := aT [(6, .call ⟨3, [(0, 0, false), (1, 1, true), (2, 2, true)], (V25 L K sf sp sq sr st sd on ()), (R25 L K sf sp sq sr st sd on ()), []⟩), (15, .val (.bool false)), (23, .val (.bool false)), (33, .val (.bool true))]) (L := lT []) (wk := ⟨[4, 5], [(0, 0, false), (1, 1, true), (2, 2, true)], 3, 0⟩)
    (ps := [Gv P (.func 25) (A25 L K sf sp sq sr st sd on) (H25 L K sf sp sq sr st sd on) (V25 L K sf sp sq sr st sd on ()) (R25 L K sf sp sq sr st sd on ()),
    FlatB (.cells (layT (iv L)) 3),
    FlatB (.cells (layT (iv K)) 3),
    (Value.bool (!on)) = (Value.bool false),
    (Value.bool sd) = (Value.bool false),
    (Value.bool (decide (sf ≥ (((x).size : Nat) : Int)))) = (Value.bool true),
    FlatB (.cells (layT (iv L)) 3),
    FlatB (.cells (layT (iv K)) 3)]) (by kernel_rfl) ⟨(m25_ok n L K sf sp sq sr st sd on () hc1), (iv_flat _ _), (iv_flat _ _), (vBn hc2), (vB (Bool.eq_false_iff.2 hc3)), (vbT hc4), (iv_flat _ _), (iv_flat _ _), trivial⟩
set_option maxRecDepth 100000 in
theorem p16_2 (n : Nat) (L : List Int) (K : List Int) (sf : Int) (sp : Int) (sq : Int) (sr : Int) (st : Int) (sd : Bool) (on : Bool) (x : ByteArray) (hc1 : m25 n L K sf sp sq sr st sd on = some ()) (hc2 : on = true) (hc3 : ¬ (sd = true)) (hc4 : ¬ (sf ≥ (((x).size : Nat) : Int))) (hc5 : m28 n sf sp sq sr st sd = some ()) (hc6 : (w64 (sf + sp)) > (((x).size : Nat) : Int)) : Gv P (.func 16) (A16 L K sf sp sq sr st sd on x) (H16 L K sf sp sq sr st sd on x) (V16 L K sf sp sq sr st sd on x (sp, sq, sr, st, sd, false, 2)) (R16 L K sf sp sq sr st sd on x (sp, sq, sr, st, sd, false, 2)) :=
  runF_ok hm (A := aT [(6, .call ⟨3, [(0, 0, false), (1, 1, true), (2, 2, true)], (V25 L K sf sp sq sr st sd on ()), (R25 L K sf sp sq sr st sd on ()), []⟩), (15, .val (.bool false)), (23, .val (.bool false)), (33, .val (.bool false)), (39, .call ⟨0, [], (V28 sf sp sq sr st sd ()), (R28 sf sp sq sr st sd ()), []⟩), (42, .val (.bool true))]) (L := lT []) (wk := ⟨[4, 5], [(0, 0, false), (1, 1, true), (2, 2, true)], 3, 0⟩)
    (ps := [Gv P (.func 25) (A25 L K sf sp sq sr st sd on) (H25 L K sf sp sq sr st sd on) (V25 L K sf sp sq sr st sd on ()) (R25 L K sf sp sq sr st sd on ()),
    FlatB (.cells (layT (iv L)) 3),
    FlatB (.cells (layT (iv K)) 3),
    (Value.bool (!on)) = (Value.bool false),
    (Value.bool sd) = (Value.bool false),
    (Value.bool (decide (sf ≥ (((x).size : Nat) : Int)))) = (Value.bool false),
    Gv P (.func 28) (A28 sf sp sq sr st sd) (H28 sf sp sq sr st sd) (V28 sf sp sq sr st sd ()) (R28 sf sp sq sr st sd ()),
    (Value.bool (decide ((w64 (sf + sp)) > (((x).size : Nat) : Int)))) = (Value.bool true),
    FlatB (.cells (layT (iv L)) 3),
    FlatB (.cells (layT (iv K)) 3)]) (by kernel_rfl) ⟨(m25_ok n L K sf sp sq sr st sd on () hc1), (iv_flat _ _), (iv_flat _ _), (vBn hc2), (vB (Bool.eq_false_iff.2 hc3)), (vbF hc4), (m28_ok n sf sp sq sr st sd () hc5), (vbT hc6), (iv_flat _ _), (iv_flat _ _), trivial⟩
set_option maxRecDepth 100000 in
theorem p16_3 (n : Nat) (L : List Int) (K : List Int) (sf : Int) (sp : Int) (sq : Int) (sr : Int) (st : Int) (sd : Bool) (on : Bool) (x : ByteArray) (hc1 : m25 n L K sf sp sq sr st sd on = some ()) (hc2 : on = true) (hc3 : ¬ (sd = true)) (hc4 : ¬ (sf ≥ (((x).size : Nat) : Int))) (hc5 : m28 n sf sp sq sr st sd = some ()) (hc6 : ¬ ((w64 (sf + sp)) > (((x).size : Nat) : Int))) (c7_0 : Int) (c7_1 : Int) (c7_2 : Int) (c7_3 : Int) (c7_4 : Bool) (hc7 : m29o n L K sf sp sq sr st sd x 1 = some (c7_0, c7_1, c7_2, c7_3, c7_4)) : Gv P (.func 16) (A16 L K sf sp sq sr st sd on x) (H16 L K sf sp sq sr st sd on x) (V16 L K sf sp sq sr st sd on x (c7_0, c7_1, c7_2, c7_3, c7_4, c7_4, 0)) (R16 L K sf sp sq sr st sd on x (c7_0, c7_1, c7_2, c7_3, c7_4, c7_4, 0)) :=
  runF_ok hm (A := aT [(6, .call ⟨3, [(0, 0, false), (1, 1, true), (2, 2, true)], (V25 L K sf sp sq sr st sd on ()), (R25 L K sf sp sq sr st sd on ()), []⟩), (15, .val (.bool false)), (23, .val (.bool false)), (33, .val (.bool false)), (39, .call ⟨0, [], (V28 sf sp sq sr st sd ()), (R28 sf sp sq sr st sd ()), []⟩), (42, .val (.bool false)), (56, .call ⟨2, [(0, 1, true), (1, 2, true)], (V29o L K sf sp sq sr st sd x 1 (c7_0, c7_1, c7_2, c7_3, c7_4)), (R29o L K sf sp sq sr st sd x 1 (c7_0, c7_1, c7_2, c7_3, c7_4)), [(3, 2, false)]⟩)]) (L := lT []) (wk := ⟨[4, 5], [(0, 0, false), (1, 1, true), (2, 2, true)], 3, 0⟩)
    (ps := [Gv P (.func 25) (A25 L K sf sp sq sr st sd on) (H25 L K sf sp sq sr st sd on) (V25 L K sf sp sq sr st sd on ()) (R25 L K sf sp sq sr st sd on ()),
    FlatB (.cells (layT (iv L)) 3),
    FlatB (.cells (layT (iv K)) 3),
    (Value.bool (!on)) = (Value.bool false),
    (Value.bool sd) = (Value.bool false),
    (Value.bool (decide (sf ≥ (((x).size : Nat) : Int)))) = (Value.bool false),
    Gv P (.func 28) (A28 sf sp sq sr st sd) (H28 sf sp sq sr st sd) (V28 sf sp sq sr st sd ()) (R28 sf sp sq sr st sd ()),
    (Value.bool (decide ((w64 (sf + sp)) > (((x).size : Nat) : Int)))) = (Value.bool false),
    Gv P (.func 29) (A29o L K sf sp sq sr st sd x 1) (H29o L K sf sp sq sr st sd x 1) (V29o L K sf sp sq sr st sd x 1 (c7_0, c7_1, c7_2, c7_3, c7_4)) (R29o L K sf sp sq sr st sd x 1 (c7_0, c7_1, c7_2, c7_3, c7_4)),
    FlatB (.cells (layT (iv L)) 3),
    FlatB (.cells (layT (iv K)) 3),
    FlatB (.cells (layT (iv L)) 3),
    FlatB (.cells (layT (iv K)) 3)]) (by kernel_rfl) ⟨(m25_ok n L K sf sp sq sr st sd on () hc1), (iv_flat _ _), (iv_flat _ _), (vBn hc2), (vB (Bool.eq_false_iff.2 hc3)), (vbF hc4), (m28_ok n sf sp sq sr st sd () hc5), (vbF hc6), (m29o_ok n L K sf sp sq sr st sd x 1 (c7_0, c7_1, c7_2, c7_3, c7_4) hc7), (iv_flat _ _), (iv_flat _ _), (iv_flat _ _), (iv_flat _ _), trivial⟩
set_option maxRecDepth 100000 in
theorem p16_4 (n : Nat) (L : List Int) (K : List Int) (sf : Int) (sp : Int) (sq : Int) (sr : Int) (st : Int) (sd : Bool) (on : Bool) (x : ByteArray) (hc1 : m25 n L K sf sp sq sr st sd on = some ()) (hc2 : ¬ (on = true)) : Gv P (.func 16) (A16 L K sf sp sq sr st sd on x) (H16 L K sf sp sq sr st sd on x) (V16 L K sf sp sq sr st sd on x (sp, sq, sr, st, sd, false, 9)) (R16 L K sf sp sq sr st sd on x (sp, sq, sr, st, sd, false, 9)) :=
  runF_ok hm (A := aT [(6, .call ⟨3, [(0, 0, false), (1, 1, true), (2, 2, true)], (V25 L K sf sp sq sr st sd on ()), (R25 L K sf sp sq sr st sd on ()), []⟩), (15, .val (.bool true))]) (L := lT []) (wk := ⟨[4, 5], [(0, 0, false), (1, 1, true), (2, 2, true)], 3, 0⟩)
    (ps := [Gv P (.func 25) (A25 L K sf sp sq sr st sd on) (H25 L K sf sp sq sr st sd on) (V25 L K sf sp sq sr st sd on ()) (R25 L K sf sp sq sr st sd on ()),
    FlatB (.cells (layT (iv L)) 3),
    FlatB (.cells (layT (iv K)) 3),
    (Value.bool (!on)) = (Value.bool true),
    FlatB (.cells (layT (iv L)) 3),
    FlatB (.cells (layT (iv K)) 3)]) (by kernel_rfl) ⟨(m25_ok n L K sf sp sq sr st sd on () hc1), (iv_flat _ _), (iv_flat _ _), (vBn (Bool.eq_false_iff.2 hc2)), (iv_flat _ _), (iv_flat _ _), trivial⟩
theorem m16_ok (n : Nat) (L : List Int) (K : List Int) (sf : Int) (sp : Int) (sq : Int) (sr : Int) (st : Int) (sd : Bool) (on : Bool) (x : ByteArray) (r : Int × Int × Int × Int × Bool × Bool × Int) (h : m16 n L K sf sp sq sr st sd on x = some r) : Gv P (.func 16) (A16 L K sf sp sq sr st sd on x) (H16 L K sf sp sq sr st sd on x) (V16 L K sf sp sq sr st sd on x r) (R16 L K sf sp sq sr st sd on x r) := by
  unfold m16 at h
  obtain ⟨_, hc1, h⟩ := Option.bind_eq_some_iff.1 h
  by_cases hc2 : on = true
  · rw [if_pos hc2] at h
    by_cases hc3 : sd = true
    · rw [if_pos hc3] at h
      obtain rfl := Option.some.inj h; exact p16_0 n L K sf sp sq sr st sd on x hc1 hc2 hc3
    · rw [if_neg hc3] at h
      by_cases hc4 : sf ≥ (((x).size : Nat) : Int)
      · rw [if_pos hc4] at h
        obtain rfl := Option.some.inj h; exact p16_1 n L K sf sp sq sr st sd on x hc1 hc2 hc3 hc4
      · rw [if_neg hc4] at h
        obtain ⟨_, hc5, h⟩ := Option.bind_eq_some_iff.1 h
        by_cases hc6 : (w64 (sf + sp)) > (((x).size : Nat) : Int)
        · rw [if_pos hc6] at h
          obtain rfl := Option.some.inj h; exact p16_2 n L K sf sp sq sr st sd on x hc1 hc2 hc3 hc4 hc5 hc6
        · rw [if_neg hc6] at h
          obtain ⟨⟨c7_0, c7_1, c7_2, c7_3, c7_4⟩, hc7, h⟩ := Option.bind_eq_some_iff.1 h
          dsimp only at h
          obtain rfl := Option.some.inj h; exact p16_3 n L K sf sp sq sr st sd on x hc1 hc2 hc3 hc4 hc5 hc6 c7_0 c7_1 c7_2 c7_3 c7_4 hc7
  · rw [if_neg hc2] at h
    obtain rfl := Option.some.inj h; exact p16_4 n L K sf sp sq sr st sd on x hc1 hc2

noncomputable def S4_1 (x1_0 : ByteArray) (x1_1 : Int) (x1_2 : Int) (x1_3 : Int) (x1_4 : Int) (x1_5 : Int) (x1_6 : List Int) (x1_7 : List Int) (x1_8 : Int) (x1_14 : Bool) (st : Int × Int × Int × Int × Bool × Int) : XSt := match st with
  | (x1_9, x1_10, x1_11, x1_12, x1_13, x1_15) => (sT 137 [(1, (Value.string x1_0)), (2, (Value.int .i64 x1_1)), (7, (Value.pointer (some ⟨0, 0, none⟩))), (9, (Value.pointer (some ⟨1, 0, none⟩))), (11, (Value.int .i64 x1_15))], [], ⟨sB [(0, (some (.cells (layT [(Value.int .i64 x1_2), (Value.int .i64 x1_3), (Value.int .i64 x1_4), (Value.int .i64 x1_5)]) 31))), (1, (some (.cells (layT [(Value.pointer (some ⟨1, 0, none⟩)), (Value.slice (some ⟨2, 0, none⟩) (x1_6).length (Nat.add big 1)), (Value.slice (some ⟨3, 0, none⟩) (x1_7).length (Nat.add big 1)), (Value.int .i64 x1_8), (Value.int .i64 x1_9), (Value.int .i64 x1_10), (Value.int .i64 x1_11), (Value.int .i64 x1_12), (Value.bool x1_13), (Value.bool x1_14)]) 54))), (2, (some (.cells (layT (iv x1_6)) 3))), (3, (some (.cells (layT (iv x1_7)) 3)))], 4, 0⟩)
noncomputable def X4_1 (x1_0 : ByteArray) (x1_1 : Int) (x1_2 : Int) (x1_3 : Int) (x1_4 : Int) (x1_5 : Int) (x1_6 : List Int) (x1_7 : List Int) (x1_8 : Int) (x1_14 : Bool) (r : Int × Int × Int × Int × Bool) : Ex × XSt := match r with
  | (z1_0, z1_1, z1_2, z1_3, z1_4) => (.exit 0, (sT 137 [(7, (Value.pointer (some ⟨0, 0, none⟩))), (9, (Value.pointer (some ⟨1, 0, none⟩)))], [], ⟨sB [(0, (some (.cells (layT [(Value.int .i64 x1_2), (Value.int .i64 x1_3), (Value.int .i64 x1_4), (Value.int .i64 x1_5)]) 31))), (1, (some (.cells (layT [(Value.pointer (some ⟨1, 0, none⟩)), (Value.slice (some ⟨2, 0, none⟩) (x1_6).length (Nat.add big 1)), (Value.slice (some ⟨3, 0, none⟩) (x1_7).length (Nat.add big 1)), (Value.int .i64 x1_8), (Value.int .i64 z1_0), (Value.int .i64 z1_1), (Value.int .i64 z1_2), (Value.int .i64 z1_3), (Value.bool z1_4), (Value.bool x1_14)]) 54))), (2, (some (.cells (layT (iv x1_6)) 3))), (3, (some (.cells (layT (iv x1_7)) 3)))], 4, 0⟩))
def B4_1 (n : Nat) (x1_0 : ByteArray) (x1_1 : Int) (x1_2 : Int) (x1_3 : Int) (x1_4 : Int) (x1_5 : Int) (x1_6 : List Int) (x1_7 : List Int) (x1_8 : Int) (x1_14 : Bool) (st : Int × Int × Int × Int × Bool × Int) : Option ((Int × Int × Int × Int × Bool × Int) ⊕ (Int × Int × Int × Int × Bool)) := match st with
  | (x1_9, x1_10, x1_11, x1_12, x1_13, x1_15) =>
    if x1_15 ≤ (w64 (x1_5 - x1_1)) then
      (m15 n x1_6 x1_7 x1_8 x1_9 x1_10 x1_11 x1_12 x1_13 x1_14).bind fun t => match t with
      | (y1_2_0, y1_2_1, y1_2_2, y1_2_3, y1_2_4) =>
        (m16 n x1_6 x1_7 x1_8 x1_9 x1_10 x1_11 x1_12 x1_13 x1_14 x1_0).bind fun t => match t with
        | (y1_3_0, y1_3_1, y1_3_2, y1_3_3, y1_3_4, y1_3_5, y1_3_6) =>
          if y1_2_4 = true then
            none
          else
            if y1_3_6 = (0 : Int) then
              if x1_15 = (w64 (x1_5 - x1_1)) then
                if y1_3_5 = true then
                  (m17 n x1_6 x1_7 x1_8 y1_3_0 y1_3_1 y1_3_2 y1_3_3 y1_3_4 x1_14).bind fun _ =>
                  if (w64 (x1_8 + y1_3_0)) = (w64 (x1_1 + x1_15)) then
                    (m18 n x1_6 x1_7 x1_8 y1_3_0 y1_3_1 y1_3_2 y1_3_3 y1_3_4 x1_14).bind fun _ =>
                    if y1_3_0 = x1_15 then
                      some (.inl (y1_3_0, y1_3_1, y1_3_2, y1_3_3, y1_3_4, (w64 (x1_15 + (1 : Int)))))
                    else
                      none
                  else
                    none
                else
                  none
              else
                if y1_3_5 = true then
                  none
                else
                  (m17 n x1_6 x1_7 x1_8 y1_3_0 y1_3_1 y1_3_2 y1_3_3 y1_3_4 x1_14).bind fun _ =>
                  if (w64 (x1_8 + y1_3_0)) = (w64 (x1_1 + x1_15)) then
                    (m18 n x1_6 x1_7 x1_8 y1_3_0 y1_3_1 y1_3_2 y1_3_3 y1_3_4 x1_14).bind fun _ =>
                    if y1_3_0 = x1_15 then
                      some (.inl (y1_3_0, y1_3_1, y1_3_2, y1_3_3, y1_3_4, (w64 (x1_15 + (1 : Int)))))
                    else
                      none
                  else
                    none
            else
              none
    else
      some (.inr (x1_9, x1_10, x1_11, x1_12, x1_13))
def m4_1 (n : Nat) (x1_0 : ByteArray) (x1_1 : Int) (x1_2 : Int) (x1_3 : Int) (x1_4 : Int) (x1_5 : Int) (x1_6 : List Int) (x1_7 : List Int) (x1_8 : Int) (x1_14 : Bool) (st : Int × Int × Int × Int × Bool × Int) : Option (Int × Int × Int × Int × Bool) := iterM (B4_1 n x1_0 x1_1 x1_2 x1_3 x1_4 x1_5 x1_6 x1_7 x1_8 x1_14) n st
set_option maxRecDepth 100000 in
theorem q4_1_0 (n : Nat) (x1_0 : ByteArray) (x1_1 : Int) (x1_2 : Int) (x1_3 : Int) (x1_4 : Int) (x1_5 : Int) (x1_6 : List Int) (x1_7 : List Int) (x1_8 : Int) (x1_9 : Int) (x1_10 : Int) (x1_11 : Int) (x1_12 : Int) (x1_13 : Bool) (x1_14 : Bool) (x1_15 : Int) (hy1_1 : x1_15 ≤ (w64 (x1_5 - x1_1))) (y1_2_0 : Int) (y1_2_1 : Int) (y1_2_2 : Int) (y1_2_3 : Int) (y1_2_4 : Bool) (hy1_2 : m15 n x1_6 x1_7 x1_8 x1_9 x1_10 x1_11 x1_12 x1_13 x1_14 = some (y1_2_0, y1_2_1, y1_2_2, y1_2_3, y1_2_4)) (y1_3_0 : Int) (y1_3_1 : Int) (y1_3_2 : Int) (y1_3_3 : Int) (y1_3_4 : Bool) (y1_3_5 : Bool) (y1_3_6 : Int) (hy1_3 : m16 n x1_6 x1_7 x1_8 x1_9 x1_10 x1_11 x1_12 x1_13 x1_14 x1_0 = some (y1_3_0, y1_3_1, y1_3_2, y1_3_3, y1_3_4, y1_3_5, y1_3_6)) (hy1_4 : ¬ (y1_2_4 = true)) (hy1_5 : y1_3_6 = (0 : Int)) (hy1_6 : x1_15 = (w64 (x1_5 - x1_1))) (hy1_7 : y1_3_5 = true) (hy1_8 : m17 n x1_6 x1_7 x1_8 y1_3_0 y1_3_1 y1_3_2 y1_3_3 y1_3_4 x1_14 = some ()) (hy1_9 : (w64 (x1_8 + y1_3_0)) = (w64 (x1_1 + x1_15))) (hy1_10 : m18 n x1_6 x1_7 x1_8 y1_3_0 y1_3_1 y1_3_2 y1_3_3 y1_3_4 x1_14 = some ()) (hy1_11 : y1_3_0 = x1_15) : CG P none (fnN P 4) 0 (codeOf P 4 [false, false, true, false, true, true, true, true, true, true, true]) (S4_1 x1_0 x1_1 x1_2 x1_3 x1_4 x1_5 x1_6 x1_7 x1_8 x1_14 (x1_9, x1_10, x1_11, x1_12, x1_13, x1_15)) (.normal, S4_1 x1_0 x1_1 x1_2 x1_3 x1_4 x1_5 x1_6 x1_7 x1_8 x1_14 (y1_3_0, y1_3_1, y1_3_2, y1_3_3, y1_3_4, (w64 (x1_15 + (1 : Int))))) :=
  runC_ok hm (A := aT [(7, .val (.bool true)), (13, .call ⟨3, [(0, 1, false), (1, 2, true), (2, 3, true)], (V15 x1_6 x1_7 x1_8 x1_9 x1_10 x1_11 x1_12 x1_13 x1_14 (y1_2_0, y1_2_1, y1_2_2, y1_2_3, y1_2_4)), (R15 x1_6 x1_7 x1_8 x1_9 x1_10 x1_11 x1_12 x1_13 x1_14 (y1_2_0, y1_2_1, y1_2_2, y1_2_3, y1_2_4)), [(4, 3, false)]⟩), (23, .call ⟨3, [(0, 1, false), (1, 2, true), (2, 3, true)], (V16 x1_6 x1_7 x1_8 x1_9 x1_10 x1_11 x1_12 x1_13 x1_14 x1_0 (y1_3_0, y1_3_1, y1_3_2, y1_3_3, y1_3_4, y1_3_5, y1_3_6)), (R16 x1_6 x1_7 x1_8 x1_9 x1_10 x1_11 x1_12 x1_13 x1_14 x1_0 (y1_3_0, y1_3_1, y1_3_2, y1_3_3, y1_3_4, y1_3_5, y1_3_6)), [(1, 0, false), (2, 1, true), (3, 2, true)]⟩), (31, .val (.bool false)), (33, .val (.bool false)), (42, .val (.bool true)), (43, .val (.bool false)), (47, .call ⟨3, [(0, 1, false), (1, 2, true), (2, 3, true)], (V17 x1_6 x1_7 x1_8 y1_3_0 y1_3_1 y1_3_2 y1_3_3 y1_3_4 x1_14 ()), (R17 x1_6 x1_7 x1_8 y1_3_0 y1_3_1 y1_3_2 y1_3_3 y1_3_4 x1_14 ()), []⟩), (51, .val (.bool false)), (55, .call ⟨3, [(0, 1, false), (1, 2, true), (2, 3, true)], (V18 x1_6 x1_7 x1_8 y1_3_0 y1_3_1 y1_3_2 y1_3_3 y1_3_4 x1_14 ()), (R18 x1_6 x1_7 x1_8 y1_3_0 y1_3_1 y1_3_2 y1_3_3 y1_3_4 x1_14 ()), []⟩), (57, .val (.bool false))]) (L := lT []) (wk := ⟨[1, 2, 7, 9, 11], [(0, 0, false), (1, 1, false), (2, 2, true), (3, 3, true)], 4, 0⟩)
    (ps := [(Value.bool (decide (x1_15 ≤ (w64 (x1_5 - x1_1))))) = (Value.bool true),
    Gv P (.func 15) (A15 x1_6 x1_7 x1_8 x1_9 x1_10 x1_11 x1_12 x1_13 x1_14) (H15 x1_6 x1_7 x1_8 x1_9 x1_10 x1_11 x1_12 x1_13 x1_14) (V15 x1_6 x1_7 x1_8 x1_9 x1_10 x1_11 x1_12 x1_13 x1_14 (y1_2_0, y1_2_1, y1_2_2, y1_2_3, y1_2_4)) (R15 x1_6 x1_7 x1_8 x1_9 x1_10 x1_11 x1_12 x1_13 x1_14 (y1_2_0, y1_2_1, y1_2_2, y1_2_3, y1_2_4)),
    FlatB (.cells (layT (iv x1_6)) 3),
    FlatB (.cells (layT (iv x1_7)) 3),
    Gv P (.func 16) (A16 x1_6 x1_7 x1_8 x1_9 x1_10 x1_11 x1_12 x1_13 x1_14 x1_0) (H16 x1_6 x1_7 x1_8 x1_9 x1_10 x1_11 x1_12 x1_13 x1_14 x1_0) (V16 x1_6 x1_7 x1_8 x1_9 x1_10 x1_11 x1_12 x1_13 x1_14 x1_0 (y1_3_0, y1_3_1, y1_3_2, y1_3_3, y1_3_4, y1_3_5, y1_3_6)) (R16 x1_6 x1_7 x1_8 x1_9 x1_10 x1_11 x1_12 x1_13 x1_14 x1_0 (y1_3_0, y1_3_1, y1_3_2, y1_3_3, y1_3_4, y1_3_5, y1_3_6)),
    FlatB (.cells (layT (iv x1_6)) 3),
    FlatB (.cells (layT (iv x1_7)) 3),
    FlatB (.cells (layT (iv x1_6)) 3),
    FlatB (.cells (layT (iv x1_7)) 3),
    (Value.bool y1_2_4) = (Value.bool false),
    (Value.bool (y1_3_6 != (0 : Int))) = (Value.bool false),
    (Value.bool (x1_15 == (w64 (x1_5 - x1_1)))) = (Value.bool true),
    (Value.bool (!(y1_3_5 == true))) = (Value.bool false),
    Gv P (.func 17) (A17 x1_6 x1_7 x1_8 y1_3_0 y1_3_1 y1_3_2 y1_3_3 y1_3_4 x1_14) (H17 x1_6 x1_7 x1_8 y1_3_0 y1_3_1 y1_3_2 y1_3_3 y1_3_4 x1_14) (V17 x1_6 x1_7 x1_8 y1_3_0 y1_3_1 y1_3_2 y1_3_3 y1_3_4 x1_14 ()) (R17 x1_6 x1_7 x1_8 y1_3_0 y1_3_1 y1_3_2 y1_3_3 y1_3_4 x1_14 ()),
    FlatB (.cells (layT (iv x1_6)) 3),
    FlatB (.cells (layT (iv x1_7)) 3),
    (Value.bool ((w64 (x1_8 + y1_3_0)) != (w64 (x1_1 + x1_15)))) = (Value.bool false),
    Gv P (.func 18) (A18 x1_6 x1_7 x1_8 y1_3_0 y1_3_1 y1_3_2 y1_3_3 y1_3_4 x1_14) (H18 x1_6 x1_7 x1_8 y1_3_0 y1_3_1 y1_3_2 y1_3_3 y1_3_4 x1_14) (V18 x1_6 x1_7 x1_8 y1_3_0 y1_3_1 y1_3_2 y1_3_3 y1_3_4 x1_14 ()) (R18 x1_6 x1_7 x1_8 y1_3_0 y1_3_1 y1_3_2 y1_3_3 y1_3_4 x1_14 ()),
    FlatB (.cells (layT (iv x1_6)) 3),
    FlatB (.cells (layT (iv x1_7)) 3),
    (Value.bool (y1_3_0 != x1_15)) = (Value.bool false),
    FlatB (.cells (layT (iv x1_6)) 3),
    FlatB (.cells (layT (iv x1_7)) 3)]) (by kernel_rfl) ⟨(vbT hy1_1), (m15_ok n x1_6 x1_7 x1_8 x1_9 x1_10 x1_11 x1_12 x1_13 x1_14 (y1_2_0, y1_2_1, y1_2_2, y1_2_3, y1_2_4) hy1_2), (iv_flat _ _), (iv_flat _ _), (m16_ok n x1_6 x1_7 x1_8 x1_9 x1_10 x1_11 x1_12 x1_13 x1_14 x1_0 (y1_3_0, y1_3_1, y1_3_2, y1_3_3, y1_3_4, y1_3_5, y1_3_6) hy1_3), (iv_flat _ _), (iv_flat _ _), (iv_flat _ _), (iv_flat _ _), (vB (Bool.eq_false_iff.2 hy1_4)), (vnF hy1_5), (veT hy1_6), (vNeB hy1_7 rfl), (m17_ok n x1_6 x1_7 x1_8 y1_3_0 y1_3_1 y1_3_2 y1_3_3 y1_3_4 x1_14 () hy1_8), (iv_flat _ _), (iv_flat _ _), (vnF hy1_9), (m18_ok n x1_6 x1_7 x1_8 y1_3_0 y1_3_1 y1_3_2 y1_3_3 y1_3_4 x1_14 () hy1_10), (iv_flat _ _), (iv_flat _ _), (vnF hy1_11), (iv_flat _ _), (iv_flat _ _), trivial⟩
set_option maxRecDepth 100000 in
theorem q4_1_1 (n : Nat) (x1_0 : ByteArray) (x1_1 : Int) (x1_2 : Int) (x1_3 : Int) (x1_4 : Int) (x1_5 : Int) (x1_6 : List Int) (x1_7 : List Int) (x1_8 : Int) (x1_9 : Int) (x1_10 : Int) (x1_11 : Int) (x1_12 : Int) (x1_13 : Bool) (x1_14 : Bool) (x1_15 : Int) (hy1_1 : x1_15 ≤ (w64 (x1_5 - x1_1))) (y1_2_0 : Int) (y1_2_1 : Int) (y1_2_2 : Int) (y1_2_3 : Int) (y1_2_4 : Bool) (hy1_2 : m15 n x1_6 x1_7 x1_8 x1_9 x1_10 x1_11 x1_12 x1_13 x1_14 = some (y1_2_0, y1_2_1, y1_2_2, y1_2_3, y1_2_4)) (y1_3_0 : Int) (y1_3_1 : Int) (y1_3_2 : Int) (y1_3_3 : Int) (y1_3_4 : Bool) (y1_3_5 : Bool) (y1_3_6 : Int) (hy1_3 : m16 n x1_6 x1_7 x1_8 x1_9 x1_10 x1_11 x1_12 x1_13 x1_14 x1_0 = some (y1_3_0, y1_3_1, y1_3_2, y1_3_3, y1_3_4, y1_3_5, y1_3_6)) (hy1_4 : ¬ (y1_2_4 = true)) (hy1_5 : y1_3_6 = (0 : Int)) (hy1_6 : ¬ (x1_15 = (w64 (x1_5 - x1_1)))) (hy1_7 : ¬ (y1_3_5 = true)) (hy1_8 : m17 n x1_6 x1_7 x1_8 y1_3_0 y1_3_1 y1_3_2 y1_3_3 y1_3_4 x1_14 = some ()) (hy1_9 : (w64 (x1_8 + y1_3_0)) = (w64 (x1_1 + x1_15))) (hy1_10 : m18 n x1_6 x1_7 x1_8 y1_3_0 y1_3_1 y1_3_2 y1_3_3 y1_3_4 x1_14 = some ()) (hy1_11 : y1_3_0 = x1_15) : CG P none (fnN P 4) 0 (codeOf P 4 [false, false, true, false, true, true, true, true, true, true, true]) (S4_1 x1_0 x1_1 x1_2 x1_3 x1_4 x1_5 x1_6 x1_7 x1_8 x1_14 (x1_9, x1_10, x1_11, x1_12, x1_13, x1_15)) (.normal, S4_1 x1_0 x1_1 x1_2 x1_3 x1_4 x1_5 x1_6 x1_7 x1_8 x1_14 (y1_3_0, y1_3_1, y1_3_2, y1_3_3, y1_3_4, (w64 (x1_15 + (1 : Int))))) :=
  runC_ok hm (A := aT [(7, .val (.bool true)), (13, .call ⟨3, [(0, 1, false), (1, 2, true), (2, 3, true)], (V15 x1_6 x1_7 x1_8 x1_9 x1_10 x1_11 x1_12 x1_13 x1_14 (y1_2_0, y1_2_1, y1_2_2, y1_2_3, y1_2_4)), (R15 x1_6 x1_7 x1_8 x1_9 x1_10 x1_11 x1_12 x1_13 x1_14 (y1_2_0, y1_2_1, y1_2_2, y1_2_3, y1_2_4)), [(4, 3, false)]⟩), (23, .call ⟨3, [(0, 1, false), (1, 2, true), (2, 3, true)], (V16 x1_6 x1_7 x1_8 x1_9 x1_10 x1_11 x1_12 x1_13 x1_14 x1_0 (y1_3_0, y1_3_1, y1_3_2, y1_3_3, y1_3_4, y1_3_5, y1_3_6)), (R16 x1_6 x1_7 x1_8 x1_9 x1_10 x1_11 x1_12 x1_13 x1_14 x1_0 (y1_3_0, y1_3_1, y1_3_2, y1_3_3, y1_3_4, y1_3_5, y1_3_6)), [(1, 0, false), (2, 1, true), (3, 2, true)]⟩), (31, .val (.bool false)), (33, .val (.bool false)), (42, .val (.bool false)), (43, .val (.bool false)), (47, .call ⟨3, [(0, 1, false), (1, 2, true), (2, 3, true)], (V17 x1_6 x1_7 x1_8 y1_3_0 y1_3_1 y1_3_2 y1_3_3 y1_3_4 x1_14 ()), (R17 x1_6 x1_7 x1_8 y1_3_0 y1_3_1 y1_3_2 y1_3_3 y1_3_4 x1_14 ()), []⟩), (51, .val (.bool false)), (55, .call ⟨3, [(0, 1, false), (1, 2, true), (2, 3, true)], (V18 x1_6 x1_7 x1_8 y1_3_0 y1_3_1 y1_3_2 y1_3_3 y1_3_4 x1_14 ()), (R18 x1_6 x1_7 x1_8 y1_3_0 y1_3_1 y1_3_2 y1_3_3 y1_3_4 x1_14 ()), []⟩), (57, .val (.bool false))]) (L := lT []) (wk := ⟨[1, 2, 7, 9, 11], [(0, 0, false), (1, 1, false), (2, 2, true), (3, 3, true)], 4, 0⟩)
    (ps := [(Value.bool (decide (x1_15 ≤ (w64 (x1_5 - x1_1))))) = (Value.bool true),
    Gv P (.func 15) (A15 x1_6 x1_7 x1_8 x1_9 x1_10 x1_11 x1_12 x1_13 x1_14) (H15 x1_6 x1_7 x1_8 x1_9 x1_10 x1_11 x1_12 x1_13 x1_14) (V15 x1_6 x1_7 x1_8 x1_9 x1_10 x1_11 x1_12 x1_13 x1_14 (y1_2_0, y1_2_1, y1_2_2, y1_2_3, y1_2_4)) (R15 x1_6 x1_7 x1_8 x1_9 x1_10 x1_11 x1_12 x1_13 x1_14 (y1_2_0, y1_2_1, y1_2_2, y1_2_3, y1_2_4)),
    FlatB (.cells (layT (iv x1_6)) 3),
    FlatB (.cells (layT (iv x1_7)) 3),
    Gv P (.func 16) (A16 x1_6 x1_7 x1_8 x1_9 x1_10 x1_11 x1_12 x1_13 x1_14 x1_0) (H16 x1_6 x1_7 x1_8 x1_9 x1_10 x1_11 x1_12 x1_13 x1_14 x1_0) (V16 x1_6 x1_7 x1_8 x1_9 x1_10 x1_11 x1_12 x1_13 x1_14 x1_0 (y1_3_0, y1_3_1, y1_3_2, y1_3_3, y1_3_4, y1_3_5, y1_3_6)) (R16 x1_6 x1_7 x1_8 x1_9 x1_10 x1_11 x1_12 x1_13 x1_14 x1_0 (y1_3_0, y1_3_1, y1_3_2, y1_3_3, y1_3_4, y1_3_5, y1_3_6)),
    FlatB (.cells (layT (iv x1_6)) 3),
    FlatB (.cells (layT (iv x1_7)) 3),
    FlatB (.cells (layT (iv x1_6)) 3),
    FlatB (.cells (layT (iv x1_7)) 3),
    (Value.bool y1_2_4) = (Value.bool false),
    (Value.bool (y1_3_6 != (0 : Int))) = (Value.bool false),
    (Value.bool (x1_15 == (w64 (x1_5 - x1_1)))) = (Value.bool false),
    (Value.bool (!(y1_3_5 == false))) = (Value.bool false),
    Gv P (.func 17) (A17 x1_6 x1_7 x1_8 y1_3_0 y1_3_1 y1_3_2 y1_3_3 y1_3_4 x1_14) (H17 x1_6 x1_7 x1_8 y1_3_0 y1_3_1 y1_3_2 y1_3_3 y1_3_4 x1_14) (V17 x1_6 x1_7 x1_8 y1_3_0 y1_3_1 y1_3_2 y1_3_3 y1_3_4 x1_14 ()) (R17 x1_6 x1_7 x1_8 y1_3_0 y1_3_1 y1_3_2 y1_3_3 y1_3_4 x1_14 ()),
    FlatB (.cells (layT (iv x1_6)) 3),
    FlatB (.cells (layT (iv x1_7)) 3),
    (Value.bool ((w64 (x1_8 + y1_3_0)) != (w64 (x1_1 + x1_15)))) = (Value.bool false),
    Gv P (.func 18) (A18 x1_6 x1_7 x1_8 y1_3_0 y1_3_1 y1_3_2 y1_3_3 y1_3_4 x1_14) (H18 x1_6 x1_7 x1_8 y1_3_0 y1_3_1 y1_3_2 y1_3_3 y1_3_4 x1_14) (V18 x1_6 x1_7 x1_8 y1_3_0 y1_3_1 y1_3_2 y1_3_3 y1_3_4 x1_14 ()) (R18 x1_6 x1_7 x1_8 y1_3_0 y1_3_1 y1_3_2 y1_3_3 y1_3_4 x1_14 ()),
    FlatB (.cells (layT (iv x1_6)) 3),
    FlatB (.cells (layT (iv x1_7)) 3),
    (Value.bool (y1_3_0 != x1_15)) = (Value.bool false),
    FlatB (.cells (layT (iv x1_6)) 3),
    FlatB (.cells (layT (iv x1_7)) 3)]) (by kernel_rfl) ⟨(vbT hy1_1), (m15_ok n x1_6 x1_7 x1_8 x1_9 x1_10 x1_11 x1_12 x1_13 x1_14 (y1_2_0, y1_2_1, y1_2_2, y1_2_3, y1_2_4) hy1_2), (iv_flat _ _), (iv_flat _ _), (m16_ok n x1_6 x1_7 x1_8 x1_9 x1_10 x1_11 x1_12 x1_13 x1_14 x1_0 (y1_3_0, y1_3_1, y1_3_2, y1_3_3, y1_3_4, y1_3_5, y1_3_6) hy1_3), (iv_flat _ _), (iv_flat _ _), (iv_flat _ _), (iv_flat _ _), (vB (Bool.eq_false_iff.2 hy1_4)), (vnF hy1_5), (veF hy1_6), (vNeB (Bool.eq_false_iff.2 hy1_7) rfl), (m17_ok n x1_6 x1_7 x1_8 y1_3_0 y1_3_1 y1_3_2 y1_3_3 y1_3_4 x1_14 () hy1_8), (iv_flat _ _), (iv_flat _ _), (vnF hy1_9), (m18_ok n x1_6 x1_7 x1_8 y1_3_0 y1_3_1 y1_3_2 y1_3_3 y1_3_4 x1_14 () hy1_10), (iv_flat _ _), (iv_flat _ _), (vnF hy1_11), (iv_flat _ _), (iv_flat _ _), trivial⟩
set_option maxRecDepth 100000 in
theorem q4_1_2 (n : Nat) (x1_0 : ByteArray) (x1_1 : Int) (x1_2 : Int) (x1_3 : Int) (x1_4 : Int) (x1_5 : Int) (x1_6 : List Int) (x1_7 : List Int) (x1_8 : Int) (x1_9 : Int) (x1_10 : Int) (x1_11 : Int) (x1_12 : Int) (x1_13 : Bool) (x1_14 : Bool) (x1_15 : Int) (hy1_1 : ¬ (x1_15 ≤ (w64 (x1_5 - x1_1)))) : CG P none (fnN P 4) 0 (codeOf P 4 [false, false, true, false, true, true, true, true, true, true, true]) (S4_1 x1_0 x1_1 x1_2 x1_3 x1_4 x1_5 x1_6 x1_7 x1_8 x1_14 (x1_9, x1_10, x1_11, x1_12, x1_13, x1_15)) (X4_1 x1_0 x1_1 x1_2 x1_3 x1_4 x1_5 x1_6 x1_7 x1_8 x1_14 (x1_9, x1_10, x1_11, x1_12, x1_13)) :=
  runC_ok hm (A := aT [(7, .val (.bool false))]) (L := lT []) (wk := ⟨[7, 9], [(0, 0, false), (1, 1, false), (2, 2, true), (3, 3, true)], 4, 0⟩)
    (ps := [(Value.bool (decide (x1_15 ≤ (w64 (x1_5 - x1_1))))) = (Value.bool false),
    FlatB (.cells (layT (iv x1_6)) 3),
    FlatB (.cells (layT (iv x1_7)) 3)]) (by kernel_rfl) ⟨(vbF hy1_1), (iv_flat _ _), (iv_flat _ _), trivial⟩
theorem m4_1_ok (n : Nat) (x1_0 : ByteArray) (x1_1 : Int) (x1_2 : Int) (x1_3 : Int) (x1_4 : Int) (x1_5 : Int) (x1_6 : List Int) (x1_7 : List Int) (x1_8 : Int) (x1_14 : Bool) (st : Int × Int × Int × Int × Bool × Int) (r : Int × Int × Int × Int × Bool) (h : m4_1 n x1_0 x1_1 x1_2 x1_3 x1_4 x1_5 x1_6 x1_7 x1_8 x1_14 st = some r) : CG P none (fnN P 4) 0 (codeOf P 4 [false, true, false, true, true, true, true, true, true, true]) (S4_1 x1_0 x1_1 x1_2 x1_3 x1_4 x1_5 x1_6 x1_7 x1_8 x1_14 st) (X4_1 x1_0 x1_1 x1_2 x1_3 x1_4 x1_5 x1_6 x1_7 x1_8 x1_14 r) :=
  CG.iter (b := codeOf P 4 [false, false, true, false, true, true, true, true, true, true, true]) (by kernel_rfl) (body := B4_1 n x1_0 x1_1 x1_2 x1_3 x1_4 x1_5 x1_6 x1_7 x1_8 x1_14) (S := S4_1 x1_0 x1_1 x1_2 x1_3 x1_4 x1_5 x1_6 x1_7 x1_8 x1_14) (X := X4_1 x1_0 x1_1 x1_2 x1_3 x1_4 x1_5 x1_6 x1_7 x1_8 x1_14)
    (fun s s' h => by
    obtain ⟨x1_9, x1_10, x1_11, x1_12, x1_13, x1_15⟩ := s
    unfold B4_1 at h
    dsimp only at h
    by_cases hy1_1 : x1_15 ≤ (w64 (x1_5 - x1_1))
    · rw [if_pos hy1_1] at h
      obtain ⟨⟨y1_2_0, y1_2_1, y1_2_2, y1_2_3, y1_2_4⟩, hy1_2, h⟩ := Option.bind_eq_some_iff.1 h
      dsimp only at h
      obtain ⟨⟨y1_3_0, y1_3_1, y1_3_2, y1_3_3, y1_3_4, y1_3_5, y1_3_6⟩, hy1_3, h⟩ := Option.bind_eq_some_iff.1 h
      dsimp only at h
      by_cases hy1_4 : y1_2_4 = true
      · rw [if_pos hy1_4] at h
        cases h
      · rw [if_neg hy1_4] at h
        by_cases hy1_5 : y1_3_6 = (0 : Int)
        · rw [if_pos hy1_5] at h
          by_cases hy1_6 : x1_15 = (w64 (x1_5 - x1_1))
          · rw [if_pos hy1_6] at h
            by_cases hy1_7 : y1_3_5 = true
            · rw [if_pos hy1_7] at h
              obtain ⟨_, hy1_8, h⟩ := Option.bind_eq_some_iff.1 h
              by_cases hy1_9 : (w64 (x1_8 + y1_3_0)) = (w64 (x1_1 + x1_15))
              · rw [if_pos hy1_9] at h
                obtain ⟨_, hy1_10, h⟩ := Option.bind_eq_some_iff.1 h
                by_cases hy1_11 : y1_3_0 = x1_15
                · rw [if_pos hy1_11] at h
                  obtain rfl := Sum.inl.inj (Option.some.inj h); exact q4_1_0 n x1_0 x1_1 x1_2 x1_3 x1_4 x1_5 x1_6 x1_7 x1_8 x1_9 x1_10 x1_11 x1_12 x1_13 x1_14 x1_15 hy1_1 y1_2_0 y1_2_1 y1_2_2 y1_2_3 y1_2_4 hy1_2 y1_3_0 y1_3_1 y1_3_2 y1_3_3 y1_3_4 y1_3_5 y1_3_6 hy1_3 hy1_4 hy1_5 hy1_6 hy1_7 hy1_8 hy1_9 hy1_10 hy1_11
                · rw [if_neg hy1_11] at h
                  cases h
              · rw [if_neg hy1_9] at h
                cases h
            · rw [if_neg hy1_7] at h
              cases h
          · rw [if_neg hy1_6] at h
            by_cases hy1_7 : y1_3_5 = true
            · rw [if_pos hy1_7] at h
              cases h
            · rw [if_neg hy1_7] at h
              obtain ⟨_, hy1_8, h⟩ := Option.bind_eq_some_iff.1 h
              by_cases hy1_9 : (w64 (x1_8 + y1_3_0)) = (w64 (x1_1 + x1_15))
              · rw [if_pos hy1_9] at h
                obtain ⟨_, hy1_10, h⟩ := Option.bind_eq_some_iff.1 h
                by_cases hy1_11 : y1_3_0 = x1_15
                · rw [if_pos hy1_11] at h
                  obtain rfl := Sum.inl.inj (Option.some.inj h); exact q4_1_1 n x1_0 x1_1 x1_2 x1_3 x1_4 x1_5 x1_6 x1_7 x1_8 x1_9 x1_10 x1_11 x1_12 x1_13 x1_14 x1_15 hy1_1 y1_2_0 y1_2_1 y1_2_2 y1_2_3 y1_2_4 hy1_2 y1_3_0 y1_3_1 y1_3_2 y1_3_3 y1_3_4 y1_3_5 y1_3_6 hy1_3 hy1_4 hy1_5 hy1_6 hy1_7 hy1_8 hy1_9 hy1_10 hy1_11
                · rw [if_neg hy1_11] at h
                  cases h
              · rw [if_neg hy1_9] at h
                cases h
        · rw [if_neg hy1_5] at h
          cases h
    · rw [if_neg hy1_1] at h
      cases h)
    (fun s r h => by
    obtain ⟨x1_9, x1_10, x1_11, x1_12, x1_13, x1_15⟩ := s
    unfold B4_1 at h
    dsimp only at h
    by_cases hy1_1 : x1_15 ≤ (w64 (x1_5 - x1_1))
    · rw [if_pos hy1_1] at h
      obtain ⟨⟨y1_2_0, y1_2_1, y1_2_2, y1_2_3, y1_2_4⟩, hy1_2, h⟩ := Option.bind_eq_some_iff.1 h
      dsimp only at h
      obtain ⟨⟨y1_3_0, y1_3_1, y1_3_2, y1_3_3, y1_3_4, y1_3_5, y1_3_6⟩, hy1_3, h⟩ := Option.bind_eq_some_iff.1 h
      dsimp only at h
      by_cases hy1_4 : y1_2_4 = true
      · rw [if_pos hy1_4] at h
        cases h
      · rw [if_neg hy1_4] at h
        by_cases hy1_5 : y1_3_6 = (0 : Int)
        · rw [if_pos hy1_5] at h
          by_cases hy1_6 : x1_15 = (w64 (x1_5 - x1_1))
          · rw [if_pos hy1_6] at h
            by_cases hy1_7 : y1_3_5 = true
            · rw [if_pos hy1_7] at h
              obtain ⟨_, hy1_8, h⟩ := Option.bind_eq_some_iff.1 h
              by_cases hy1_9 : (w64 (x1_8 + y1_3_0)) = (w64 (x1_1 + x1_15))
              · rw [if_pos hy1_9] at h
                obtain ⟨_, hy1_10, h⟩ := Option.bind_eq_some_iff.1 h
                by_cases hy1_11 : y1_3_0 = x1_15
                · rw [if_pos hy1_11] at h
                  cases h
                · rw [if_neg hy1_11] at h
                  cases h
              · rw [if_neg hy1_9] at h
                cases h
            · rw [if_neg hy1_7] at h
              cases h
          · rw [if_neg hy1_6] at h
            by_cases hy1_7 : y1_3_5 = true
            · rw [if_pos hy1_7] at h
              cases h
            · rw [if_neg hy1_7] at h
              obtain ⟨_, hy1_8, h⟩ := Option.bind_eq_some_iff.1 h
              by_cases hy1_9 : (w64 (x1_8 + y1_3_0)) = (w64 (x1_1 + x1_15))
              · rw [if_pos hy1_9] at h
                obtain ⟨_, hy1_10, h⟩ := Option.bind_eq_some_iff.1 h
                by_cases hy1_11 : y1_3_0 = x1_15
                · rw [if_pos hy1_11] at h
                  cases h
                · rw [if_neg hy1_11] at h
                  cases h
              · rw [if_neg hy1_9] at h
                cases h
        · rw [if_neg hy1_5] at h
          cases h
    · rw [if_neg hy1_1] at h
      obtain rfl := Sum.inr.inj (Option.some.inj h); exact q4_1_2 n x1_0 x1_1 x1_2 x1_3 x1_4 x1_5 x1_6 x1_7 x1_8 x1_9 x1_10 x1_11 x1_12 x1_13 x1_14 x1_15 hy1_1)
    (fun r => by intro hx; cases hx) h
noncomputable def A4 (x : ByteArray) (a : Int) : List Value := [(Value.agg #[(Value.slice (some ⟨0, 0, some 1⟩) (Args.N).length Args.cN), (Value.slice (some ⟨1, 0, some 1⟩) (Args.R).length Args.cR)]), (Value.string x), (Value.int .i64 a)]
noncomputable def H4 (x : ByteArray) (a : Int) : AH := ⟨sB [], 0, 0⟩
noncomputable def V4 (x : ByteArray) (a : Int) (r : Bool) : Value := match r with
  | o0 => (Value.bool o0)
noncomputable def R4 (x : ByteArray) (a : Int) (r : Bool) : AH := match r with
  | o0 => ⟨sB [], 0, 0⟩
def m4 (n : Nat) (x : ByteArray) (a : Int) : Option (Bool) :=
  (m7 n).bind fun _ =>
  (m8 n 24).bind fun c2_ =>
  if c2_ = true then
    if (((x).size : Nat) : Int) > (60 : Int) then
      some true
    else
      if (((x).size : Nat) : Int) = (0 : Int) then
        some true
      else
        (m9 n).bind fun c6_ =>
        if c6_ = (0 : Int) then
          (m10 n a (((x).size : Nat) : Int)).bind fun c8_ =>
          (m11 n x c8_).bind fun t => match t with
          | (c9_0, c9_1, c9_2, c9_3, c9_4) =>
            (m13 n).bind fun t => match t with
            | (c10_0, c10_1) =>
              if c9_4 = true then
                if c9_3 > (w64 ((((x).size : Nat) : Int) + (1 : Int))) then
                  none
                else
                  (m14 n c10_0 c10_1 0 0 0 0 0 false false c8_).bind fun t => match t with
                  | (c13_0, c13_1, c13_2, c13_3, c13_4, c13_5, c13_6, c13_7) =>
                    if c13_7 = (0 : Int) then
                      (m4_1 n x c8_ c9_0 c9_1 c9_2 c9_3 c10_0 c10_1 c13_0 c13_6 (c13_1, c13_2, c13_3, c13_4, c13_5, 1)).bind fun t => match t with
                      | (c15_0, c15_1, c15_2, c15_3, c15_4) =>
                        (m15 n c10_0 c10_1 c13_0 c15_0 c15_1 c15_2 c15_3 c15_4 c13_6).bind fun t => match t with
                        | (c16_0, c16_1, c16_2, c16_3, c16_4) =>
                          if c16_4 = true then
                            some ((c16_0 == c9_0) && ((c16_1 == c9_1) && ((c16_2 == c9_2) && ((c16_3 == c9_3) && true))))
                          else
                            none
                    else
                      none
              else
                none
        else
          some true
  else
    some true
set_option maxRecDepth 100000 in
theorem p4_0 (n : Nat) (x : ByteArray) (a : Int) (hc1 : m7 n = some ()) (c2_ : Bool) (hc2 : m8 n 24 = some c2_) (hc3 : c2_ = true) (hc4 : (((x).size : Nat) : Int) > (60 : Int)) : Gv P (.func 4) (A4 x a) (H4 x a) (V4 x a true) (R4 x a true) :=
  runF_ok hm (A := aT [(5, .call ⟨0, [], (Value.bool true), Ax.h0, []⟩), (11, .call ⟨0, [], (V8 24 c2_), (R8 24 c2_), []⟩), (12, .val (.bool false)), (16, .val (.bool true))]) (L := lT []) (wk := ⟨[6], [], 0, 0⟩)
    (ps := [Gv P (.func 7) [] Ax.h0 (Value.bool true) Ax.h0,
    Gv P (.func 8) (A8 24) (H8 24) (V8 24 c2_) (R8 24 c2_),
    (Value.bool (!c2_)) = (Value.bool false),
    (Value.bool (decide ((((x).size : Nat) : Int) > (60 : Int)))) = (Value.bool true)]) (by kernel_rfl) ⟨(m7_ok n () hc1), (m8_ok n 24 c2_ hc2), (vBn hc3), (vbT hc4), trivial⟩
set_option maxRecDepth 100000 in
theorem p4_1 (n : Nat) (x : ByteArray) (a : Int) (hc1 : m7 n = some ()) (c2_ : Bool) (hc2 : m8 n 24 = some c2_) (hc3 : c2_ = true) (hc4 : ¬ ((((x).size : Nat) : Int) > (60 : Int))) (hc5 : (((x).size : Nat) : Int) = (0 : Int)) : Gv P (.func 4) (A4 x a) (H4 x a) (V4 x a true) (R4 x a true) :=
  runF_ok hm (A := aT [(5, .call ⟨0, [], (Value.bool true), Ax.h0, []⟩), (11, .call ⟨0, [], (V8 24 c2_), (R8 24 c2_), []⟩), (12, .val (.bool false)), (16, .val (.bool false)), (21, .val (.bool true))]) (L := lT []) (wk := ⟨[6], [], 0, 0⟩)
    (ps := [Gv P (.func 7) [] Ax.h0 (Value.bool true) Ax.h0,
    Gv P (.func 8) (A8 24) (H8 24) (V8 24 c2_) (R8 24 c2_),
    (Value.bool (!c2_)) = (Value.bool false),
    (Value.bool (decide ((((x).size : Nat) : Int) > (60 : Int)))) = (Value.bool false),
    (Value.bool ((((x).size : Nat) : Int) == (0 : Int))) = (Value.bool true)]) (by kernel_rfl) ⟨(m7_ok n () hc1), (m8_ok n 24 c2_ hc2), (vBn hc3), (vbF hc4), (veT hc5), trivial⟩
set_option maxRecDepth 100000 in
theorem p4_2 (n : Nat) (x : ByteArray) (a : Int) (hc1 : m7 n = some ()) (c2_ : Bool) (hc2 : m8 n 24 = some c2_) (hc3 : c2_ = true) (hc4 : ¬ ((((x).size : Nat) : Int) > (60 : Int))) (hc5 : ¬ ((((x).size : Nat) : Int) = (0 : Int))) (c6_ : Int) (hc6 : m9 n = some c6_) (hc7 : c6_ = (0 : Int)) (c8_ : Int) (hc8 : m10 n a (((x).size : Nat) : Int) = some c8_) (c9_0 : Int) (c9_1 : Int) (c9_2 : Int) (c9_3 : Int) (c9_4 : Bool) (hc9 : m11 n x c8_ = some (c9_0, c9_1, c9_2, c9_3, c9_4)) (c10_0 : List Int) (c10_1 : List Int) (hc10 : m13 n = some (c10_0, c10_1)) (hc11 : c9_4 = true) (hc12 : ¬ (c9_3 > (w64 ((((x).size : Nat) : Int) + (1 : Int))))) (c13_0 : Int) (c13_1 : Int) (c13_2 : Int) (c13_3 : Int) (c13_4 : Int) (c13_5 : Bool) (c13_6 : Bool) (c13_7 : Int) (hc13 : m14 n c10_0 c10_1 0 0 0 0 0 false false c8_ = some (c13_0, c13_1, c13_2, c13_3, c13_4, c13_5, c13_6, c13_7)) (hc14 : c13_7 = (0 : Int)) (c15_0 : Int) (c15_1 : Int) (c15_2 : Int) (c15_3 : Int) (c15_4 : Bool) (hc15 : m4_1 n x c8_ c9_0 c9_1 c9_2 c9_3 c10_0 c10_1 c13_0 c13_6 (c13_1, c13_2, c13_3, c13_4, c13_5, 1) = some (c15_0, c15_1, c15_2, c15_3, c15_4)) (c16_0 : Int) (c16_1 : Int) (c16_2 : Int) (c16_3 : Int) (c16_4 : Bool) (hc16 : m15 n c10_0 c10_1 c13_0 c15_0 c15_1 c15_2 c15_3 c15_4 c13_6 = some (c16_0, c16_1, c16_2, c16_3, c16_4)) (hc17 : c16_4 = true) : Gv P (.func 4) (A4 x a) (H4 x a) (V4 x a ((c16_0 == c9_0) && ((c16_1 == c9_1) && ((c16_2 == c9_2) && ((c16_3 == c9_3) && true))))) (R4 x a ((c16_0 == c9_0) && ((c16_1 == c9_1) && ((c16_2 == c9_2) && ((c16_3 == c9_3) && true))))) :=
  runF_ok hm (A := aT [(5, .call ⟨0, [], (Value.bool true), Ax.h0, []⟩), (11, .call ⟨0, [], (V8 24 c2_), (R8 24 c2_), []⟩), (12, .val (.bool false)), (16, .val (.bool false)), (21, .val (.bool false)), (25, .call ⟨0, [], (V9  c6_), (R9  c6_), []⟩), (26, .val (.bool false)), (33, .call ⟨0, [], (V10 a (((x).size : Nat) : Int) c8_), (R10 a (((x).size : Nat) : Int) c8_), []⟩), (39, .call ⟨0, [], (V11 x c8_ (c9_0, c9_1, c9_2, c9_3, c9_4)), (R11 x c8_ (c9_0, c9_1, c9_2, c9_3, c9_4)), [(1, 0, false)]⟩), (48, .call ⟨0, [], (V13  (c10_0, c10_1)), (R13  (c10_0, c10_1)), [(3, 0, false), (4, 1, true), (5, 2, true)]⟩), (57, .val (.bool false)), (64, .val (.bool false)), (77, .call ⟨3, [(0, 3, false), (1, 4, true), (2, 5, true)], (V14 c10_0 c10_1 0 0 0 0 0 false false c8_ (c13_0, c13_1, c13_2, c13_3, c13_4, c13_5, c13_6, c13_7)), (R14 c10_0 c10_1 0 0 0 0 0 false false c8_ (c13_0, c13_1, c13_2, c13_3, c13_4, c13_5, c13_6, c13_7)), [(3, 0, false), (4, 1, true), (5, 2, true)]⟩), (78, .val (.bool false)), (88, .call ⟨3, [(0, 1, false), (1, 2, true), (2, 3, true)], (V15 c10_0 c10_1 c13_0 c15_0 c15_1 c15_2 c15_3 c15_4 c13_6 (c16_0, c16_1, c16_2, c16_3, c16_4)), (R15 c10_0 c10_1 c13_0 c15_0 c15_1 c15_2 c15_3 c15_4 c13_6 (c16_0, c16_1, c16_2, c16_3, c16_4)), [(4, 3, false)]⟩), (97, .val (.bool true))]) (L := lT [(85, ⟨⟨[1, 2, 7, 9, 11], [(0, 2, false), (1, 3, false), (2, 4, true), (3, 5, true)], 4, 0⟩, (X4_1 x c8_ c9_0 c9_1 c9_2 c9_3 c10_0 c10_1 c13_0 c13_6 (c15_0, c15_1, c15_2, c15_3, c15_4)).1, (X4_1 x c8_ c9_0 c9_1 c9_2 c9_3 c10_0 c10_1 c13_0 c13_6 (c15_0, c15_1, c15_2, c15_3, c15_4)).2⟩)]) (wk := ⟨[6], [], 0, 0⟩)
    (ps := [Gv P (.func 7) [] Ax.h0 (Value.bool true) Ax.h0,
    Gv P (.func 8) (A8 24) (H8 24) (V8 24 c2_) (R8 24 c2_),
    (Value.bool (!c2_)) = (Value.bool false),
    (Value.bool (decide ((((x).size : Nat) : Int) > (60 : Int)))) = (Value.bool false),
    (Value.bool ((((x).size : Nat) : Int) == (0 : Int))) = (Value.bool false),
    Gv P (.func 9) A9 H9 (V9  c6_) (R9  c6_),
    (Value.bool (c6_ != (0 : Int))) = (Value.bool false),
    Gv P (.func 10) (A10 a (((x).size : Nat) : Int)) (H10 a (((x).size : Nat) : Int)) (V10 a (((x).size : Nat) : Int) c8_) (R10 a (((x).size : Nat) : Int) c8_),
    Gv P (.func 11) (A11 x c8_) (H11 x c8_) (V11 x c8_ (c9_0, c9_1, c9_2, c9_3, c9_4)) (R11 x c8_ (c9_0, c9_1, c9_2, c9_3, c9_4)),
    Gv P (.func 13) A13 H13 (V13  (c10_0, c10_1)) (R13  (c10_0, c10_1)),
    FlatB (.cells (layT (iv c10_0)) 3),
    FlatB (.cells (layT (iv c10_1)) 3),
    (Value.bool (!c9_4)) = (Value.bool false),
    (Value.bool (decide (c9_3 > (w64 ((((x).size : Nat) : Int) + (1 : Int)))))) = (Value.bool false),
    Gv P (.func 14) (A14 c10_0 c10_1 0 0 0 0 0 false false c8_) (H14 c10_0 c10_1 0 0 0 0 0 false false c8_) (V14 c10_0 c10_1 0 0 0 0 0 false false c8_ (c13_0, c13_1, c13_2, c13_3, c13_4, c13_5, c13_6, c13_7)) (R14 c10_0 c10_1 0 0 0 0 0 false false c8_ (c13_0, c13_1, c13_2, c13_3, c13_4, c13_5, c13_6, c13_7)),
    FlatB (.cells (layT (iv c10_0)) 3),
    FlatB (.cells (layT (iv c10_1)) 3),
    FlatB (.cells (layT (iv c10_0)) 3),
    FlatB (.cells (layT (iv c10_1)) 3),
    (Value.bool (c13_7 != (0 : Int))) = (Value.bool false),
    CG P none (fnN P 4) 0 (codeOf P 4 [false, true, false, true, true, true, true, true, true, true]) (S4_1 x c8_ c9_0 c9_1 c9_2 c9_3 c10_0 c10_1 c13_0 c13_6 (c13_1, c13_2, c13_3, c13_4, c13_5, 1)) (X4_1 x c8_ c9_0 c9_1 c9_2 c9_3 c10_0 c10_1 c13_0 c13_6 (c15_0, c15_1, c15_2, c15_3, c15_4)),
    FlatB (.cells (layT (iv c10_0)) 3),
    FlatB (.cells (layT (iv c10_1)) 3),
    Gv P (.func 15) (A15 c10_0 c10_1 c13_0 c15_0 c15_1 c15_2 c15_3 c15_4 c13_6) (H15 c10_0 c10_1 c13_0 c15_0 c15_1 c15_2 c15_3 c15_4 c13_6) (V15 c10_0 c10_1 c13_0 c15_0 c15_1 c15_2 c15_3 c15_4 c13_6 (c16_0, c16_1, c16_2, c16_3, c16_4)) (R15 c10_0 c10_1 c13_0 c15_0 c15_1 c15_2 c15_3 c15_4 c13_6 (c16_0, c16_1, c16_2, c16_3, c16_4)),
    FlatB (.cells (layT (iv c10_0)) 3),
    FlatB (.cells (layT (iv c10_1)) 3),
    (Value.bool c16_4) = (Value.bool true)]) (by kernel_rfl) ⟨(m7_ok n () hc1), (m8_ok n 24 c2_ hc2), (vBn hc3), (vbF hc4), (veF hc5), (m9_ok n c6_ hc6), (vnF hc7), (m10_ok n a (((x).size : Nat) : Int) c8_ hc8), (m11_ok n x c8_ (c9_0, c9_1, c9_2, c9_3, c9_4) hc9), (m13_ok n (c10_0, c10_1) hc10), (iv_flat _ _), (iv_flat _ _), (vBn hc11), (vbF hc12), (m14_ok n c10_0 c10_1 0 0 0 0 0 false false c8_ (c13_0, c13_1, c13_2, c13_3, c13_4, c13_5, c13_6, c13_7) hc13), (iv_flat _ _), (iv_flat _ _), (iv_flat _ _), (iv_flat _ _), (vnF hc14), (m4_1_ok n x c8_ c9_0 c9_1 c9_2 c9_3 c10_0 c10_1 c13_0 c13_6 (c13_1, c13_2, c13_3, c13_4, c13_5, 1) (c15_0, c15_1, c15_2, c15_3, c15_4) hc15), (iv_flat _ _), (iv_flat _ _), (m15_ok n c10_0 c10_1 c13_0 c15_0 c15_1 c15_2 c15_3 c15_4 c13_6 (c16_0, c16_1, c16_2, c16_3, c16_4) hc16), (iv_flat _ _), (iv_flat _ _), (vB hc17), trivial⟩
set_option maxRecDepth 100000 in
theorem p4_3 (n : Nat) (x : ByteArray) (a : Int) (hc1 : m7 n = some ()) (c2_ : Bool) (hc2 : m8 n 24 = some c2_) (hc3 : c2_ = true) (hc4 : ¬ ((((x).size : Nat) : Int) > (60 : Int))) (hc5 : ¬ ((((x).size : Nat) : Int) = (0 : Int))) (c6_ : Int) (hc6 : m9 n = some c6_) (hc7 : ¬ (c6_ = (0 : Int))) : Gv P (.func 4) (A4 x a) (H4 x a) (V4 x a true) (R4 x a true) :=
  runF_ok hm (A := aT [(5, .call ⟨0, [], (Value.bool true), Ax.h0, []⟩), (11, .call ⟨0, [], (V8 24 c2_), (R8 24 c2_), []⟩), (12, .val (.bool false)), (16, .val (.bool false)), (21, .val (.bool false)), (25, .call ⟨0, [], (V9  c6_), (R9  c6_), []⟩), (26, .val (.bool true))]) (L := lT []) (wk := ⟨[6], [], 0, 0⟩)
    (ps := [Gv P (.func 7) [] Ax.h0 (Value.bool true) Ax.h0,
    Gv P (.func 8) (A8 24) (H8 24) (V8 24 c2_) (R8 24 c2_),
    (Value.bool (!c2_)) = (Value.bool false),
    (Value.bool (decide ((((x).size : Nat) : Int) > (60 : Int)))) = (Value.bool false),
    (Value.bool ((((x).size : Nat) : Int) == (0 : Int))) = (Value.bool false),
    Gv P (.func 9) A9 H9 (V9  c6_) (R9  c6_),
    (Value.bool (c6_ != (0 : Int))) = (Value.bool true)]) (by kernel_rfl) ⟨(m7_ok n () hc1), (m8_ok n 24 c2_ hc2), (vBn hc3), (vbF hc4), (veF hc5), (m9_ok n c6_ hc6), (vnT hc7), trivial⟩
set_option maxRecDepth 100000 in
theorem p4_4 (n : Nat) (x : ByteArray) (a : Int) (hc1 : m7 n = some ()) (c2_ : Bool) (hc2 : m8 n 24 = some c2_) (hc3 : ¬ (c2_ = true)) : Gv P (.func 4) (A4 x a) (H4 x a) (V4 x a true) (R4 x a true) :=
  runF_ok hm (A := aT [(5, .call ⟨0, [], (Value.bool true), Ax.h0, []⟩), (11, .call ⟨0, [], (V8 24 c2_), (R8 24 c2_), []⟩), (12, .val (.bool true))]) (L := lT []) (wk := ⟨[6], [], 0, 0⟩)
    (ps := [Gv P (.func 7) [] Ax.h0 (Value.bool true) Ax.h0,
    Gv P (.func 8) (A8 24) (H8 24) (V8 24 c2_) (R8 24 c2_),
    (Value.bool (!c2_)) = (Value.bool true)]) (by kernel_rfl) ⟨(m7_ok n () hc1), (m8_ok n 24 c2_ hc2), (vBn (Bool.eq_false_iff.2 hc3)), trivial⟩
theorem m4_ok (n : Nat) (x : ByteArray) (a : Int) (r : Bool) (h : m4 n x a = some r) : Gv P (.func 4) (A4 x a) (H4 x a) (V4 x a r) (R4 x a r) := by
  unfold m4 at h
  obtain ⟨_, hc1, h⟩ := Option.bind_eq_some_iff.1 h
  obtain ⟨c2_, hc2, h⟩ := Option.bind_eq_some_iff.1 h
  by_cases hc3 : c2_ = true
  · rw [if_pos hc3] at h
    by_cases hc4 : (((x).size : Nat) : Int) > (60 : Int)
    · rw [if_pos hc4] at h
      obtain rfl := Option.some.inj h; exact p4_0 n x a hc1 c2_ hc2 hc3 hc4
    · rw [if_neg hc4] at h
      by_cases hc5 : (((x).size : Nat) : Int) = (0 : Int)
      · rw [if_pos hc5] at h
        obtain rfl := Option.some.inj h; exact p4_1 n x a hc1 c2_ hc2 hc3 hc4 hc5
      · rw [if_neg hc5] at h
        obtain ⟨c6_, hc6, h⟩ := Option.bind_eq_some_iff.1 h
        by_cases hc7 : c6_ = (0 : Int)
        · rw [if_pos hc7] at h
          obtain ⟨c8_, hc8, h⟩ := Option.bind_eq_some_iff.1 h
          obtain ⟨⟨c9_0, c9_1, c9_2, c9_3, c9_4⟩, hc9, h⟩ := Option.bind_eq_some_iff.1 h
          dsimp only at h
          obtain ⟨⟨c10_0, c10_1⟩, hc10, h⟩ := Option.bind_eq_some_iff.1 h
          dsimp only at h
          by_cases hc11 : c9_4 = true
          · rw [if_pos hc11] at h
            by_cases hc12 : c9_3 > (w64 ((((x).size : Nat) : Int) + (1 : Int)))
            · rw [if_pos hc12] at h
              cases h
            · rw [if_neg hc12] at h
              obtain ⟨⟨c13_0, c13_1, c13_2, c13_3, c13_4, c13_5, c13_6, c13_7⟩, hc13, h⟩ := Option.bind_eq_some_iff.1 h
              dsimp only at h
              by_cases hc14 : c13_7 = (0 : Int)
              · rw [if_pos hc14] at h
                obtain ⟨⟨c15_0, c15_1, c15_2, c15_3, c15_4⟩, hc15, h⟩ := Option.bind_eq_some_iff.1 h
                dsimp only at h
                obtain ⟨⟨c16_0, c16_1, c16_2, c16_3, c16_4⟩, hc16, h⟩ := Option.bind_eq_some_iff.1 h
                dsimp only at h
                by_cases hc17 : c16_4 = true
                · rw [if_pos hc17] at h
                  obtain rfl := Option.some.inj h; exact p4_2 n x a hc1 c2_ hc2 hc3 hc4 hc5 c6_ hc6 hc7 c8_ hc8 c9_0 c9_1 c9_2 c9_3 c9_4 hc9 c10_0 c10_1 hc10 hc11 hc12 c13_0 c13_1 c13_2 c13_3 c13_4 c13_5 c13_6 c13_7 hc13 hc14 c15_0 c15_1 c15_2 c15_3 c15_4 hc15 c16_0 c16_1 c16_2 c16_3 c16_4 hc16 hc17
                · rw [if_neg hc17] at h
                  cases h
              · rw [if_neg hc14] at h
                cases h
          · rw [if_neg hc11] at h
            cases h
        · rw [if_neg hc7] at h
          obtain rfl := Option.some.inj h; exact p4_3 n x a hc1 c2_ hc2 hc3 hc4 hc5 c6_ hc6 hc7
  · rw [if_neg hc3] at h
    obtain rfl := Option.some.inj h; exact p4_4 n x a hc1 c2_ hc2 hc3

end Go.Proofs.Ytmnjfnlpekojiaa.munchw
