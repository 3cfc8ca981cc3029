/-
  What functions do, told by pure functions. No condition.
-/
import Derived.Test.YtaompjplflaloaaMunchSTold
set_option linter.unusedSimpArgs false
set_option linter.unusedVariables false
set_option linter.unusedSectionVars false
set_option linter.unnecessarySimpa false
namespace Go.Proofs.Ytaompjplflaloaa.munchs
open Go Go.Proofs.Ytaompjplflaloaa Ax
variable [Args]
noncomputable def A_slicesCloneintinta : List Value := [(Value.slice (some ⟨0, 0, some 1⟩) (Args.N).length Args.cN)]
noncomputable def H_slicesCloneintinta : AH := ⟨sB [], 0, 0⟩
noncomputable def V_slicesCloneintinta (r : List Int) : Value := match r with
  | o0 => (Value.slice (some ⟨0, 0, none⟩) (o0).length (Nat.add big 1))
noncomputable def R_slicesCloneintinta (r : List Int) : AH := match r with
  | o0 => ⟨sB [(0, (some (.cells (layT (iv o0)) 3)))], 1, 0⟩
noncomputable abbrev G_slicesCloneintinta  (r : List Int) : Prop := Gv P (.func 28) (A_slicesCloneintinta ) (H_slicesCloneintinta ) (V_slicesCloneintinta  r) (R_slicesCloneintinta  r)
def m_slicesCloneintinta (n : Nat) : Option (List Int) :=
  if 0 < (Args.N).length then
    if (0 + (Args.N).length) * 8 ≤ 140737488355328 then
      if 0 < 0 + (Args.N).length then
        some (([] : List Int) ++ Args.N)
      else none
    else none
  else none
set_option maxRecDepth 100000 in
theorem p_slicesCloneintinta_0 (n : Nat) (hc1 : 0 < (Args.N).length) (hc2 : (0 + (Args.N).length) * 8 ≤ 140737488355328) (hc3 : 0 < 0 + (Args.N).length) : G_slicesCloneintinta  (([] : List Int) ++ Args.N) :=
  runF_ok hm (A := aT [(5, .nil (.bool false)), (10, .app ⟨some ((Args.N).length, (iv Args.N)), ([] : List Value), (iv (([] : List Int) ++ Args.N)), ((([] : List Int) ++ Args.N)).length, true⟩)]) (L := lT []) (wk := ⟨[2], [(0, 1, true)], 1, 0⟩)
    (ps := [∃ m, (Args.N).length = m + 1,
    cmpOp .eql false = some (Value.bool false),
    (Args.N).length = (Args.N).length,
    rdL (iv Args.N) (Nat.mul (Args.N).length 1) 0 = some (iv Args.N),
    flatL (iv Args.N) = true,
    0 < (Args.N).length,
    0 < big,
    0 < Nat.add 0 (Args.N).length,
    rdT (layT ([] : List Value)) (Nat.mul 0 1) 0 = some (([] : List Value)),
    fits (Nat.add 0 (Args.N).length) 8 = true,
    ([] : List Value) ++ (iv Args.N) = (iv (([] : List Int) ++ Args.N)),
    Nat.add 0 (Args.N).length = ((([] : List Int) ++ Args.N)).length,
    FlatB (.cells (layT (iv (([] : List Int) ++ Args.N))) 3)]) (by kernel_rfl) ⟨(⟨(Args.N).length - 1, by have := hc1; omega⟩), (rfl), (rfl), (rdL_iv _ _ rfl), (iv_flatL _), (hc1), ((by decide)), (hc3), (rfl), (fits_ok hc2 (by have := hc2; show (_ : Nat) + _ ≤ _; omega)), (by simp [iv]), (by simp <;> omega), (iv_flat _ _), trivial⟩
theorem m_slicesCloneintinta_ok (n : Nat) (r : List Int) (h : m_slicesCloneintinta n = some r) : G_slicesCloneintinta  r := by
  unfold m_slicesCloneintinta at h
  by_cases hc1 : 0 < (Args.N).length
  · rw [if_pos hc1] at h
    by_cases hc2 : (0 + (Args.N).length) * 8 ≤ 140737488355328
    · rw [if_pos hc2] at h
      by_cases hc3 : 0 < 0 + (Args.N).length
      · rw [if_pos hc3] at h
        obtain rfl := Option.some.inj h; exact p_slicesCloneintinta_0 n hc1 hc2 hc3
      · rw [if_neg hc3] at h; cases h
    · rw [if_neg hc2] at h; cases h
  · rw [if_neg hc1] at h; cases h

noncomputable def A_slicesCloneintintb : List Value := [(Value.slice (some ⟨1, 0, some 1⟩) (Args.R).length Args.cR)]
noncomputable def H_slicesCloneintintb : AH := ⟨sB [], 0, 0⟩
noncomputable def V_slicesCloneintintb (r : List Int) : Value := match r with
  | o0 => (Value.slice (some ⟨0, 0, none⟩) (o0).length (Nat.add big 1))
noncomputable def R_slicesCloneintintb (r : List Int) : AH := match r with
  | o0 => ⟨sB [(0, (some (.cells (layT (iv o0)) 3)))], 1, 0⟩
noncomputable abbrev G_slicesCloneintintb  (r : List Int) : Prop := Gv P (.func 28) (A_slicesCloneintintb ) (H_slicesCloneintintb ) (V_slicesCloneintintb  r) (R_slicesCloneintintb  r)
def m_slicesCloneintintb (n : Nat) : Option (List Int) :=
  if 0 < (Args.R).length then
    if (0 + (Args.R).length) * 8 ≤ 140737488355328 then
      if 0 < 0 + (Args.R).length then
        some (([] : List Int) ++ Args.R)
      else none
    else none
  else none
set_option maxRecDepth 100000 in
theorem p_slicesCloneintintb_0 (n : Nat) (hc1 : 0 < (Args.R).length) (hc2 : (0 + (Args.R).length) * 8 ≤ 140737488355328) (hc3 : 0 < 0 + (Args.R).length) : G_slicesCloneintintb  (([] : List Int) ++ Args.R) :=
  runF_ok hm (A := aT [(5, .nil (.bool false)), (10, .app ⟨some ((Args.R).length, (iv Args.R)), ([] : List Value), (iv (([] : List Int) ++ Args.R)), ((([] : List Int) ++ Args.R)).length, true⟩)]) (L := lT []) (wk := ⟨[2], [(0, 1, true)], 1, 0⟩)
    (ps := [∃ m, (Args.R).length = m + 1,
    cmpOp .eql false = some (Value.bool false),
    (Args.R).length = (Args.R).length,
    rdL (iv Args.R) (Nat.mul (Args.R).length 1) 0 = some (iv Args.R),
    flatL (iv Args.R) = true,
    0 < (Args.R).length,
    0 < big,
    0 < Nat.add 0 (Args.R).length,
    rdT (layT ([] : List Value)) (Nat.mul 0 1) 0 = some (([] : List Value)),
    fits (Nat.add 0 (Args.R).length) 8 = true,
    ([] : List Value) ++ (iv Args.R) = (iv (([] : List Int) ++ Args.R)),
    Nat.add 0 (Args.R).length = ((([] : List Int) ++ Args.R)).length,
    FlatB (.cells (layT (iv (([] : List Int) ++ Args.R))) 3)]) (by kernel_rfl) ⟨(⟨(Args.R).length - 1, by have := hc1; omega⟩), (rfl), (rfl), (rdL_iv _ _ rfl), (iv_flatL _), (hc1), ((by decide)), (hc3), (rfl), (fits_ok hc2 (by have := hc2; show (_ : Nat) + _ ≤ _; omega)), (by simp [iv]), (by simp <;> omega), (iv_flat _ _), trivial⟩
theorem m_slicesCloneintintb_ok (n : Nat) (r : List Int) (h : m_slicesCloneintintb n = some r) : G_slicesCloneintintb  r := by
  unfold m_slicesCloneintintb at h
  by_cases hc1 : 0 < (Args.R).length
  · rw [if_pos hc1] at h
    by_cases hc2 : (0 + (Args.R).length) * 8 ≤ 140737488355328
    · rw [if_pos hc2] at h
      by_cases hc3 : 0 < 0 + (Args.R).length
      · rw [if_pos hc3] at h
        obtain rfl := Option.some.inj h; exact p_slicesCloneintintb_0 n hc1 hc2 hc3
      · rw [if_neg hc3] at h; cases h
    · rw [if_neg hc2] at h; cases h
  · rw [if_neg hc1] at h; cases h

noncomputable def A_munchNews : List Value := [(Value.agg #[(Value.slice (some ⟨0, 0, some 1⟩) (Args.N).length Args.cN), (Value.slice (some ⟨1, 0, some 1⟩) (Args.R).length Args.cR)])]
noncomputable def H_munchNews : AH := ⟨sB [], 0, 0⟩
noncomputable def V_munchNews (r : (List Int × List Int) ⊕ (Int)) : Value := match r with
  | .inl (o0, o1) => (Value.tuple #[(Value.pointer (some ⟨0, 0, none⟩)), (Value.int .i64 (0 : Int))])
  | .inr o0 => (Value.tuple #[(Value.pointer none), (Value.int .i64 o0)])
noncomputable def R_munchNews (r : (List Int × List Int) ⊕ (Int)) : AH := match r with
  | .inl (o0, o1) => ⟨sB [(0, (some (.cells (layT [(Value.pointer (some ⟨0, 0, none⟩)), (Value.slice (some ⟨1, 0, none⟩) (o0).length (Nat.add big 1)), (Value.slice (some ⟨2, 0, none⟩) (o1).length (Nat.add big 1)), (Value.int .i64 (0 : Int)), (Value.int .i64 (0 : Int)), (Value.int .i64 (0 : Int)), (Value.int .i64 (0 : Int)), (Value.int .i64 (0 : Int)), (Value.bool false), (Value.bool false)]) 61))), (1, (some (.cells (layT (iv o0)) 3))), (2, (some (.cells (layT (iv o1)) 3)))], 3, 0⟩
  | .inr o0 => ⟨sB [], 0, 0⟩
noncomputable abbrev G_munchNews  (r : (List Int × List Int) ⊕ (Int)) : Prop := Gv P (.func 12) (A_munchNews ) (H_munchNews ) (V_munchNews  r) (R_munchNews  r)
def m_munchNews (n : Nat) : Option ((List Int × List Int) ⊕ (Int)) :=
  (m_dfaCheck n).bind fun c1_ =>
  if c1_ = (0 : Int) then
    (m_slicesCloneintinta n).bind fun c3_ =>
    (m_slicesCloneintintb n).bind fun c4_ =>
    some (.inl (c3_, c4_))
  else
    some (.inr c1_)
set_option maxRecDepth 100000 in
theorem p_munchNews_0 (n : Nat) (c1_ : Int) (hc1 : m_dfaCheck n = some c1_) (hc2 : c1_ = (0 : Int)) (c3_ : List Int) (hc3 : m_slicesCloneintinta n = some c3_) (c4_ : List Int) (hc4 : m_slicesCloneintintb n = some c4_) : G_munchNews  (.inl (c3_, c4_)) :=
  runF_ok hm (A := aT [(7, .call ⟨0, [], (V_dfaCheck  c1_), (R_dfaCheck  c1_), []⟩), (11, .val (.bool false)), (16, .call ⟨0, [], (V_slicesCloneintinta  c3_), (R_slicesCloneintinta  c3_), [(10, 0, true)]⟩), (19, .call ⟨0, [], (V_slicesCloneintintb  c4_), (R_slicesCloneintintb  c4_), [(11, 0, true)]⟩)]) (L := lT []) (wk := ⟨[2, 3], [(0, 9, false), (1, 10, true), (2, 11, true)], 3, 0⟩)
    (ps := [G_dfaCheck  c1_,
    (Value.bool (c1_ != (0 : Int))) = (Value.bool false),
    G_slicesCloneintinta  c3_,
    FlatB (.cells (layT (iv c3_)) 3),
    G_slicesCloneintintb  c4_,
    FlatB (.cells (layT (iv c4_)) 3),
    FlatB (.cells (layT (iv c3_)) 3),
    FlatB (.cells (layT (iv c4_)) 3)]) (by kernel_rfl) ⟨(m_dfaCheck_ok n c1_ hc1), (vnF hc2), (m_slicesCloneintinta_ok n c3_ hc3), (iv_flat _ _), (m_slicesCloneintintb_ok n c4_ hc4), (iv_flat _ _), (iv_flat _ _), (iv_flat _ _), trivial⟩
set_option maxRecDepth 100000 in
theorem p_munchNews_1 (n : Nat) (c1_ : Int) (hc1 : m_dfaCheck n = some c1_) (hc2 : ¬ (c1_ = (0 : Int))) : G_munchNews  (.inr c1_) :=
  runF_ok hm (A := aT [(7, .call ⟨0, [], (V_dfaCheck  c1_), (R_dfaCheck  c1_), []⟩), (11, .val (.bool true))]) (L := lT []) (wk := ⟨[2, 3], [], 0, 0⟩)
    (ps := [G_dfaCheck  c1_,
    (Value.bool (c1_ != (0 : Int))) = (Value.bool true)]) (by kernel_rfl) ⟨(m_dfaCheck_ok n c1_ hc1), (vnT hc2), trivial⟩
theorem m_munchNews_ok (n : Nat) (r : (List Int × List Int) ⊕ (Int)) (h : m_munchNews n = some r) : G_munchNews  r := by
  unfold m_munchNews at h
  obtain ⟨c1_, hc1, h⟩ := Option.bind_eq_some_iff.1 h
  by_cases hc2 : c1_ = (0 : Int)
  · rw [if_pos hc2] at h
    obtain ⟨c3_, hc3, h⟩ := Option.bind_eq_some_iff.1 h
    obtain ⟨c4_, hc4, h⟩ := Option.bind_eq_some_iff.1 h
    obtain rfl := Option.some.inj h; exact p_munchNews_0 n c1_ hc1 hc2 c3_ hc3 c4_ hc4
  · rw [if_neg hc2] at h
    obtain rfl := Option.some.inj h; exact p_munchNews_1 n c1_ hc1 hc2

noncomputable def S_munchscanexamineo_1 (x1_0 : ByteArray) (x1_1 : Int) (x1_2 : Int) (x1_7 : Bool) (x1_8 : List Int) (x1_9 : List Int) (st : Int × Int × Int × Int × Int) : XSt := match st with
  | (x1_3, x1_4, x1_5, x1_6, x1_10) => (sT 64 [(2, (Value.string x1_0)), (3, (Value.int .i64 x1_1)), (4, (Value.pointer (some ⟨2, 0, none⟩))), (5, (Value.pointer (some ⟨3, 0, none⟩))), (8, (Value.pointer (some ⟨4, 0, none⟩))), (9, (Value.int .i64 x1_10))], [], ⟨sB [(0, (some (.cells (layT (iv x1_8)) 3))), (1, (some (.cells (layT (iv x1_9)) 3))), (2, (some (.cells (layT [(Value.int .i64 x1_2), (Value.int .i64 x1_3), (Value.int .i64 x1_4), (Value.int .i64 x1_5), (Value.int .i64 x1_6), (Value.bool x1_7)]) 59))), (3, (some (.cells (layT [(Value.slice (some ⟨0, 0, none⟩) (x1_8).length (Nat.add big 1)), (Value.slice (some ⟨1, 0, none⟩) (x1_9).length (Nat.add big 1))]) 24))), (4, (some (.cells (layT [(Value.int .i64 (0 : Int)), (Value.int .i64 (0 : Int)), (Value.int .i64 (0 : Int)), (Value.int .i64 (0 : Int)), (Value.int .i64 (0 : Int)), (Value.bool false)]) 59)))], 5, 2⟩)
noncomputable def X_munchscanexamineo_1 (x1_0 : ByteArray) (x1_1 : Int) (x1_2 : Int) (x1_7 : Bool) (x1_8 : List Int) (x1_9 : List Int) (r : Int × Int × Int × Int × Bool) : Ex × XSt := match r with
  | (z1_0, z1_1, z1_2, z1_3, z1_4) => (.exit 0, (sT 64 [(4, (Value.pointer (some ⟨2, 0, none⟩))), (8, (Value.pointer (some ⟨3, 0, none⟩)))], [], ⟨sB [(2, (some (.cells (layT [(Value.int .i64 x1_2), (Value.int .i64 z1_0), (Value.int .i64 z1_1), (Value.int .i64 z1_2), (Value.int .i64 z1_3), (Value.bool z1_4)]) 59))), (3, (some (.cells (layT [(Value.int .i64 (0 : Int)), (Value.int .i64 (0 : Int)), (Value.int .i64 (0 : Int)), (Value.int .i64 (0 : Int)), (Value.int .i64 (0 : Int)), (Value.bool false)]) 59)))], 4, 2⟩))
def B_munchscanexamineo_1 (n : Nat) (x1_0 : ByteArray) (x1_1 : Int) (x1_2 : Int) (x1_7 : Bool) (x1_8 : List Int) (x1_9 : List Int) (st : Int × Int × Int × Int × Int) : Option ((Int × Int × Int × Int × Int) ⊕ (Int × Int × Int × Int × Bool)) := match st with
  | (x1_3, x1_4, x1_5, x1_6, x1_10) =>
    if x1_10 < x1_1 then
      (m_munchscanext n x1_2 x1_3 x1_4 x1_5 x1_6 x1_7).bind fun _ =>
      if (w64 (x1_2 + x1_3)) = (((x1_0).size : Nat) : Int) then
        some (.inr ((w64 (x1_3 + (1 : Int))), x1_4, x1_5, x1_6, true))
      else
        if 0 ≤ (w64 (x1_2 + x1_3)) ∧ (w64 (x1_2 + x1_3)) < (((x1_0).size : Nat) : Int) then
          if 0 ≤ (w64 ((w64 (x1_4 * (256 : Int))) + (IntKind.i64.wrap (byteAt x1_0 ((w64 (x1_2 + x1_3))).toNat)))) ∧ (w64 ((w64 (x1_4 * (256 : Int))) + (IntKind.i64.wrap (byteAt x1_0 ((w64 (x1_2 + x1_3))).toNat)))) < (((x1_8).length : Nat) : Int) then
            if ((x1_8).getD ((w64 ((w64 (x1_4 * (256 : Int))) + (IntKind.i64.wrap (byteAt x1_0 ((w64 (x1_2 + x1_3))).toNat))))).toNat 0) < (0 : Int) then
              some (.inr ((w64 (x1_3 + (1 : Int))), ((x1_8).getD ((w64 ((w64 (x1_4 * (256 : Int))) + (IntKind.i64.wrap (byteAt x1_0 ((w64 (x1_2 + x1_3))).toNat))))).toNat 0), x1_5, x1_6, true))
            else
              if 0 ≤ ((x1_8).getD ((w64 ((w64 (x1_4 * (256 : Int))) + (IntKind.i64.wrap (byteAt x1_0 ((w64 (x1_2 + x1_3))).toNat))))).toNat 0) ∧ ((x1_8).getD ((w64 ((w64 (x1_4 * (256 : Int))) + (IntKind.i64.wrap (byteAt x1_0 ((w64 (x1_2 + x1_3))).toNat))))).toNat 0) < (((x1_9).length : Nat) : Int) then
                if ((x1_9).getD (((x1_8).getD ((w64 ((w64 (x1_4 * (256 : Int))) + (IntKind.i64.wrap (byteAt x1_0 ((w64 (x1_2 + x1_3))).toNat))))).toNat 0)).toNat 0) ≥ (0 : Int) then
                  some (.inl ((w64 (x1_3 + (1 : Int))), ((x1_8).getD ((w64 ((w64 (x1_4 * (256 : Int))) + (IntKind.i64.wrap (byteAt x1_0 ((w64 (x1_2 + x1_3))).toNat))))).toNat 0), ((x1_9).getD (((x1_8).getD ((w64 ((w64 (x1_4 * (256 : Int))) + (IntKind.i64.wrap (byteAt x1_0 ((w64 (x1_2 + x1_3))).toNat))))).toNat 0)).toNat 0), (w64 ((w64 (x1_2 + x1_3)) + (1 : Int))), (w64 (x1_10 + (1 : Int)))))
                else
                  some (.inl ((w64 (x1_3 + (1 : Int))), ((x1_8).getD ((w64 ((w64 (x1_4 * (256 : Int))) + (IntKind.i64.wrap (byteAt x1_0 ((w64 (x1_2 + x1_3))).toNat))))).toNat 0), x1_5, x1_6, (w64 (x1_10 + (1 : Int)))))
              else none
          else none
        else none
    else
      some (.inr (x1_3, x1_4, x1_5, x1_6, x1_7))
def m_munchscanexamineo_1 (n : Nat) (x1_0 : ByteArray) (x1_1 : Int) (x1_2 : Int) (x1_7 : Bool) (x1_8 : List Int) (x1_9 : List Int) (st : Int × Int × Int × Int × Int) : Option (Int × Int × Int × Int × Bool) := iterM (B_munchscanexamineo_1 n x1_0 x1_1 x1_2 x1_7 x1_8 x1_9) n st
set_option maxRecDepth 100000 in
theorem q_munchscanexamineo_1_0 (n : Nat) (x1_0 : ByteArray) (x1_1 : Int) (x1_2 : Int) (x1_3 : Int) (x1_4 : Int) (x1_5 : Int) (x1_6 : Int) (x1_7 : Bool) (x1_8 : List Int) (x1_9 : List Int) (x1_10 : Int) (hy1_1 : x1_10 < x1_1) (hy1_2 : m_munchscanext n x1_2 x1_3 x1_4 x1_5 x1_6 x1_7 = some ()) (hy1_3 : (w64 (x1_2 + x1_3)) = (((x1_0).size : Nat) : Int)) : CG P none (fnN P 32) 2 (codeOf P 32 [false, false, true, false, true, false, true]) (S_munchscanexamineo_1 x1_0 x1_1 x1_2 x1_7 x1_8 x1_9 (x1_3, x1_4, x1_5, x1_6, x1_10)) (X_munchscanexamineo_1 x1_0 x1_1 x1_2 x1_7 x1_8 x1_9 ((w64 (x1_3 + (1 : Int))), x1_4, x1_5, x1_6, true)) :=
  runC_ok hm (A := aT [(4, .val (.bool true)), (10, .call ⟨0, [], (V_munchscanext x1_2 x1_3 x1_4 x1_5 x1_6 x1_7 ()), (R_munchscanext x1_2 x1_3 x1_4 x1_5 x1_6 x1_7 ()), []⟩), (23, .val (.bool true))]) (L := lT []) (wk := ⟨[4, 8], [(2, 2, false), (3, 4, false)], 4, 2⟩)
    (ps := [(Value.bool (decide (x1_10 < x1_1))) = (Value.bool true),
    G_munchscanext x1_2 x1_3 x1_4 x1_5 x1_6 x1_7 (),
    (Value.bool ((w64 (x1_2 + x1_3)) == (((x1_0).size : Nat) : Int))) = (Value.bool true)]) (by kernel_rfl) ⟨(vbT hy1_1), (m_munchscanext_ok n x1_2 x1_3 x1_4 x1_5 x1_6 x1_7 () hy1_2), (veT hy1_3), trivial⟩
set_option maxRecDepth 100000 in
theorem q_munchscanexamineo_1_1 (n : Nat) (x1_0 : ByteArray) (x1_1 : Int) (x1_2 : Int) (x1_3 : Int) (x1_4 : Int) (x1_5 : Int) (x1_6 : Int) (x1_7 : Bool) (x1_8 : List Int) (x1_9 : List Int) (x1_10 : Int) (hy1_1 : x1_10 < x1_1) (hy1_2 : m_munchscanext n x1_2 x1_3 x1_4 x1_5 x1_6 x1_7 = some ()) (hy1_3 : ¬ ((w64 (x1_2 + x1_3)) = (((x1_0).size : Nat) : Int))) (hy1_4 : 0 ≤ (w64 (x1_2 + x1_3)) ∧ (w64 (x1_2 + x1_3)) < (((x1_0).size : Nat) : Int)) (hy1_5 : 0 ≤ (w64 ((w64 (x1_4 * (256 : Int))) + (IntKind.i64.wrap (byteAt x1_0 ((w64 (x1_2 + x1_3))).toNat)))) ∧ (w64 ((w64 (x1_4 * (256 : Int))) + (IntKind.i64.wrap (byteAt x1_0 ((w64 (x1_2 + x1_3))).toNat)))) < (((x1_8).length : Nat) : Int)) (hy1_6 : ((x1_8).getD ((w64 ((w64 (x1_4 * (256 : Int))) + (IntKind.i64.wrap (byteAt x1_0 ((w64 (x1_2 + x1_3))).toNat))))).toNat 0) < (0 : Int)) : CG P none (fnN P 32) 2 (codeOf P 32 [false, false, true, false, true, false, true]) (S_munchscanexamineo_1 x1_0 x1_1 x1_2 x1_7 x1_8 x1_9 (x1_3, x1_4, x1_5, x1_6, x1_10)) (X_munchscanexamineo_1 x1_0 x1_1 x1_2 x1_7 x1_8 x1_9 ((w64 (x1_3 + (1 : Int))), ((x1_8).getD ((w64 ((w64 (x1_4 * (256 : Int))) + (IntKind.i64.wrap (byteAt x1_0 ((w64 (x1_2 + x1_3))).toNat))))).toNat 0), x1_5, x1_6, true)) :=
  runC_ok hm (A := aT [(4, .val (.bool true)), (10, .call ⟨0, [], (V_munchscanext x1_2 x1_3 x1_4 x1_5 x1_6 x1_7 ()), (R_munchscanext x1_2 x1_3 x1_4 x1_5 x1_6 x1_7 ()), []⟩), (23, .val (.bool false)), (33, .pur (Value.int .u8 (byteAt x1_0 ((w64 (x1_2 + x1_3))).toNat))), (36, .pur (Value.pointer (some ⟨0, ((w64 ((w64 (x1_4 * (256 : Int))) + (IntKind.i64.wrap (byteAt x1_0 ((w64 (x1_2 + x1_3))).toNat))))).toNat, none⟩))), (37, .ld (Value.int .i64 ((x1_8).getD ((w64 ((w64 (x1_4 * (256 : Int))) + (IntKind.i64.wrap (byteAt x1_0 ((w64 (x1_2 + x1_3))).toNat))))).toNat 0))), (44, .val (.bool true))]) (L := lT []) (wk := ⟨[4, 8], [(2, 2, false), (3, 4, false)], 4, 2⟩)
    (ps := [(Value.bool (decide (x1_10 < x1_1))) = (Value.bool true),
    G_munchscanext x1_2 x1_3 x1_4 x1_5 x1_6 x1_7 (),
    (Value.bool ((w64 (x1_2 + x1_3)) == (((x1_0).size : Nat) : Int))) = (Value.bool false),
    opIndex P 9 (Value.string x1_0) (Value.int .i64 (w64 (x1_2 + x1_3))) Ax.h0 = some ((Value.int .u8 (byteAt x1_0 ((w64 (x1_2 + x1_3))).toNat)), Ax.h0),
    opIndexAddr P 22 (Value.slice (some ⟨0, 0, none⟩) (x1_8).length (Nat.add big 1)) (Value.int .i64 (w64 ((w64 (x1_4 * (256 : Int))) + (IntKind.i64.wrap (byteAt x1_0 ((w64 (x1_2 + x1_3))).toNat))))) Ax.h0 = some ((Value.pointer (some ⟨0, ((w64 ((w64 (x1_4 * (256 : Int))) + (IntKind.i64.wrap (byteAt x1_0 ((w64 (x1_2 + x1_3))).toNat))))).toNat, none⟩)), Ax.h0),
    (layT (iv x1_8)).get ((w64 ((w64 (x1_4 * (256 : Int))) + (IntKind.i64.wrap (byteAt x1_0 ((w64 (x1_2 + x1_3))).toNat))))).toNat = some (Value.int .i64 ((x1_8).getD ((w64 ((w64 (x1_4 * (256 : Int))) + (IntKind.i64.wrap (byteAt x1_0 ((w64 (x1_2 + x1_3))).toNat))))).toNat 0)),
    (Value.bool (decide (((x1_8).getD ((w64 ((w64 (x1_4 * (256 : Int))) + (IntKind.i64.wrap (byteAt x1_0 ((w64 (x1_2 + x1_3))).toNat))))).toNat 0) < (0 : Int)))) = (Value.bool true)]) (by kernel_rfl) ⟨(vbT hy1_1), (m_munchscanext_ok n x1_2 x1_3 x1_4 x1_5 x1_6 x1_7 () hy1_2), (veF hy1_3), (ixStr (by kernel_rfl) hy1_4), (ixS1 (e := 3) (by kernel_rfl) (by kernel_rfl) hy1_5), (iv_ld _ _ (toNatLt hy1_5)), (vbT hy1_6), trivial⟩
set_option maxRecDepth 100000 in
theorem q_munchscanexamineo_1_2 (n : Nat) (x1_0 : ByteArray) (x1_1 : Int) (x1_2 : Int) (x1_3 : Int) (x1_4 : Int) (x1_5 : Int) (x1_6 : Int) (x1_7 : Bool) (x1_8 : List Int) (x1_9 : List Int) (x1_10 : Int) (hy1_1 : x1_10 < x1_1) (hy1_2 : m_munchscanext n x1_2 x1_3 x1_4 x1_5 x1_6 x1_7 = some ()) (hy1_3 : ¬ ((w64 (x1_2 + x1_3)) = (((x1_0).size : Nat) : Int))) (hy1_4 : 0 ≤ (w64 (x1_2 + x1_3)) ∧ (w64 (x1_2 + x1_3)) < (((x1_0).size : Nat) : Int)) (hy1_5 : 0 ≤ (w64 ((w64 (x1_4 * (256 : Int))) + (IntKind.i64.wrap (byteAt x1_0 ((w64 (x1_2 + x1_3))).toNat)))) ∧ (w64 ((w64 (x1_4 * (256 : Int))) + (IntKind.i64.wrap (byteAt x1_0 ((w64 (x1_2 + x1_3))).toNat)))) < (((x1_8).length : Nat) : Int)) (hy1_6 : ¬ (((x1_8).getD ((w64 ((w64 (x1_4 * (256 : Int))) + (IntKind.i64.wrap (byteAt x1_0 ((w64 (x1_2 + x1_3))).toNat))))).toNat 0) < (0 : Int))) (hy1_7 : 0 ≤ ((x1_8).getD ((w64 ((w64 (x1_4 * (256 : Int))) + (IntKind.i64.wrap (byteAt x1_0 ((w64 (x1_2 + x1_3))).toNat))))).toNat 0) ∧ ((x1_8).getD ((w64 ((w64 (x1_4 * (256 : Int))) + (IntKind.i64.wrap (byteAt x1_0 ((w64 (x1_2 + x1_3))).toNat))))).toNat 0) < (((x1_9).length : Nat) : Int)) (hy1_8 : ((x1_9).getD (((x1_8).getD ((w64 ((w64 (x1_4 * (256 : Int))) + (IntKind.i64.wrap (byteAt x1_0 ((w64 (x1_2 + x1_3))).toNat))))).toNat 0)).toNat 0) ≥ (0 : Int)) : CG P none (fnN P 32) 2 (codeOf P 32 [false, false, true, false, true, false, true]) (S_munchscanexamineo_1 x1_0 x1_1 x1_2 x1_7 x1_8 x1_9 (x1_3, x1_4, x1_5, x1_6, x1_10)) (.normal, S_munchscanexamineo_1 x1_0 x1_1 x1_2 x1_7 x1_8 x1_9 ((w64 (x1_3 + (1 : Int))), ((x1_8).getD ((w64 ((w64 (x1_4 * (256 : Int))) + (IntKind.i64.wrap (byteAt x1_0 ((w64 (x1_2 + x1_3))).toNat))))).toNat 0), ((x1_9).getD (((x1_8).getD ((w64 ((w64 (x1_4 * (256 : Int))) + (IntKind.i64.wrap (byteAt x1_0 ((w64 (x1_2 + x1_3))).toNat))))).toNat 0)).toNat 0), (w64 ((w64 (x1_2 + x1_3)) + (1 : Int))), (w64 (x1_10 + (1 : Int))))) :=
  runC_ok hm (A := aT [(4, .val (.bool true)), (10, .call ⟨0, [], (V_munchscanext x1_2 x1_3 x1_4 x1_5 x1_6 x1_7 ()), (R_munchscanext x1_2 x1_3 x1_4 x1_5 x1_6 x1_7 ()), []⟩), (23, .val (.bool false)), (33, .pur (Value.int .u8 (byteAt x1_0 ((w64 (x1_2 + x1_3))).toNat))), (36, .pur (Value.pointer (some ⟨0, ((w64 ((w64 (x1_4 * (256 : Int))) + (IntKind.i64.wrap (byteAt x1_0 ((w64 (x1_2 + x1_3))).toNat))))).toNat, none⟩))), (37, .ld (Value.int .i64 ((x1_8).getD ((w64 ((w64 (x1_4 * (256 : Int))) + (IntKind.i64.wrap (byteAt x1_0 ((w64 (x1_2 + x1_3))).toNat))))).toNat 0))), (44, .val (.bool false)), (52, .pur (Value.pointer (some ⟨1, (((x1_8).getD ((w64 ((w64 (x1_4 * (256 : Int))) + (IntKind.i64.wrap (byteAt x1_0 ((w64 (x1_2 + x1_3))).toNat))))).toNat 0)).toNat, none⟩))), (53, .ld (Value.int .i64 ((x1_9).getD (((x1_8).getD ((w64 ((w64 (x1_4 * (256 : Int))) + (IntKind.i64.wrap (byteAt x1_0 ((w64 (x1_2 + x1_3))).toNat))))).toNat 0)).toNat 0))), (54, .val (.bool true)), (61, .pur (Value.pointer (some ⟨1, (((x1_8).getD ((w64 ((w64 (x1_4 * (256 : Int))) + (IntKind.i64.wrap (byteAt x1_0 ((w64 (x1_2 + x1_3))).toNat))))).toNat 0)).toNat, none⟩))), (62, .ld (Value.int .i64 ((x1_9).getD (((x1_8).getD ((w64 ((w64 (x1_4 * (256 : Int))) + (IntKind.i64.wrap (byteAt x1_0 ((w64 (x1_2 + x1_3))).toNat))))).toNat 0)).toNat 0)))]) (L := lT []) (wk := ⟨[2, 3, 4, 5, 8, 9], [(0, 0, true), (1, 1, true), (2, 2, false), (3, 3, false), (4, 4, false)], 5, 2⟩)
    (ps := [(Value.bool (decide (x1_10 < x1_1))) = (Value.bool true),
    G_munchscanext x1_2 x1_3 x1_4 x1_5 x1_6 x1_7 (),
    (Value.bool ((w64 (x1_2 + x1_3)) == (((x1_0).size : Nat) : Int))) = (Value.bool false),
    opIndex P 9 (Value.string x1_0) (Value.int .i64 (w64 (x1_2 + x1_3))) Ax.h0 = some ((Value.int .u8 (byteAt x1_0 ((w64 (x1_2 + x1_3))).toNat)), Ax.h0),
    opIndexAddr P 22 (Value.slice (some ⟨0, 0, none⟩) (x1_8).length (Nat.add big 1)) (Value.int .i64 (w64 ((w64 (x1_4 * (256 : Int))) + (IntKind.i64.wrap (byteAt x1_0 ((w64 (x1_2 + x1_3))).toNat))))) Ax.h0 = some ((Value.pointer (some ⟨0, ((w64 ((w64 (x1_4 * (256 : Int))) + (IntKind.i64.wrap (byteAt x1_0 ((w64 (x1_2 + x1_3))).toNat))))).toNat, none⟩)), Ax.h0),
    (layT (iv x1_8)).get ((w64 ((w64 (x1_4 * (256 : Int))) + (IntKind.i64.wrap (byteAt x1_0 ((w64 (x1_2 + x1_3))).toNat))))).toNat = some (Value.int .i64 ((x1_8).getD ((w64 ((w64 (x1_4 * (256 : Int))) + (IntKind.i64.wrap (byteAt x1_0 ((w64 (x1_2 + x1_3))).toNat))))).toNat 0)),
    (Value.bool (decide (((x1_8).getD ((w64 ((w64 (x1_4 * (256 : Int))) + (IntKind.i64.wrap (byteAt x1_0 ((w64 (x1_2 + x1_3))).toNat))))).toNat 0) < (0 : Int)))) = (Value.bool false),
    opIndexAddr P 22 (Value.slice (some ⟨1, 0, none⟩) (x1_9).length (Nat.add big 1)) (Value.int .i64 ((x1_8).getD ((w64 ((w64 (x1_4 * (256 : Int))) + (IntKind.i64.wrap (byteAt x1_0 ((w64 (x1_2 + x1_3))).toNat))))).toNat 0)) Ax.h0 = some ((Value.pointer (some ⟨1, (((x1_8).getD ((w64 ((w64 (x1_4 * (256 : Int))) + (IntKind.i64.wrap (byteAt x1_0 ((w64 (x1_2 + x1_3))).toNat))))).toNat 0)).toNat, none⟩)), Ax.h0),
    (layT (iv x1_9)).get (((x1_8).getD ((w64 ((w64 (x1_4 * (256 : Int))) + (IntKind.i64.wrap (byteAt x1_0 ((w64 (x1_2 + x1_3))).toNat))))).toNat 0)).toNat = some (Value.int .i64 ((x1_9).getD (((x1_8).getD ((w64 ((w64 (x1_4 * (256 : Int))) + (IntKind.i64.wrap (byteAt x1_0 ((w64 (x1_2 + x1_3))).toNat))))).toNat 0)).toNat 0)),
    (Value.bool (decide (((x1_9).getD (((x1_8).getD ((w64 ((w64 (x1_4 * (256 : Int))) + (IntKind.i64.wrap (byteAt x1_0 ((w64 (x1_2 + x1_3))).toNat))))).toNat 0)).toNat 0) ≥ (0 : Int)))) = (Value.bool true),
    opIndexAddr P 22 (Value.slice (some ⟨1, 0, none⟩) (x1_9).length (Nat.add big 1)) (Value.int .i64 ((x1_8).getD ((w64 ((w64 (x1_4 * (256 : Int))) + (IntKind.i64.wrap (byteAt x1_0 ((w64 (x1_2 + x1_3))).toNat))))).toNat 0)) Ax.h0 = some ((Value.pointer (some ⟨1, (((x1_8).getD ((w64 ((w64 (x1_4 * (256 : Int))) + (IntKind.i64.wrap (byteAt x1_0 ((w64 (x1_2 + x1_3))).toNat))))).toNat 0)).toNat, none⟩)), Ax.h0),
    (layT (iv x1_9)).get (((x1_8).getD ((w64 ((w64 (x1_4 * (256 : Int))) + (IntKind.i64.wrap (byteAt x1_0 ((w64 (x1_2 + x1_3))).toNat))))).toNat 0)).toNat = some (Value.int .i64 ((x1_9).getD (((x1_8).getD ((w64 ((w64 (x1_4 * (256 : Int))) + (IntKind.i64.wrap (byteAt x1_0 ((w64 (x1_2 + x1_3))).toNat))))).toNat 0)).toNat 0)),
    FlatB (.cells (layT (iv x1_8)) 3),
    FlatB (.cells (layT (iv x1_9)) 3)]) (by kernel_rfl) ⟨(vbT hy1_1), (m_munchscanext_ok n x1_2 x1_3 x1_4 x1_5 x1_6 x1_7 () hy1_2), (veF hy1_3), (ixStr (by kernel_rfl) hy1_4), (ixS1 (e := 3) (by kernel_rfl) (by kernel_rfl) hy1_5), (iv_ld _ _ (toNatLt hy1_5)), (vbF hy1_6), (ixS1 (e := 3) (by kernel_rfl) (by kernel_rfl) hy1_7), (iv_ld _ _ (toNatLt hy1_7)), (vbT hy1_8), (ixS1 (e := 3) (by kernel_rfl) (by kernel_rfl) hy1_7), (iv_ld _ _ (toNatLt hy1_7)), (iv_flat _ _), (iv_flat _ _), trivial⟩
set_option maxRecDepth 100000 in
theorem q_munchscanexamineo_1_3 (n : Nat) (x1_0 : ByteArray) (x1_1 : Int) (x1_2 : Int) (x1_3 : Int) (x1_4 : Int) (x1_5 : Int) (x1_6 : Int) (x1_7 : Bool) (x1_8 : List Int) (x1_9 : List Int) (x1_10 : Int) (hy1_1 : x1_10 < x1_1) (hy1_2 : m_munchscanext n x1_2 x1_3 x1_4 x1_5 x1_6 x1_7 = some ()) (hy1_3 : ¬ ((w64 (x1_2 + x1_3)) = (((x1_0).size : Nat) : Int))) (hy1_4 : 0 ≤ (w64 (x1_2 + x1_3)) ∧ (w64 (x1_2 + x1_3)) < (((x1_0).size : Nat) : Int)) (hy1_5 : 0 ≤ (w64 ((w64 (x1_4 * (256 : Int))) + (IntKind.i64.wrap (byteAt x1_0 ((w64 (x1_2 + x1_3))).toNat)))) ∧ (w64 ((w64 (x1_4 * (256 : Int))) + (IntKind.i64.wrap (byteAt x1_0 ((w64 (x1_2 + x1_3))).toNat)))) < (((x1_8).length : Nat) : Int)) (hy1_6 : ¬ (((x1_8).getD ((w64 ((w64 (x1_4 * (256 : Int))) + (IntKind.i64.wrap (byteAt x1_0 ((w64 (x1_2 + x1_3))).toNat))))).toNat 0) < (0 : Int))) (hy1_7 : 0 ≤ ((x1_8).getD ((w64 ((w64 (x1_4 * (256 : Int))) + (IntKind.i64.wrap (byteAt x1_0 ((w64 (x1_2 + x1_3))).toNat))))).toNat 0) ∧ ((x1_8).getD ((w64 ((w64 (x1_4 * (256 : Int))) + (IntKind.i64.wrap (byteAt x1_0 ((w64 (x1_2 + x1_3))).toNat))))).toNat 0) < (((x1_9).length : Nat) : Int)) (hy1_8 : ¬ (((x1_9).getD (((x1_8).getD ((w64 ((w64 (x1_4 * (256 : Int))) + (IntKind.i64.wrap (byteAt x1_0 ((w64 (x1_2 + x1_3))).toNat))))).toNat 0)).toNat 0) ≥ (0 : Int))) : CG P none (fnN P 32) 2 (codeOf P 32 [false, false, true, false, true, false, true]) (S_munchscanexamineo_1 x1_0 x1_1 x1_2 x1_7 x1_8 x1_9 (x1_3, x1_4, x1_5, x1_6, x1_10)) (.normal, S_munchscanexamineo_1 x1_0 x1_1 x1_2 x1_7 x1_8 x1_9 ((w64 (x1_3 + (1 : Int))), ((x1_8).getD ((w64 ((w64 (x1_4 * (256 : Int))) + (IntKind.i64.wrap (byteAt x1_0 ((w64 (x1_2 + x1_3))).toNat))))).toNat 0), x1_5, x1_6, (w64 (x1_10 + (1 : Int))))) :=
  runC_ok hm (A := aT [(4, .val (.bool true)), (10, .call ⟨0, [], (V_munchscanext x1_2 x1_3 x1_4 x1_5 x1_6 x1_7 ()), (R_munchscanext x1_2 x1_3 x1_4 x1_5 x1_6 x1_7 ()), []⟩), (23, .val (.bool false)), (33, .pur (Value.int .u8 (byteAt x1_0 ((w64 (x1_2 + x1_3))).toNat))), (36, .pur (Value.pointer (some ⟨0, ((w64 ((w64 (x1_4 * (256 : Int))) + (IntKind.i64.wrap (byteAt x1_0 ((w64 (x1_2 + x1_3))).toNat))))).toNat, none⟩))), (37, .ld (Value.int .i64 ((x1_8).getD ((w64 ((w64 (x1_4 * (256 : Int))) + (IntKind.i64.wrap (byteAt x1_0 ((w64 (x1_2 + x1_3))).toNat))))).toNat 0))), (44, .val (.bool false)), (52, .pur (Value.pointer (some ⟨1, (((x1_8).getD ((w64 ((w64 (x1_4 * (256 : Int))) + (IntKind.i64.wrap (byteAt x1_0 ((w64 (x1_2 + x1_3))).toNat))))).toNat 0)).toNat, none⟩))), (53, .ld (Value.int .i64 ((x1_9).getD (((x1_8).getD ((w64 ((w64 (x1_4 * (256 : Int))) + (IntKind.i64.wrap (byteAt x1_0 ((w64 (x1_2 + x1_3))).toNat))))).toNat 0)).toNat 0))), (54, .val (.bool false))]) (L := lT []) (wk := ⟨[2, 3, 4, 5, 8, 9], [(0, 0, true), (1, 1, true), (2, 2, false), (3, 3, false), (4, 4, false)], 5, 2⟩)
    (ps := [(Value.bool (decide (x1_10 < x1_1))) = (Value.bool true),
    G_munchscanext x1_2 x1_3 x1_4 x1_5 x1_6 x1_7 (),
    (Value.bool ((w64 (x1_2 + x1_3)) == (((x1_0).size : Nat) : Int))) = (Value.bool false),
    opIndex P 9 (Value.string x1_0) (Value.int .i64 (w64 (x1_2 + x1_3))) Ax.h0 = some ((Value.int .u8 (byteAt x1_0 ((w64 (x1_2 + x1_3))).toNat)), Ax.h0),
    opIndexAddr P 22 (Value.slice (some ⟨0, 0, none⟩) (x1_8).length (Nat.add big 1)) (Value.int .i64 (w64 ((w64 (x1_4 * (256 : Int))) + (IntKind.i64.wrap (byteAt x1_0 ((w64 (x1_2 + x1_3))).toNat))))) Ax.h0 = some ((Value.pointer (some ⟨0, ((w64 ((w64 (x1_4 * (256 : Int))) + (IntKind.i64.wrap (byteAt x1_0 ((w64 (x1_2 + x1_3))).toNat))))).toNat, none⟩)), Ax.h0),
    (layT (iv x1_8)).get ((w64 ((w64 (x1_4 * (256 : Int))) + (IntKind.i64.wrap (byteAt x1_0 ((w64 (x1_2 + x1_3))).toNat))))).toNat = some (Value.int .i64 ((x1_8).getD ((w64 ((w64 (x1_4 * (256 : Int))) + (IntKind.i64.wrap (byteAt x1_0 ((w64 (x1_2 + x1_3))).toNat))))).toNat 0)),
    (Value.bool (decide (((x1_8).getD ((w64 ((w64 (x1_4 * (256 : Int))) + (IntKind.i64.wrap (byteAt x1_0 ((w64 (x1_2 + x1_3))).toNat))))).toNat 0) < (0 : Int)))) = (Value.bool false),
    opIndexAddr P 22 (Value.slice (some ⟨1, 0, none⟩) (x1_9).length (Nat.add big 1)) (Value.int .i64 ((x1_8).getD ((w64 ((w64 (x1_4 * (256 : Int))) + (IntKind.i64.wrap (byteAt x1_0 ((w64 (x1_2 + x1_3))).toNat))))).toNat 0)) Ax.h0 = some ((Value.pointer (some ⟨1, (((x1_8).getD ((w64 ((w64 (x1_4 * (256 : Int))) + (IntKind.i64.wrap (byteAt x1_0 ((w64 (x1_2 + x1_3))).toNat))))).toNat 0)).toNat, none⟩)), Ax.h0),
    (layT (iv x1_9)).get (((x1_8).getD ((w64 ((w64 (x1_4 * (256 : Int))) + (IntKind.i64.wrap (byteAt x1_0 ((w64 (x1_2 + x1_3))).toNat))))).toNat 0)).toNat = some (Value.int .i64 ((x1_9).getD (((x1_8).getD ((w64 ((w64 (x1_4 * (256 : Int))) + (IntKind.i64.wrap (byteAt x1_0 ((w64 (x1_2 + x1_3))).toNat))))).toNat 0)).toNat 0)),
    (Value.bool (decide (((x1_9).getD (((x1_8).getD ((w64 ((w64 (x1_4 * (256 : Int))) + (IntKind.i64.wrap (byteAt x1_0 ((w64 (x1_2 + x1_3))).toNat))))).toNat 0)).toNat 0) ≥ (0 : Int)))) = (Value.bool false),
    FlatB (.cells (layT (iv x1_8)) 3),
    FlatB (.cells (layT (iv x1_9)) 3)]) (by kernel_rfl) ⟨(vbT hy1_1), (m_munchscanext_ok n x1_2 x1_3 x1_4 x1_5 x1_6 x1_7 () hy1_2), (veF hy1_3), (ixStr (by kernel_rfl) hy1_4), (ixS1 (e := 3) (by kernel_rfl) (by kernel_rfl) hy1_5), (iv_ld _ _ (toNatLt hy1_5)), (vbF hy1_6), (ixS1 (e := 3) (by kernel_rfl) (by kernel_rfl) hy1_7), (iv_ld _ _ (toNatLt hy1_7)), (vbF hy1_8), (iv_flat _ _), (iv_flat _ _), trivial⟩
set_option maxRecDepth 100000 in
theorem q_munchscanexamineo_1_4 (n : Nat) (x1_0 : ByteArray) (x1_1 : Int) (x1_2 : Int) (x1_3 : Int) (x1_4 : Int) (x1_5 : Int) (x1_6 : Int) (x1_7 : Bool) (x1_8 : List Int) (x1_9 : List Int) (x1_10 : Int) (hy1_1 : ¬ (x1_10 < x1_1)) : CG P none (fnN P 32) 2 (codeOf P 32 [false, false, true, false, true, false, true]) (S_munchscanexamineo_1 x1_0 x1_1 x1_2 x1_7 x1_8 x1_9 (x1_3, x1_4, x1_5, x1_6, x1_10)) (X_munchscanexamineo_1 x1_0 x1_1 x1_2 x1_7 x1_8 x1_9 (x1_3, x1_4, x1_5, x1_6, x1_7)) :=
  runC_ok hm (A := aT [(4, .val (.bool false))]) (L := lT []) (wk := ⟨[4, 8], [(2, 2, false), (3, 4, false)], 4, 2⟩)
    (ps := [(Value.bool (decide (x1_10 < x1_1))) = (Value.bool false)]) (by kernel_rfl) ⟨(vbF hy1_1), trivial⟩
theorem m_munchscanexamineo_1_ok (n : Nat) (x1_0 : ByteArray) (x1_1 : Int) (x1_2 : Int) (x1_7 : Bool) (x1_8 : List Int) (x1_9 : List Int) (st : Int × Int × Int × Int × Int) (r : Int × Int × Int × Int × Bool) (h : m_munchscanexamineo_1 n x1_0 x1_1 x1_2 x1_7 x1_8 x1_9 st = some r) : CG P none (fnN P 32) 2 (codeOf P 32 [false, true, false, true, false, true]) (S_munchscanexamineo_1 x1_0 x1_1 x1_2 x1_7 x1_8 x1_9 st) (X_munchscanexamineo_1 x1_0 x1_1 x1_2 x1_7 x1_8 x1_9 r) :=
  CG.iter (b := codeOf P 32 [false, false, true, false, true, false, true]) (by kernel_rfl) (body := B_munchscanexamineo_1 n x1_0 x1_1 x1_2 x1_7 x1_8 x1_9) (S := S_munchscanexamineo_1 x1_0 x1_1 x1_2 x1_7 x1_8 x1_9) (X := X_munchscanexamineo_1 x1_0 x1_1 x1_2 x1_7 x1_8 x1_9)
    (fun s s' h => by
    obtain ⟨x1_3, x1_4, x1_5, x1_6, x1_10⟩ := s
    unfold B_munchscanexamineo_1 at h
    dsimp only at h
    by_cases hy1_1 : x1_10 < x1_1
    · rw [if_pos hy1_1] at h
      obtain ⟨_, hy1_2, h⟩ := Option.bind_eq_some_iff.1 h
      by_cases hy1_3 : (w64 (x1_2 + x1_3)) = (((x1_0).size : Nat) : Int)
      · rw [if_pos hy1_3] at h
        cases h
      · rw [if_neg hy1_3] at h
        by_cases hy1_4 : 0 ≤ (w64 (x1_2 + x1_3)) ∧ (w64 (x1_2 + x1_3)) < (((x1_0).size : Nat) : Int)
        · rw [if_pos hy1_4] at h
          by_cases hy1_5 : 0 ≤ (w64 ((w64 (x1_4 * (256 : Int))) + (IntKind.i64.wrap (byteAt x1_0 ((w64 (x1_2 + x1_3))).toNat)))) ∧ (w64 ((w64 (x1_4 * (256 : Int))) + (IntKind.i64.wrap (byteAt x1_0 ((w64 (x1_2 + x1_3))).toNat)))) < (((x1_8).length : Nat) : Int)
          · rw [if_pos hy1_5] at h
            by_cases hy1_6 : ((x1_8).getD ((w64 ((w64 (x1_4 * (256 : Int))) + (IntKind.i64.wrap (byteAt x1_0 ((w64 (x1_2 + x1_3))).toNat))))).toNat 0) < (0 : Int)
            · rw [if_pos hy1_6] at h
              cases h
            · rw [if_neg hy1_6] at h
              by_cases hy1_7 : 0 ≤ ((x1_8).getD ((w64 ((w64 (x1_4 * (256 : Int))) + (IntKind.i64.wrap (byteAt x1_0 ((w64 (x1_2 + x1_3))).toNat))))).toNat 0) ∧ ((x1_8).getD ((w64 ((w64 (x1_4 * (256 : Int))) + (IntKind.i64.wrap (byteAt x1_0 ((w64 (x1_2 + x1_3))).toNat))))).toNat 0) < (((x1_9).length : Nat) : Int)
              · rw [if_pos hy1_7] at h
                by_cases hy1_8 : ((x1_9).getD (((x1_8).getD ((w64 ((w64 (x1_4 * (256 : Int))) + (IntKind.i64.wrap (byteAt x1_0 ((w64 (x1_2 + x1_3))).toNat))))).toNat 0)).toNat 0) ≥ (0 : Int)
                · rw [if_pos hy1_8] at h
                  obtain rfl := Sum.inl.inj (Option.some.inj h); exact q_munchscanexamineo_1_2 n x1_0 x1_1 x1_2 x1_3 x1_4 x1_5 x1_6 x1_7 x1_8 x1_9 x1_10 hy1_1 hy1_2 hy1_3 hy1_4 hy1_5 hy1_6 hy1_7 hy1_8
                · rw [if_neg hy1_8] at h
                  obtain rfl := Sum.inl.inj (Option.some.inj h); exact q_munchscanexamineo_1_3 n x1_0 x1_1 x1_2 x1_3 x1_4 x1_5 x1_6 x1_7 x1_8 x1_9 x1_10 hy1_1 hy1_2 hy1_3 hy1_4 hy1_5 hy1_6 hy1_7 hy1_8
              · rw [if_neg hy1_7] at h; cases h
          · rw [if_neg hy1_5] at h; cases h
        · rw [if_neg hy1_4] at h; cases h
    · rw [if_neg hy1_1] at h
      cases h)
    (fun s r h => by
    obtain ⟨x1_3, x1_4, x1_5, x1_6, x1_10⟩ := s
    unfold B_munchscanexamineo_1 at h
    dsimp only at h
    by_cases hy1_1 : x1_10 < x1_1
    · rw [if_pos hy1_1] at h
      obtain ⟨_, hy1_2, h⟩ := Option.bind_eq_some_iff.1 h
      by_cases hy1_3 : (w64 (x1_2 + x1_3)) = (((x1_0).size : Nat) : Int)
      · rw [if_pos hy1_3] at h
        obtain rfl := Sum.inr.inj (Option.some.inj h); exact q_munchscanexamineo_1_0 n x1_0 x1_1 x1_2 x1_3 x1_4 x1_5 x1_6 x1_7 x1_8 x1_9 x1_10 hy1_1 hy1_2 hy1_3
      · rw [if_neg hy1_3] at h
        by_cases hy1_4 : 0 ≤ (w64 (x1_2 + x1_3)) ∧ (w64 (x1_2 + x1_3)) < (((x1_0).size : Nat) : Int)
        · rw [if_pos hy1_4] at h
          by_cases hy1_5 : 0 ≤ (w64 ((w64 (x1_4 * (256 : Int))) + (IntKind.i64.wrap (byteAt x1_0 ((w64 (x1_2 + x1_3))).toNat)))) ∧ (w64 ((w64 (x1_4 * (256 : Int))) + (IntKind.i64.wrap (byteAt x1_0 ((w64 (x1_2 + x1_3))).toNat)))) < (((x1_8).length : Nat) : Int)
          · rw [if_pos hy1_5] at h
            by_cases hy1_6 : ((x1_8).getD ((w64 ((w64 (x1_4 * (256 : Int))) + (IntKind.i64.wrap (byteAt x1_0 ((w64 (x1_2 + x1_3))).toNat))))).toNat 0) < (0 : Int)
            · rw [if_pos hy1_6] at h
              obtain rfl := Sum.inr.inj (Option.some.inj h); exact q_munchscanexamineo_1_1 n x1_0 x1_1 x1_2 x1_3 x1_4 x1_5 x1_6 x1_7 x1_8 x1_9 x1_10 hy1_1 hy1_2 hy1_3 hy1_4 hy1_5 hy1_6
            · rw [if_neg hy1_6] at h
              by_cases hy1_7 : 0 ≤ ((x1_8).getD ((w64 ((w64 (x1_4 * (256 : Int))) + (IntKind.i64.wrap (byteAt x1_0 ((w64 (x1_2 + x1_3))).toNat))))).toNat 0) ∧ ((x1_8).getD ((w64 ((w64 (x1_4 * (256 : Int))) + (IntKind.i64.wrap (byteAt x1_0 ((w64 (x1_2 + x1_3))).toNat))))).toNat 0) < (((x1_9).length : Nat) : Int)
              · rw [if_pos hy1_7] at h
                by_cases hy1_8 : ((x1_9).getD (((x1_8).getD ((w64 ((w64 (x1_4 * (256 : Int))) + (IntKind.i64.wrap (byteAt x1_0 ((w64 (x1_2 + x1_3))).toNat))))).toNat 0)).toNat 0) ≥ (0 : Int)
                · rw [if_pos hy1_8] at h
                  cases h
                · rw [if_neg hy1_8] at h
                  cases h
              · rw [if_neg hy1_7] at h; cases h
          · rw [if_neg hy1_5] at h; cases h
        · rw [if_neg hy1_4] at h; cases h
    · rw [if_neg hy1_1] at h
      obtain rfl := Sum.inr.inj (Option.some.inj h); exact q_munchscanexamineo_1_4 n x1_0 x1_1 x1_2 x1_3 x1_4 x1_5 x1_6 x1_7 x1_8 x1_9 x1_10 hy1_1)
    (fun r => by intro hx; cases hx) h
noncomputable def A_munchscanexamineo (L : List Int) (K : List Int) (sf : Int) (sp : Int) (sq : Int) (sr : Int) (st : Int) (sd : Bool) (x : ByteArray) (m : Int) : List Value := [(Value.agg #[(Value.int .i64 sf), (Value.int .i64 sp), (Value.int .i64 sq), (Value.int .i64 sr), (Value.int .i64 st), (Value.bool sd)]), (Value.agg #[(Value.slice (some ⟨0, 0, none⟩) (L).length (Nat.add big 1)), (Value.slice (some ⟨1, 0, none⟩) (K).length (Nat.add big 1))]), (Value.string x), (Value.int .i64 m)]
noncomputable def H_munchscanexamineo (L : List Int) (K : List Int) (sf : Int) (sp : Int) (sq : Int) (sr : Int) (st : Int) (sd : Bool) (x : ByteArray) (m : Int) : AH := ⟨sB [(0, (some (.cells (layT (iv L)) 3))), (1, (some (.cells (layT (iv K)) 3)))], 2, 2⟩
noncomputable def V_munchscanexamineo (L : List Int) (K : List Int) (sf : Int) (sp : Int) (sq : Int) (sr : Int) (st : Int) (sd : Bool) (x : ByteArray) (m : Int) (r : Int × Int × Int × Int × Bool) : Value := match r with
  | (o0, o1, o2, o3, o4) => (Value.agg #[(Value.int .i64 sf), (Value.int .i64 o0), (Value.int .i64 o1), (Value.int .i64 o2), (Value.int .i64 o3), (Value.bool o4)])
noncomputable def R_munchscanexamineo (L : List Int) (K : List Int) (sf : Int) (sp : Int) (sq : Int) (sr : Int) (st : Int) (sd : Bool) (x : ByteArray) (m : Int) (r : Int × Int × Int × Int × Bool) : AH := match r with
  | (o0, o1, o2, o3, o4) => ⟨sB [(2, (some (.cells (layT [(Value.int .i64 sf), (Value.int .i64 o0), (Value.int .i64 o1), (Value.int .i64 o2), (Value.int .i64 o3), (Value.bool o4)]) 59)))], 3, 2⟩
noncomputable abbrev G_munchscanexamineo (L : List Int) (K : List Int) (sf : Int) (sp : Int) (sq : Int) (sr : Int) (st : Int) (sd : Bool) (x : ByteArray) (m : Int) (r : Int × Int × Int × Int × Bool) : Prop := Gv P (.func 32) (A_munchscanexamineo L K sf sp sq sr st sd x m) (H_munchscanexamineo L K sf sp sq sr st sd x m) (V_munchscanexamineo L K sf sp sq sr st sd x m r) (R_munchscanexamineo L K sf sp sq sr st sd x m r)
def m_munchscanexamineo (n : Nat) (L : List Int) (K : List Int) (sf : Int) (sp : Int) (sq : Int) (sr : Int) (st : Int) (sd : Bool) (x : ByteArray) (m : Int) : Option (Int × Int × Int × Int × Bool) :=
  (m_munchscanexamineo_1 n x m sf sd L K (sp, sq, sr, st, 0)).bind fun t => match t with
  | (c1_0, c1_1, c1_2, c1_3, c1_4) =>
    some (c1_0, c1_1, c1_2, c1_3, c1_4)
set_option maxRecDepth 100000 in
theorem p_munchscanexamineo_0 (n : Nat) (L : List Int) (K : List Int) (sf : Int) (sp : Int) (sq : Int) (sr : Int) (st : Int) (sd : Bool) (x : ByteArray) (m : Int) (c1_0 : Int) (c1_1 : Int) (c1_2 : Int) (c1_3 : Int) (c1_4 : Bool) (hc1 : m_munchscanexamineo_1 n x m sf sd L K (sp, sq, sr, st, 0) = some (c1_0, c1_1, c1_2, c1_3, c1_4)) : G_munchscanexamineo L K sf sp sq sr st sd x m (c1_0, c1_1, c1_2, c1_3, c1_4) :=
  runF_ok hm (A := aT []) (L := lT [(9, ⟨⟨[2, 3, 4, 5, 8, 9], [(0, 0, true), (1, 1, true), (2, 2, false), (3, 3, false), (4, 4, false)], 5, 2⟩, (X_munchscanexamineo_1 x m sf sd L K (c1_0, c1_1, c1_2, c1_3, c1_4)).1, (X_munchscanexamineo_1 x m sf sd L K (c1_0, c1_1, c1_2, c1_3, c1_4)).2⟩)]) (wk := ⟨[8], [(2, 3, false)], 3, 2⟩)
    (ps := [CG P none (fnN P 32) 2 (codeOf P 32 [false, true, false, true, false, true]) (S_munchscanexamineo_1 x m sf sd L K (sp, sq, sr, st, 0)) (X_munchscanexamineo_1 x m sf sd L K (c1_0, c1_1, c1_2, c1_3, c1_4)),
    FlatB (.cells (layT (iv L)) 3),
    FlatB (.cells (layT (iv K)) 3)]) (by kernel_rfl) ⟨(m_munchscanexamineo_1_ok n x m sf sd L K (sp, sq, sr, st, 0) (c1_0, c1_1, c1_2, c1_3, c1_4) hc1), (iv_flat _ _), (iv_flat _ _), trivial⟩
theorem m_munchscanexamineo_ok (n : Nat) (L : List Int) (K : List Int) (sf : Int) (sp : Int) (sq : Int) (sr : Int) (st : Int) (sd : Bool) (x : ByteArray) (m : Int) (r : Int × Int × Int × Int × Bool) (h : m_munchscanexamineo n L K sf sp sq sr st sd x m = some r) : G_munchscanexamineo L K sf sp sq sr st sd x m r := by
  unfold m_munchscanexamineo at h
  obtain ⟨⟨c1_0, c1_1, c1_2, c1_3, c1_4⟩, hc1, h⟩ := Option.bind_eq_some_iff.1 h
  dsimp only at h
  obtain rfl := Option.some.inj h; exact p_munchscanexamineo_0 n L K sf sp sq sr st sd x m c1_0 c1_1 c1_2 c1_3 c1_4 hc1

noncomputable def A_munchScannervalid (L : List Int) (K : List Int) (sf : Int) (sp : Int) (sq : Int) (sr : Int) (st : Int) (sd : Bool) (on : Bool) : List Value := [(Value.pointer (some ⟨0, 0, none⟩))]
noncomputable def H_munchScannervalid (L : List Int) (K : List Int) (sf : Int) (sp : Int) (sq : Int) (sr : Int) (st : Int) (sd : Bool) (on : Bool) : AH := ⟨sB [(0, (some (.cells (layT [(Value.pointer (some ⟨0, 0, none⟩)), (Value.slice (some ⟨1, 0, none⟩) (L).length (Nat.add big 1)), (Value.slice (some ⟨2, 0, none⟩) (K).length (Nat.add big 1)), (Value.int .i64 sf), (Value.int .i64 sp), (Value.int .i64 sq), (Value.int .i64 sr), (Value.int .i64 st), (Value.bool sd), (Value.bool on)]) 61))), (1, (some (.cells (layT (iv L)) 3))), (2, (some (.cells (layT (iv K)) 3)))], 3, 3⟩
noncomputable def V_munchScannervalid (L : List Int) (K : List Int) (sf : Int) (sp : Int) (sq : Int) (sr : Int) (st : Int) (sd : Bool) (on : Bool) (r : Unit) : Value := match r with
  | _ => (Value.bool true)
noncomputable def R_munchScannervalid (L : List Int) (K : List Int) (sf : Int) (sp : Int) (sq : Int) (sr : Int) (st : Int) (sd : Bool) (on : Bool) (r : Unit) : AH := match r with
  | _ => ⟨sB [], 3, 3⟩
noncomputable abbrev G_munchScannervalid (L : List Int) (K : List Int) (sf : Int) (sp : Int) (sq : Int) (sr : Int) (st : Int) (sd : Bool) (on : Bool) (r : Unit) : Prop := Gv P (.func 29) (A_munchScannervalid L K sf sp sq sr st sd on) (H_munchScannervalid L K sf sp sq sr st sd on) (V_munchScannervalid L K sf sp sq sr st sd on r) (R_munchScannervalid L K sf sp sq sr st sd on r)
def m_munchScannervalid (n : Nat) (L : List Int) (K : List Int) (sf : Int) (sp : Int) (sq : Int) (sr : Int) (st : Int) (sd : Bool) (on : Bool) : Option (Unit) :=
  some ()
set_option maxRecDepth 100000 in
theorem p_munchScannervalid_0 (n : Nat) (L : List Int) (K : List Int) (sf : Int) (sp : Int) (sq : Int) (sr : Int) (st : Int) (sd : Bool) (on : Bool) : G_munchScannervalid L K sf sp sq sr st sd on () :=
  runF_ok hm (A := aT []) (L := lT []) (wk := ⟨[2], [], 3, 3⟩)
    (ps := []) (by kernel_rfl) trivial
theorem m_munchScannervalid_ok (n : Nat) (L : List Int) (K : List Int) (sf : Int) (sp : Int) (sq : Int) (sr : Int) (st : Int) (sd : Bool) (on : Bool) (r : Unit) (h : m_munchScannervalid n L K sf sp sq sr st sd on = some r) : G_munchScannervalid L K sf sp sq sr st sd on r := by
  unfold m_munchScannervalid at h
  obtain rfl := Option.some.inj h; exact p_munchScannervalid_0 n L K sf sp sq sr st sd on

noncomputable def A_munchScannerExt (L : List Int) (K : List Int) (sf : Int) (sp : Int) (sq : Int) (sr : Int) (st : Int) (sd : Bool) (on : Bool) : List Value := [(Value.pointer (some ⟨0, 0, none⟩))]
noncomputable def H_munchScannerExt (L : List Int) (K : List Int) (sf : Int) (sp : Int) (sq : Int) (sr : Int) (st : Int) (sd : Bool) (on : Bool) : AH := ⟨sB [(0, (some (.cells (layT [(Value.pointer (some ⟨0, 0, none⟩)), (Value.slice (some ⟨1, 0, none⟩) (L).length (Nat.add big 1)), (Value.slice (some ⟨2, 0, none⟩) (K).length (Nat.add big 1)), (Value.int .i64 sf), (Value.int .i64 sp), (Value.int .i64 sq), (Value.int .i64 sr), (Value.int .i64 st), (Value.bool sd), (Value.bool on)]) 61))), (1, (some (.cells (layT (iv L)) 3))), (2, (some (.cells (layT (iv K)) 3)))], 3, 3⟩
noncomputable def V_munchScannerExt (L : List Int) (K : List Int) (sf : Int) (sp : Int) (sq : Int) (sr : Int) (st : Int) (sd : Bool) (on : Bool) (r : Unit) : Value := match r with
  | _ => (Value.int .i64 (w64 (sf + sp)))
noncomputable def R_munchScannerExt (L : List Int) (K : List Int) (sf : Int) (sp : Int) (sq : Int) (sr : Int) (st : Int) (sd : Bool) (on : Bool) (r : Unit) : AH := match r with
  | _ => ⟨sB [], 3, 3⟩
noncomputable abbrev G_munchScannerExt (L : List Int) (K : List Int) (sf : Int) (sp : Int) (sq : Int) (sr : Int) (st : Int) (sd : Bool) (on : Bool) (r : Unit) : Prop := Gv P (.func 21) (A_munchScannerExt L K sf sp sq sr st sd on) (H_munchScannerExt L K sf sp sq sr st sd on) (V_munchScannerExt L K sf sp sq sr st sd on r) (R_munchScannerExt L K sf sp sq sr st sd on r)
def m_munchScannerExt (n : Nat) (L : List Int) (K : List Int) (sf : Int) (sp : Int) (sq : Int) (sr : Int) (st : Int) (sd : Bool) (on : Bool) : Option (Unit) :=
  (m_munchScannervalid n L K sf sp sq sr st sd on).bind fun _ =>
  (m_munchscanext n sf sp sq sr st sd).bind fun _ =>
  some ()
set_option maxRecDepth 100000 in
theorem p_munchScannerExt_0 (n : Nat) (L : List Int) (K : List Int) (sf : Int) (sp : Int) (sq : Int) (sr : Int) (st : Int) (sd : Bool) (on : Bool) (hc1 : m_munchScannervalid n L K sf sp sq sr st sd on = some ()) (hc2 : m_munchscanext n sf sp sq sr st sd = some ()) : G_munchScannerExt L K sf sp sq sr st sd on () :=
  runF_ok hm (A := aT [(5, .call ⟨3, [(0, 0, false), (1, 1, true), (2, 2, true)], (V_munchScannervalid L K sf sp sq sr st sd on ()), (R_munchScannervalid L K sf sp sq sr st sd on ()), []⟩), (13, .call ⟨0, [], (V_munchscanext sf sp sq sr st sd ()), (R_munchscanext sf sp sq sr st sd ()), []⟩)]) (L := lT []) (wk := ⟨[2], [], 3, 3⟩)
    (ps := [G_munchScannervalid L K sf sp sq sr st sd on (),
    FlatB (.cells (layT (iv L)) 3),
    FlatB (.cells (layT (iv K)) 3),
    G_munchscanext sf sp sq sr st sd ()]) (by kernel_rfl) ⟨(m_munchScannervalid_ok n L K sf sp sq sr st sd on () hc1), (iv_flat _ _), (iv_flat _ _), (m_munchscanext_ok n sf sp sq sr st sd () hc2), trivial⟩
theorem m_munchScannerExt_ok (n : Nat) (L : List Int) (K : List Int) (sf : Int) (sp : Int) (sq : Int) (sr : Int) (st : Int) (sd : Bool) (on : Bool) (r : Unit) (h : m_munchScannerExt n L K sf sp sq sr st sd on = some r) : G_munchScannerExt L K sf sp sq sr st sd on r := by
  unfold m_munchScannerExt at h
  obtain ⟨_, hc1, h⟩ := Option.bind_eq_some_iff.1 h
  obtain ⟨_, hc2, h⟩ := Option.bind_eq_some_iff.1 h
  obtain rfl := Option.some.inj h; exact p_munchScannerExt_0 n L K sf sp sq sr st sd on hc1 hc2

noncomputable def A_munchScannerSteps (L : List Int) (K : List Int) (sf : Int) (sp : Int) (sq : Int) (sr : Int) (st : Int) (sd : Bool) (on : Bool) : List Value := [(Value.pointer (some ⟨0, 0, none⟩))]
noncomputable def H_munchScannerSteps (L : List Int) (K : List Int) (sf : Int) (sp : Int) (sq : Int) (sr : Int) (st : Int) (sd : Bool) (on : Bool) : AH := ⟨sB [(0, (some (.cells (layT [(Value.pointer (some ⟨0, 0, none⟩)), (Value.slice (some ⟨1, 0, none⟩) (L).length (Nat.add big 1)), (Value.slice (some ⟨2, 0, none⟩) (K).length (Nat.add big 1)), (Value.int .i64 sf), (Value.int .i64 sp), (Value.int .i64 sq), (Value.int .i64 sr), (Value.int .i64 st), (Value.bool sd), (Value.bool on)]) 61))), (1, (some (.cells (layT (iv L)) 3))), (2, (some (.cells (layT (iv K)) 3)))], 3, 3⟩
noncomputable def V_munchScannerSteps (L : List Int) (K : List Int) (sf : Int) (sp : Int) (sq : Int) (sr : Int) (st : Int) (sd : Bool) (on : Bool) (r : Unit) : Value := match r with
  | _ => (Value.int .i64 sp)
noncomputable def R_munchScannerSteps (L : List Int) (K : List Int) (sf : Int) (sp : Int) (sq : Int) (sr : Int) (st : Int) (sd : Bool) (on : Bool) (r : Unit) : AH := match r with
  | _ => ⟨sB [], 3, 3⟩
noncomputable abbrev G_munchScannerSteps (L : List Int) (K : List Int) (sf : Int) (sp : Int) (sq : Int) (sr : Int) (st : Int) (sd : Bool) (on : Bool) (r : Unit) : Prop := Gv P (.func 23) (A_munchScannerSteps L K sf sp sq sr st sd on) (H_munchScannerSteps L K sf sp sq sr st sd on) (V_munchScannerSteps L K sf sp sq sr st sd on r) (R_munchScannerSteps L K sf sp sq sr st sd on r)
def m_munchScannerSteps (n : Nat) (L : List Int) (K : List Int) (sf : Int) (sp : Int) (sq : Int) (sr : Int) (st : Int) (sd : Bool) (on : Bool) : Option (Unit) :=
  (m_munchScannervalid n L K sf sp sq sr st sd on).bind fun _ =>
  some ()
set_option maxRecDepth 100000 in
theorem p_munchScannerSteps_0 (n : Nat) (L : List Int) (K : List Int) (sf : Int) (sp : Int) (sq : Int) (sr : Int) (st : Int) (sd : Bool) (on : Bool) (hc1 : m_munchScannervalid n L K sf sp sq sr st sd on = some ()) : G_munchScannerSteps L K sf sp sq sr st sd on () :=
  runF_ok hm (A := aT [(5, .call ⟨3, [(0, 0, false), (1, 1, true), (2, 2, true)], (V_munchScannervalid L K sf sp sq sr st sd on ()), (R_munchScannervalid L K sf sp sq sr st sd on ()), []⟩)]) (L := lT []) (wk := ⟨[2], [], 3, 3⟩)
    (ps := [G_munchScannervalid L K sf sp sq sr st sd on (),
    FlatB (.cells (layT (iv L)) 3),
    FlatB (.cells (layT (iv K)) 3)]) (by kernel_rfl) ⟨(m_munchScannervalid_ok n L K sf sp sq sr st sd on () hc1), (iv_flat _ _), (iv_flat _ _), trivial⟩
theorem m_munchScannerSteps_ok (n : Nat) (L : List Int) (K : List Int) (sf : Int) (sp : Int) (sq : Int) (sr : Int) (st : Int) (sd : Bool) (on : Bool) (r : Unit) (h : m_munchScannerSteps n L K sf sp sq sr st sd on = some r) : G_munchScannerSteps L K sf sp sq sr st sd on r := by
  unfold m_munchScannerSteps at h
  obtain ⟨_, hc1, h⟩ := Option.bind_eq_some_iff.1 h
  obtain rfl := Option.some.inj h; exact p_munchScannerSteps_0 n L K sf sp sq sr st sd on hc1

noncomputable def A_munchScannerLexeme (L : List Int) (K : List Int) (sf : Int) (sp : Int) (sq : Int) (sr : Int) (st : Int) (sd : Bool) (on : Bool) : List Value := [(Value.pointer (some ⟨0, 0, none⟩))]
noncomputable def H_munchScannerLexeme (L : List Int) (K : List Int) (sf : Int) (sp : Int) (sq : Int) (sr : Int) (st : Int) (sd : Bool) (on : Bool) : AH := ⟨sB [(0, (some (.cells (layT [(Value.pointer (some ⟨0, 0, none⟩)), (Value.slice (some ⟨1, 0, none⟩) (L).length (Nat.add big 1)), (Value.slice (some ⟨2, 0, none⟩) (K).length (Nat.add big 1)), (Value.int .i64 sf), (Value.int .i64 sp), (Value.int .i64 sq), (Value.int .i64 sr), (Value.int .i64 st), (Value.bool sd), (Value.bool on)]) 61))), (1, (some (.cells (layT (iv L)) 3))), (2, (some (.cells (layT (iv K)) 3)))], 3, 3⟩
noncomputable def V_munchScannerLexeme (L : List Int) (K : List Int) (sf : Int) (sp : Int) (sq : Int) (sr : Int) (st : Int) (sd : Bool) (on : Bool) (r : Int × Int × Int × Int × Bool) : Value := match r with
  | (o0, o1, o2, o3, o4) => (Value.tuple #[(Value.agg #[(Value.int .i64 o0), (Value.int .i64 o1), (Value.int .i64 o2), (Value.int .i64 o3)]), (Value.bool o4)])
noncomputable def R_munchScannerLexeme (L : List Int) (K : List Int) (sf : Int) (sp : Int) (sq : Int) (sr : Int) (st : Int) (sd : Bool) (on : Bool) (r : Int × Int × Int × Int × Bool) : AH := match r with
  | (o0, o1, o2, o3, o4) => ⟨sB [(3, (some (.cells (layT [(Value.int .i64 o0), (Value.int .i64 o1), (Value.int .i64 o2), (Value.int .i64 o3)]) 28)))], 4, 3⟩
noncomputable abbrev G_munchScannerLexeme (L : List Int) (K : List Int) (sf : Int) (sp : Int) (sq : Int) (sr : Int) (st : Int) (sd : Bool) (on : Bool) (r : Int × Int × Int × Int × Bool) : Prop := Gv P (.func 19) (A_munchScannerLexeme L K sf sp sq sr st sd on) (H_munchScannerLexeme L K sf sp sq sr st sd on) (V_munchScannerLexeme L K sf sp sq sr st sd on r) (R_munchScannerLexeme L K sf sp sq sr st sd on r)
def m_munchScannerLexeme (n : Nat) (L : List Int) (K : List Int) (sf : Int) (sp : Int) (sq : Int) (sr : Int) (st : Int) (sd : Bool) (on : Bool) : Option (Int × Int × Int × Int × Bool) :=
  (m_munchScannervalid n L K sf sp sq sr st sd on).bind fun _ =>
  if sd = true then
    (m_munchscanlexeme n sf sp sq sr st sd).bind fun c3_ =>
    some (sr, sf, c3_, (w64 (sf + sp)), true)
  else
    some (0, 0, 0, 0, false)
set_option maxRecDepth 100000 in
theorem p_munchScannerLexeme_0 (n : Nat) (L : List Int) (K : List Int) (sf : Int) (sp : Int) (sq : Int) (sr : Int) (st : Int) (sd : Bool) (on : Bool) (hc1 : m_munchScannervalid n L K sf sp sq sr st sd on = some ()) (hc2 : sd = true) (c3_ : Int) (hc3 : m_munchscanlexeme n sf sp sq sr st sd = some c3_) : G_munchScannerLexeme L K sf sp sq sr st sd on (sr, sf, c3_, (w64 (sf + sp)), true) :=
  runF_ok hm (A := aT [(6, .call ⟨3, [(0, 0, false), (1, 1, true), (2, 2, true)], (V_munchScannervalid L K sf sp sq sr st sd on ()), (R_munchScannervalid L K sf sp sq sr st sd on ()), []⟩), (14, .val (.bool false)), (22, .call ⟨0, [], (V_munchscanlexeme sf sp sq sr st sd c3_), (R_munchscanlexeme sf sp sq sr st sd c3_), [(4, 0, false)]⟩)]) (L := lT []) (wk := ⟨[2, 3], [(3, 3, false)], 4, 3⟩)
    (ps := [G_munchScannervalid L K sf sp sq sr st sd on (),
    FlatB (.cells (layT (iv L)) 3),
    FlatB (.cells (layT (iv K)) 3),
    (Value.bool (!sd)) = (Value.bool false),
    G_munchscanlexeme sf sp sq sr st sd c3_]) (by kernel_rfl) ⟨(m_munchScannervalid_ok n L K sf sp sq sr st sd on () hc1), (iv_flat _ _), (iv_flat _ _), (vBn hc2), (m_munchscanlexeme_ok n sf sp sq sr st sd c3_ hc3), trivial⟩
set_option maxRecDepth 100000 in
theorem p_munchScannerLexeme_1 (n : Nat) (L : List Int) (K : List Int) (sf : Int) (sp : Int) (sq : Int) (sr : Int) (st : Int) (sd : Bool) (on : Bool) (hc1 : m_munchScannervalid n L K sf sp sq sr st sd on = some ()) (hc2 : ¬ (sd = true)) : G_munchScannerLexeme L K sf sp sq sr st sd on (0, 0, 0, 0, false) :=
  runF_ok hm (A := aT [(6, .call ⟨3, [(0, 0, false), (1, 1, true), (2, 2, true)], (V_munchScannervalid L K sf sp sq sr st sd on ()), (R_munchScannervalid L K sf sp sq sr st sd on ()), []⟩), (14, .val (.bool true))]) (L := lT []) (wk := ⟨[2, 3], [(3, 3, false)], 4, 3⟩)
    (ps := [G_munchScannervalid L K sf sp sq sr st sd on (),
    FlatB (.cells (layT (iv L)) 3),
    FlatB (.cells (layT (iv K)) 3),
    (Value.bool (!sd)) = (Value.bool true)]) (by kernel_rfl) ⟨(m_munchScannervalid_ok n L K sf sp sq sr st sd on () hc1), (iv_flat _ _), (iv_flat _ _), (vBn (Bool.eq_false_iff.2 hc2)), trivial⟩
theorem m_munchScannerLexeme_ok (n : Nat) (L : List Int) (K : List Int) (sf : Int) (sp : Int) (sq : Int) (sr : Int) (st : Int) (sd : Bool) (on : Bool) (r : Int × Int × Int × Int × Bool) (h : m_munchScannerLexeme n L K sf sp sq sr st sd on = some r) : G_munchScannerLexeme L K sf sp sq sr st sd on r := by
  unfold m_munchScannerLexeme at h
  obtain ⟨_, hc1, h⟩ := Option.bind_eq_some_iff.1 h
  by_cases hc2 : sd = true
  · rw [if_pos hc2] at h
    obtain ⟨c3_, hc3, h⟩ := Option.bind_eq_some_iff.1 h
    obtain rfl := Option.some.inj h; exact p_munchScannerLexeme_0 n L K sf sp sq sr st sd on hc1 hc2 c3_ hc3
  · rw [if_neg hc2] at h
    obtain rfl := Option.some.inj h; exact p_munchScannerLexeme_1 n L K sf sp sq sr st sd on hc1 hc2

noncomputable def A_munchScannerBegin (L : List Int) (K : List Int) (sf : Int) (sp : Int) (sq : Int) (sr : Int) (st : Int) (sd : Bool) (on : Bool) (a : Int) : List Value := [(Value.pointer (some ⟨0, 0, none⟩)), (Value.int .i64 a)]
noncomputable def H_munchScannerBegin (L : List Int) (K : List Int) (sf : Int) (sp : Int) (sq : Int) (sr : Int) (st : Int) (sd : Bool) (on : Bool) (a : Int) : AH := ⟨sB [(0, (some (.cells (layT [(Value.pointer (some ⟨0, 0, none⟩)), (Value.slice (some ⟨1, 0, none⟩) (L).length (Nat.add big 1)), (Value.slice (some ⟨2, 0, none⟩) (K).length (Nat.add big 1)), (Value.int .i64 sf), (Value.int .i64 sp), (Value.int .i64 sq), (Value.int .i64 sr), (Value.int .i64 st), (Value.bool sd), (Value.bool on)]) 61))), (1, (some (.cells (layT (iv L)) 3))), (2, (some (.cells (layT (iv K)) 3)))], 3, 3⟩
noncomputable def V_munchScannerBegin (L : List Int) (K : List Int) (sf : Int) (sp : Int) (sq : Int) (sr : Int) (st : Int) (sd : Bool) (on : Bool) (a : Int) (r : Int × Int × Int × Int × Int × Bool × Bool × Int) : Value := match r with
  | (o0, o1, o2, o3, o4, o5, o6, o7) => (Value.int .i64 o7)
noncomputable def R_munchScannerBegin (L : List Int) (K : List Int) (sf : Int) (sp : Int) (sq : Int) (sr : Int) (st : Int) (sd : Bool) (on : Bool) (a : Int) (r : Int × Int × Int × Int × Int × Bool × Bool × Int) : AH := match r with
  | (o0, o1, o2, o3, o4, o5, o6, o7) => ⟨sB [(0, (some (.cells (layT [(Value.pointer (some ⟨0, 0, none⟩)), (Value.slice (some ⟨1, 0, none⟩) (L).length (Nat.add big 1)), (Value.slice (some ⟨2, 0, none⟩) (K).length (Nat.add big 1)), (Value.int .i64 o0), (Value.int .i64 o1), (Value.int .i64 o2), (Value.int .i64 o3), (Value.int .i64 o4), (Value.bool o5), (Value.bool o6)]) 61))), (1, (some (.cells (layT (iv L)) 3))), (2, (some (.cells (layT (iv K)) 3)))], 3, 0⟩
noncomputable abbrev G_munchScannerBegin (L : List Int) (K : List Int) (sf : Int) (sp : Int) (sq : Int) (sr : Int) (st : Int) (sd : Bool) (on : Bool) (a : Int) (r : Int × Int × Int × Int × Int × Bool × Bool × Int) : Prop := Gv P (.func 15) (A_munchScannerBegin L K sf sp sq sr st sd on a) (H_munchScannerBegin L K sf sp sq sr st sd on a) (V_munchScannerBegin L K sf sp sq sr st sd on a r) (R_munchScannerBegin L K sf sp sq sr st sd on a r)
def m_munchScannerBegin (n : Nat) (L : List Int) (K : List Int) (sf : Int) (sp : Int) (sq : Int) (sr : Int) (st : Int) (sd : Bool) (on : Bool) (a : Int) : Option (Int × Int × Int × Int × Int × Bool × Bool × Int) :=
  (m_munchScannervalid n L K sf sp sq sr st sd on).bind fun _ =>
  if a < (0 : Int) then
    some (sf, sp, sq, sr, st, sd, on, 2)
  else
    (m_munchbegin n a).bind fun _ =>
    some (a, 0, 0, (-1), a, false, true, 0)
set_option maxRecDepth 100000 in
theorem p_munchScannerBegin_0 (n : Nat) (L : List Int) (K : List Int) (sf : Int) (sp : Int) (sq : Int) (sr : Int) (st : Int) (sd : Bool) (on : Bool) (a : Int) (hc1 : m_munchScannervalid n L K sf sp sq sr st sd on = some ()) (hc2 : a < (0 : Int)) : G_munchScannerBegin L K sf sp sq sr st sd on a (sf, sp, sq, sr, st, sd, on, 2) :=
  runF_ok hm (A := aT [(5, .call ⟨3, [(0, 0, false), (1, 1, true), (2, 2, true)], (V_munchScannervalid L K sf sp sq sr st sd on ()), (R_munchScannervalid L K sf sp sq sr st sd on ()), []⟩), (11, .val (.bool true))]) (L := lT []) (wk := ⟨[4], [(0, 0, false), (1, 1, true), (2, 2, true)], 3, 0⟩)
    (ps := [G_munchScannervalid L K sf sp sq sr st sd on (),
    FlatB (.cells (layT (iv L)) 3),
    FlatB (.cells (layT (iv K)) 3),
    (Value.bool (decide (a < (0 : Int)))) = (Value.bool true),
    FlatB (.cells (layT (iv L)) 3),
    FlatB (.cells (layT (iv K)) 3)]) (by kernel_rfl) ⟨(m_munchScannervalid_ok n L K sf sp sq sr st sd on () hc1), (iv_flat _ _), (iv_flat _ _), (vbT hc2), (iv_flat _ _), (iv_flat _ _), trivial⟩
set_option maxRecDepth 100000 in
theorem p_munchScannerBegin_1 (n : Nat) (L : List Int) (K : List Int) (sf : Int) (sp : Int) (sq : Int) (sr : Int) (st : Int) (sd : Bool) (on : Bool) (a : Int) (hc1 : m_munchScannervalid n L K sf sp sq sr st sd on = some ()) (hc2 : ¬ (a < (0 : Int))) (hc3 : m_munchbegin n a = some ()) : G_munchScannerBegin L K sf sp sq sr st sd on a (a, 0, 0, (-1), a, false, true, 0) :=
  runF_ok hm (A := aT [(5, .call ⟨3, [(0, 0, false), (1, 1, true), (2, 2, true)], (V_munchScannervalid L K sf sp sq sr st sd on ()), (R_munchScannervalid L K sf sp sq sr st sd on ()), []⟩), (11, .val (.bool false)), (17, .call ⟨0, [], (V_munchbegin a ()), (R_munchbegin a ()), [(3, 0, false)]⟩)]) (L := lT []) (wk := ⟨[4], [(0, 0, false), (1, 1, true), (2, 2, true)], 3, 0⟩)
    (ps := [G_munchScannervalid L K sf sp sq sr st sd on (),
    FlatB (.cells (layT (iv L)) 3),
    FlatB (.cells (layT (iv K)) 3),
    (Value.bool (decide (a < (0 : Int)))) = (Value.bool false),
    G_munchbegin a (),
    FlatB (.cells (layT (iv L)) 3),
    FlatB (.cells (layT (iv K)) 3)]) (by kernel_rfl) ⟨(m_munchScannervalid_ok n L K sf sp sq sr st sd on () hc1), (iv_flat _ _), (iv_flat _ _), (vbF hc2), (m_munchbegin_ok n a () hc3), (iv_flat _ _), (iv_flat _ _), trivial⟩
theorem m_munchScannerBegin_ok (n : Nat) (L : List Int) (K : List Int) (sf : Int) (sp : Int) (sq : Int) (sr : Int) (st : Int) (sd : Bool) (on : Bool) (a : Int) (r : Int × Int × Int × Int × Int × Bool × Bool × Int) (h : m_munchScannerBegin n L K sf sp sq sr st sd on a = some r) : G_munchScannerBegin L K sf sp sq sr st sd on a r := by
  unfold m_munchScannerBegin at h
  obtain ⟨_, hc1, h⟩ := Option.bind_eq_some_iff.1 h
  by_cases hc2 : a < (0 : Int)
  · rw [if_pos hc2] at h
    obtain rfl := Option.some.inj h; exact p_munchScannerBegin_0 n L K sf sp sq sr st sd on a hc1 hc2
  · rw [if_neg hc2] at h
    obtain ⟨_, hc3, h⟩ := Option.bind_eq_some_iff.1 h
    obtain rfl := Option.some.inj h; exact p_munchScannerBegin_1 n L K sf sp sq sr st sd on a hc1 hc2 hc3

noncomputable def A_munchScannerStep (L : List Int) (K : List Int) (sf : Int) (sp : Int) (sq : Int) (sr : Int) (st : Int) (sd : Bool) (on : Bool) (x : ByteArray) : List Value := [(Value.pointer (some ⟨0, 0, none⟩)), (Value.string x)]
noncomputable def H_munchScannerStep (L : List Int) (K : List Int) (sf : Int) (sp : Int) (sq : Int) (sr : Int) (st : Int) (sd : Bool) (on : Bool) (x : ByteArray) : AH := ⟨sB [(0, (some (.cells (layT [(Value.pointer (some ⟨0, 0, none⟩)), (Value.slice (some ⟨1, 0, none⟩) (L).length (Nat.add big 1)), (Value.slice (some ⟨2, 0, none⟩) (K).length (Nat.add big 1)), (Value.int .i64 sf), (Value.int .i64 sp), (Value.int .i64 sq), (Value.int .i64 sr), (Value.int .i64 st), (Value.bool sd), (Value.bool on)]) 61))), (1, (some (.cells (layT (iv L)) 3))), (2, (some (.cells (layT (iv K)) 3)))], 3, 3⟩
noncomputable def V_munchScannerStep (L : List Int) (K : List Int) (sf : Int) (sp : Int) (sq : Int) (sr : Int) (st : Int) (sd : Bool) (on : Bool) (x : ByteArray) (r : Int × Int × Int × Int × Bool × Bool × Int) : Value := match r with
  | (o0, o1, o2, o3, o4, o5, o6) => (Value.tuple #[(Value.bool o5), (Value.int .i64 o6)])
noncomputable def R_munchScannerStep (L : List Int) (K : List Int) (sf : Int) (sp : Int) (sq : Int) (sr : Int) (st : Int) (sd : Bool) (on : Bool) (x : ByteArray) (r : Int × Int × Int × Int × Bool × Bool × Int) : AH := match r with
  | (o0, o1, o2, o3, o4, o5, o6) => ⟨sB [(0, (some (.cells (layT [(Value.pointer (some ⟨0, 0, none⟩)), (Value.slice (some ⟨1, 0, none⟩) (L).length (Nat.add big 1)), (Value.slice (some ⟨2, 0, none⟩) (K).length (Nat.add big 1)), (Value.int .i64 sf), (Value.int .i64 o0), (Value.int .i64 o1), (Value.int .i64 o2), (Value.int .i64 o3), (Value.bool o4), (Value.bool on)]) 61))), (1, (some (.cells (layT (iv L)) 3))), (2, (some (.cells (layT (iv K)) 3)))], 3, 0⟩
noncomputable abbrev G_munchScannerStep (L : List Int) (K : List Int) (sf : Int) (sp : Int) (sq : Int) (sr : Int) (st : Int) (sd : Bool) (on : Bool) (x : ByteArray) (r : Int × Int × Int × Int × Bool × Bool × Int) : Prop := Gv P (.func 17) (A_munchScannerStep L K sf sp sq sr st sd on x) (H_munchScannerStep L K sf sp sq sr st sd on x) (V_munchScannerStep L K sf sp sq sr st sd on x r) (R_munchScannerStep L K sf sp sq sr st sd on x r)
def m_munchScannerStep (n : Nat) (L : List Int) (K : List Int) (sf : Int) (sp : Int) (sq : Int) (sr : Int) (st : Int) (sd : Bool) (on : Bool) (x : ByteArray) : Option (Int × Int × Int × Int × Bool × Bool × Int) :=
  (m_munchScannervalid n L K sf sp sq sr st sd on).bind fun _ =>
  if on = true then
    if sd = true then
      some (sp, sq, sr, st, sd, false, 9)
    else
      if sf ≥ (((x).size : Nat) : Int) then
        some (sp, sq, sr, st, sd, false, 2)
      else
        (m_munchscanext n sf sp sq sr st sd).bind fun _ =>
        if (w64 (sf + sp)) > (((x).size : Nat) : Int) then
          some (sp, sq, sr, st, sd, false, 2)
        else
          (m_munchscanexamineo n L K sf sp sq sr st sd x 1).bind fun t => match t with
          | (c7_0, c7_1, c7_2, c7_3, c7_4) =>
            some (c7_0, c7_1, c7_2, c7_3, c7_4, c7_4, 0)
  else
    some (sp, sq, sr, st, sd, false, 9)
set_option maxRecDepth 100000 in
theorem p_munchScannerStep_0 (n : Nat) (L : List Int) (K : List Int) (sf : Int) (sp : Int) (sq : Int) (sr : Int) (st : Int) (sd : Bool) (on : Bool) (x : ByteArray) (hc1 : m_munchScannervalid n L K sf sp sq sr st sd on = some ()) (hc2 : on = true) (hc3 : sd = true) : G_munchScannerStep L K sf sp sq sr st sd on x (sp, sq, sr, st, sd, false, 9) :=
  runF_ok hm (A := aT [(6, .call ⟨3, [(0, 0, false), (1, 1, true), (2, 2, true)], (V_munchScannervalid L K sf sp sq sr st sd on ()), (R_munchScannervalid L K sf sp sq sr st sd on ()), []⟩), (15, .val (.bool false)), (23, .val (.bool true))]) (L := lT []) (wk := ⟨[4, 5], [(0, 0, false), (1, 1, true), (2, 2, true)], 3, 0⟩)
    (ps := [G_munchScannervalid L K sf sp sq sr st sd on (),
    FlatB (.cells (layT (iv L)) 3),
    FlatB (.cells (layT (iv K)) 3),
    (Value.bool (!on)) = (Value.bool false),
    (Value.bool sd) = (Value.bool true),
    FlatB (.cells (layT (iv L)) 3),
    FlatB (.cells (layT (iv K)) 3)]) (by kernel_rfl) ⟨(m_munchScannervalid_ok n L K sf sp sq sr st sd on () hc1), (iv_flat _ _), (iv_flat _ _), (vBn hc2), (vB hc3), (iv_flat _ _), (iv_flat _ _), trivial⟩
set_option maxRecDepth 100000 in
theorem p_munchScannerStep_1 (n : Nat) (L : List Int) (K : List Int) (sf : Int) (sp : Int) (sq : Int) (sr : Int) (st : Int) (sd : Bool) (on : Bool) (x : ByteArray) (hc1 : m_munchScannervalid n L K sf sp sq sr st sd on = some ()) (hc2 : on = true) (hc3 : ¬ (sd = true)) (hc4 : sf ≥ (((x).size : Nat) : Int)) : G_munchScannerStep L K sf sp sq sr st sd on x (sp, sq, sr, st, sd, false, 2) :=
  runF_ok hm (A := aT [(6, .call ⟨3, [(0, 0, false), (1, 1, true), (2, 2, true)], (V_munchScannervalid L K sf sp sq sr st sd on ()), (R_munchScannervalid L K sf sp sq sr st sd on ()), []⟩), (15, .val (.bool false)), (23, .val (.bool false)), (33, .val (.bool true))]) (L := lT []) (wk := ⟨[4, 5], [(0, 0, false), (1, 1, true), (2, 2, true)], 3, 0⟩)
    (ps := [G_munchScannervalid L K sf sp sq sr st sd on (),
    FlatB (.cells (layT (iv L)) 3),
    FlatB (.cells (layT (iv K)) 3),
    (Value.bool (!on)) = (Value.bool false),
    (Value.bool sd) = (Value.bool false),
    (Value.bool (decide (sf ≥ (((x).size : Nat) : Int)))) = (Value.bool true),
    FlatB (.cells (layT (iv L)) 3),
    FlatB (.cells (layT (iv K)) 3)]) (by kernel_rfl) ⟨(m_munchScannervalid_ok n L K sf sp sq sr st sd on () hc1), (iv_flat _ _), (iv_flat _ _), (vBn hc2), (vB (Bool.eq_false_iff.2 hc3)), (vbT hc4), (iv_flat _ _), (iv_flat _ _), trivial⟩
set_option maxRecDepth 100000 in
theorem p_munchScannerStep_2 (n : Nat) (L : List Int) (K : List Int) (sf : Int) (sp : Int) (sq : Int) (sr : Int) (st : Int) (sd : Bool) (on : Bool) (x : ByteArray) (hc1 : m_munchScannervalid n L K sf sp sq sr st sd on = some ()) (hc2 : on = true) (hc3 : ¬ (sd = true)) (hc4 : ¬ (sf ≥ (((x).size : Nat) : Int))) (hc5 : m_munchscanext n sf sp sq sr st sd = some ()) (hc6 : (w64 (sf + sp)) > (((x).size : Nat) : Int)) : G_munchScannerStep L K sf sp sq sr st sd on x (sp, sq, sr, st, sd, false, 2) :=
  runF_ok hm (A := aT [(6, .call ⟨3, [(0, 0, false), (1, 1, true), (2, 2, true)], (V_munchScannervalid L K sf sp sq sr st sd on ()), (R_munchScannervalid L K sf sp sq sr st sd on ()), []⟩), (15, .val (.bool false)), (23, .val (.bool false)), (33, .val (.bool false)), (39, .call ⟨0, [], (V_munchscanext sf sp sq sr st sd ()), (R_munchscanext sf sp sq sr st sd ()), []⟩), (42, .val (.bool true))]) (L := lT []) (wk := ⟨[4, 5], [(0, 0, false), (1, 1, true), (2, 2, true)], 3, 0⟩)
    (ps := [G_munchScannervalid L K sf sp sq sr st sd on (),
    FlatB (.cells (layT (iv L)) 3),
    FlatB (.cells (layT (iv K)) 3),
    (Value.bool (!on)) = (Value.bool false),
    (Value.bool sd) = (Value.bool false),
    (Value.bool (decide (sf ≥ (((x).size : Nat) : Int)))) = (Value.bool false),
    G_munchscanext sf sp sq sr st sd (),
    (Value.bool (decide ((w64 (sf + sp)) > (((x).size : Nat) : Int)))) = (Value.bool true),
    FlatB (.cells (layT (iv L)) 3),
    FlatB (.cells (layT (iv K)) 3)]) (by kernel_rfl) ⟨(m_munchScannervalid_ok n L K sf sp sq sr st sd on () hc1), (iv_flat _ _), (iv_flat _ _), (vBn hc2), (vB (Bool.eq_false_iff.2 hc3)), (vbF hc4), (m_munchscanext_ok n sf sp sq sr st sd () hc5), (vbT hc6), (iv_flat _ _), (iv_flat _ _), trivial⟩
set_option maxRecDepth 100000 in
theorem p_munchScannerStep_3 (n : Nat) (L : List Int) (K : List Int) (sf : Int) (sp : Int) (sq : Int) (sr : Int) (st : Int) (sd : Bool) (on : Bool) (x : ByteArray) (hc1 : m_munchScannervalid n L K sf sp sq sr st sd on = some ()) (hc2 : on = true) (hc3 : ¬ (sd = true)) (hc4 : ¬ (sf ≥ (((x).size : Nat) : Int))) (hc5 : m_munchscanext n sf sp sq sr st sd = some ()) (hc6 : ¬ ((w64 (sf + sp)) > (((x).size : Nat) : Int))) (c7_0 : Int) (c7_1 : Int) (c7_2 : Int) (c7_3 : Int) (c7_4 : Bool) (hc7 : m_munchscanexamineo n L K sf sp sq sr st sd x 1 = some (c7_0, c7_1, c7_2, c7_3, c7_4)) : G_munchScannerStep L K sf sp sq sr st sd on x (c7_0, c7_1, c7_2, c7_3, c7_4, c7_4, 0) :=
  runF_ok hm (A := aT [(6, .call ⟨3, [(0, 0, false), (1, 1, true), (2, 2, true)], (V_munchScannervalid L K sf sp sq sr st sd on ()), (R_munchScannervalid L K sf sp sq sr st sd on ()), []⟩), (15, .val (.bool false)), (23, .val (.bool false)), (33, .val (.bool false)), (39, .call ⟨0, [], (V_munchscanext sf sp sq sr st sd ()), (R_munchscanext sf sp sq sr st sd ()), []⟩), (42, .val (.bool false)), (56, .call ⟨2, [(0, 1, true), (1, 2, true)], (V_munchscanexamineo L K sf sp sq sr st sd x 1 (c7_0, c7_1, c7_2, c7_3, c7_4)), (R_munchscanexamineo L K sf sp sq sr st sd x 1 (c7_0, c7_1, c7_2, c7_3, c7_4)), [(3, 2, false)]⟩)]) (L := lT []) (wk := ⟨[4, 5], [(0, 0, false), (1, 1, true), (2, 2, true)], 3, 0⟩)
    (ps := [G_munchScannervalid L K sf sp sq sr st sd on (),
    FlatB (.cells (layT (iv L)) 3),
    FlatB (.cells (layT (iv K)) 3),
    (Value.bool (!on)) = (Value.bool false),
    (Value.bool sd) = (Value.bool false),
    (Value.bool (decide (sf ≥ (((x).size : Nat) : Int)))) = (Value.bool false),
    G_munchscanext sf sp sq sr st sd (),
    (Value.bool (decide ((w64 (sf + sp)) > (((x).size : Nat) : Int)))) = (Value.bool false),
    G_munchscanexamineo L K sf sp sq sr st sd x 1 (c7_0, c7_1, c7_2, c7_3, c7_4),
    FlatB (.cells (layT (iv L)) 3),
    FlatB (.cells (layT (iv K)) 3),
    FlatB (.cells (layT (iv L)) 3),
    FlatB (.cells (layT (iv K)) 3)]) (by kernel_rfl) ⟨(m_munchScannervalid_ok n L K sf sp sq sr st sd on () hc1), (iv_flat _ _), (iv_flat _ _), (vBn hc2), (vB (Bool.eq_false_iff.2 hc3)), (vbF hc4), (m_munchscanext_ok n sf sp sq sr st sd () hc5), (vbF hc6), (m_munchscanexamineo_ok n L K sf sp sq sr st sd x 1 (c7_0, c7_1, c7_2, c7_3, c7_4) hc7), (iv_flat _ _), (iv_flat _ _), (iv_flat _ _), (iv_flat _ _), trivial⟩
set_option maxRecDepth 100000 in
theorem p_munchScannerStep_4 (n : Nat) (L : List Int) (K : List Int) (sf : Int) (sp : Int) (sq : Int) (sr : Int) (st : Int) (sd : Bool) (on : Bool) (x : ByteArray) (hc1 : m_munchScannervalid n L K sf sp sq sr st sd on = some ()) (hc2 : ¬ (on = true)) : G_munchScannerStep L K sf sp sq sr st sd on x (sp, sq, sr, st, sd, false, 9) :=
  runF_ok hm (A := aT [(6, .call ⟨3, [(0, 0, false), (1, 1, true), (2, 2, true)], (V_munchScannervalid L K sf sp sq sr st sd on ()), (R_munchScannervalid L K sf sp sq sr st sd on ()), []⟩), (15, .val (.bool true))]) (L := lT []) (wk := ⟨[4, 5], [(0, 0, false), (1, 1, true), (2, 2, true)], 3, 0⟩)
    (ps := [G_munchScannervalid L K sf sp sq sr st sd on (),
    FlatB (.cells (layT (iv L)) 3),
    FlatB (.cells (layT (iv K)) 3),
    (Value.bool (!on)) = (Value.bool true),
    FlatB (.cells (layT (iv L)) 3),
    FlatB (.cells (layT (iv K)) 3)]) (by kernel_rfl) ⟨(m_munchScannervalid_ok n L K sf sp sq sr st sd on () hc1), (iv_flat _ _), (iv_flat _ _), (vBn (Bool.eq_false_iff.2 hc2)), (iv_flat _ _), (iv_flat _ _), trivial⟩
theorem m_munchScannerStep_ok (n : Nat) (L : List Int) (K : List Int) (sf : Int) (sp : Int) (sq : Int) (sr : Int) (st : Int) (sd : Bool) (on : Bool) (x : ByteArray) (r : Int × Int × Int × Int × Bool × Bool × Int) (h : m_munchScannerStep n L K sf sp sq sr st sd on x = some r) : G_munchScannerStep L K sf sp sq sr st sd on x r := by
  unfold m_munchScannerStep at h
  obtain ⟨_, hc1, h⟩ := Option.bind_eq_some_iff.1 h
  by_cases hc2 : on = true
  · rw [if_pos hc2] at h
    by_cases hc3 : sd = true
    · rw [if_pos hc3] at h
      obtain rfl := Option.some.inj h; exact p_munchScannerStep_0 n L K sf sp sq sr st sd on x hc1 hc2 hc3
    · rw [if_neg hc3] at h
      by_cases hc4 : sf ≥ (((x).size : Nat) : Int)
      · rw [if_pos hc4] at h
        obtain rfl := Option.some.inj h; exact p_munchScannerStep_1 n L K sf sp sq sr st sd on x hc1 hc2 hc3 hc4
      · rw [if_neg hc4] at h
        obtain ⟨_, hc5, h⟩ := Option.bind_eq_some_iff.1 h
        by_cases hc6 : (w64 (sf + sp)) > (((x).size : Nat) : Int)
        · rw [if_pos hc6] at h
          obtain rfl := Option.some.inj h; exact p_munchScannerStep_2 n L K sf sp sq sr st sd on x hc1 hc2 hc3 hc4 hc5 hc6
        · rw [if_neg hc6] at h
          obtain ⟨⟨c7_0, c7_1, c7_2, c7_3, c7_4⟩, hc7, h⟩ := Option.bind_eq_some_iff.1 h
          dsimp only at h
          obtain rfl := Option.some.inj h; exact p_munchScannerStep_3 n L K sf sp sq sr st sd on x hc1 hc2 hc3 hc4 hc5 hc6 c7_0 c7_1 c7_2 c7_3 c7_4 hc7
  · rw [if_neg hc2] at h
    obtain rfl := Option.some.inj h; exact p_munchScannerStep_4 n L K sf sp sq sr st sd on x hc1 hc2

noncomputable def A_viewportref06New : List Value := [(Value.agg #[(Value.slice (some ⟨0, 0, some 1⟩) (Args.N).length Args.cN), (Value.slice (some ⟨1, 0, some 1⟩) (Args.R).length Args.cR)])]
noncomputable def H_viewportref06New : AH := ⟨sB [], 0, 0⟩
noncomputable def V_viewportref06New (r : (Unit) ⊕ (Int)) : Value := match r with
  | .inl _ => (Value.tuple #[(Value.pointer (some ⟨0, 0, none⟩)), (Value.int .i64 (0 : Int))])
  | .inr o0 => (Value.tuple #[(Value.pointer none), (Value.int .i64 o0)])
noncomputable def R_viewportref06New (r : (Unit) ⊕ (Int)) : AH := match r with
  | .inl _ => ⟨sB [(0, (some (.cells (layT [(Value.slice (some ⟨0, 0, some 1⟩) (Args.N).length Args.cN), (Value.slice (some ⟨1, 0, some 1⟩) (Args.R).length Args.cR), (Value.bool false), (Value.bool false), (Value.int .i64 (0 : Int)), (Value.int .i64 (0 : Int)), (Value.int .i64 (0 : Int)), (Value.int .i64 (0 : Int)), (Value.int .i64 (0 : Int)), (Value.int .i64 (0 : Int)), (Value.int .i64 (0 : Int))]) 52)))], 1, 0⟩
  | .inr o0 => ⟨sB [], 0, 0⟩
noncomputable abbrev G_viewportref06New  (r : (Unit) ⊕ (Int)) : Prop := Gv P (.func 13) (A_viewportref06New ) (H_viewportref06New ) (V_viewportref06New  r) (R_viewportref06New  r)
def m_viewportref06New (n : Nat) : Option ((Unit) ⊕ (Int)) :=
  (m_viewportref04Check n).bind fun c1_ =>
  if c1_ = (0 : Int) then
    some (.inl ())
  else
    some (.inr c1_)
set_option maxRecDepth 100000 in
theorem p_viewportref06New_0 (n : Nat) (c1_ : Int) (hc1 : m_viewportref04Check n = some c1_) (hc2 : c1_ = (0 : Int)) : G_viewportref06New  (.inl ()) :=
  runF_ok hm (A := aT [(6, .call ⟨0, [], (V_viewportref04Check  c1_), (R_viewportref04Check  c1_), []⟩), (11, .val (.bool false))]) (L := lT []) (wk := ⟨[2, 3], [(0, 1, false)], 1, 0⟩)
    (ps := [G_viewportref04Check  c1_,
    (Value.bool (c1_ != (0 : Int))) = (Value.bool false)]) (by kernel_rfl) ⟨(m_viewportref04Check_ok n c1_ hc1), (vnF hc2), trivial⟩
set_option maxRecDepth 100000 in
theorem p_viewportref06New_1 (n : Nat) (c1_ : Int) (hc1 : m_viewportref04Check n = some c1_) (hc2 : ¬ (c1_ = (0 : Int))) : G_viewportref06New  (.inr c1_) :=
  runF_ok hm (A := aT [(6, .call ⟨0, [], (V_viewportref04Check  c1_), (R_viewportref04Check  c1_), []⟩), (11, .val (.bool true))]) (L := lT []) (wk := ⟨[2, 3], [], 0, 0⟩)
    (ps := [G_viewportref04Check  c1_,
    (Value.bool (c1_ != (0 : Int))) = (Value.bool true)]) (by kernel_rfl) ⟨(m_viewportref04Check_ok n c1_ hc1), (vnT hc2), trivial⟩
theorem m_viewportref06New_ok (n : Nat) (r : (Unit) ⊕ (Int)) (h : m_viewportref06New n = some r) : G_viewportref06New  r := by
  unfold m_viewportref06New at h
  obtain ⟨c1_, hc1, h⟩ := Option.bind_eq_some_iff.1 h
  by_cases hc2 : c1_ = (0 : Int)
  · rw [if_pos hc2] at h
    obtain rfl := Option.some.inj h; exact p_viewportref06New_0 n c1_ hc1 hc2
  · rw [if_neg hc2] at h
    obtain rfl := Option.some.inj h; exact p_viewportref06New_1 n c1_ hc1 hc2

noncomputable def A_viewportref06ScannerBegin (rb : Bool) (rd : Bool) (ra : Int) (rn : Int) (rs : Int) (xr : Int) (xf : Int) (xt : Int) (xe : Int) (a : Int) : List Value := [(Value.pointer (some ⟨0, 0, none⟩)), (Value.int .i64 a)]
noncomputable def H_viewportref06ScannerBegin (rb : Bool) (rd : Bool) (ra : Int) (rn : Int) (rs : Int) (xr : Int) (xf : Int) (xt : Int) (xe : Int) (a : Int) : AH := ⟨sB [(0, (some (.cells (layT [(Value.slice (some ⟨0, 0, some 1⟩) (Args.N).length Args.cN), (Value.slice (some ⟨1, 0, some 1⟩) (Args.R).length Args.cR), (Value.bool rb), (Value.bool rd), (Value.int .i64 ra), (Value.int .i64 rn), (Value.int .i64 rs), (Value.int .i64 xr), (Value.int .i64 xf), (Value.int .i64 xt), (Value.int .i64 xe)]) 52)))], 1, 1⟩
noncomputable def V_viewportref06ScannerBegin (rb : Bool) (rd : Bool) (ra : Int) (rn : Int) (rs : Int) (xr : Int) (xf : Int) (xt : Int) (xe : Int) (a : Int) (r : Bool × Bool × Int × Int × Int × Int × Int × Int × Int × Int) : Value := match r with
  | (o0, o1, o2, o3, o4, o5, o6, o7, o8, o9) => (Value.int .i64 o9)
noncomputable def R_viewportref06ScannerBegin (rb : Bool) (rd : Bool) (ra : Int) (rn : Int) (rs : Int) (xr : Int) (xf : Int) (xt : Int) (xe : Int) (a : Int) (r : Bool × Bool × Int × Int × Int × Int × Int × Int × Int × Int) : AH := match r with
  | (o0, o1, o2, o3, o4, o5, o6, o7, o8, o9) => ⟨sB [(0, (some (.cells (layT [(Value.slice (some ⟨0, 0, some 1⟩) (Args.N).length Args.cN), (Value.slice (some ⟨1, 0, some 1⟩) (Args.R).length Args.cR), (Value.bool o0), (Value.bool o1), (Value.int .i64 o2), (Value.int .i64 o3), (Value.int .i64 o4), (Value.int .i64 o5), (Value.int .i64 o6), (Value.int .i64 o7), (Value.int .i64 o8)]) 52)))], 1, 0⟩
noncomputable abbrev G_viewportref06ScannerBegin (rb : Bool) (rd : Bool) (ra : Int) (rn : Int) (rs : Int) (xr : Int) (xf : Int) (xt : Int) (xe : Int) (a : Int) (r : Bool × Bool × Int × Int × Int × Int × Int × Int × Int × Int) : Prop := Gv P (.func 16) (A_viewportref06ScannerBegin rb rd ra rn rs xr xf xt xe a) (H_viewportref06ScannerBegin rb rd ra rn rs xr xf xt xe a) (V_viewportref06ScannerBegin rb rd ra rn rs xr xf xt xe a r) (R_viewportref06ScannerBegin rb rd ra rn rs xr xf xt xe a r)
def m_viewportref06ScannerBegin (n : Nat) (rb : Bool) (rd : Bool) (ra : Int) (rn : Int) (rs : Int) (xr : Int) (xf : Int) (xt : Int) (xe : Int) (a : Int) : Option (Bool × Bool × Int × Int × Int × Int × Int × Int × Int × Int) :=
  if a < (0 : Int) then
    some (rb, rd, ra, rn, rs, xr, xf, xt, xe, 2)
  else
    some (true, false, a, 0, 0, (-1), a, (w64 (a + (1 : Int))), 0, 0)
set_option maxRecDepth 100000 in
theorem p_viewportref06ScannerBegin_0 (n : Nat) (rb : Bool) (rd : Bool) (ra : Int) (rn : Int) (rs : Int) (xr : Int) (xf : Int) (xt : Int) (xe : Int) (a : Int) (hc1 : a < (0 : Int)) : G_viewportref06ScannerBegin rb rd ra rn rs xr xf xt xe a (rb, rd, ra, rn, rs, xr, xf, xt, xe, 2) :=
  runF_ok hm (A := aT [(5, .val (.bool true))]) (L := lT []) (wk := ⟨[4], [(0, 0, false)], 1, 0⟩)
    (ps := [(Value.bool (decide (a < (0 : Int)))) = (Value.bool true)]) (by kernel_rfl) ⟨(vbT hc1), trivial⟩
set_option maxRecDepth 100000 in
theorem p_viewportref06ScannerBegin_1 (n : Nat) (rb : Bool) (rd : Bool) (ra : Int) (rn : Int) (rs : Int) (xr : Int) (xf : Int) (xt : Int) (xe : Int) (a : Int) (hc1 : ¬ (a < (0 : Int))) : G_viewportref06ScannerBegin rb rd ra rn rs xr xf xt xe a (true, false, a, 0, 0, (-1), a, (w64 (a + (1 : Int))), 0, 0) :=
  runF_ok hm (A := aT [(5, .val (.bool false))]) (L := lT []) (wk := ⟨[4], [(0, 0, false)], 1, 0⟩)
    (ps := [(Value.bool (decide (a < (0 : Int)))) = (Value.bool false)]) (by kernel_rfl) ⟨(vbF hc1), trivial⟩
theorem m_viewportref06ScannerBegin_ok (n : Nat) (rb : Bool) (rd : Bool) (ra : Int) (rn : Int) (rs : Int) (xr : Int) (xf : Int) (xt : Int) (xe : Int) (a : Int) (r : Bool × Bool × Int × Int × Int × Int × Int × Int × Int × Int) (h : m_viewportref06ScannerBegin n rb rd ra rn rs xr xf xt xe a = some r) : G_viewportref06ScannerBegin rb rd ra rn rs xr xf xt xe a r := by
  unfold m_viewportref06ScannerBegin at h
  by_cases hc1 : a < (0 : Int)
  · rw [if_pos hc1] at h
    obtain rfl := Option.some.inj h; exact p_viewportref06ScannerBegin_0 n rb rd ra rn rs xr xf xt xe a hc1
  · rw [if_neg hc1] at h
    obtain rfl := Option.some.inj h; exact p_viewportref06ScannerBegin_1 n rb rd ra rn rs xr xf xt xe a hc1

noncomputable def A_viewportref06ScannerLexeme (rb : Bool) (rd : Bool) (ra : Int) (rn : Int) (rs : Int) (xr : Int) (xf : Int) (xt : Int) (xe : Int) : List Value := [(Value.pointer (some ⟨0, 0, none⟩))]
noncomputable def H_viewportref06ScannerLexeme (rb : Bool) (rd : Bool) (ra : Int) (rn : Int) (rs : Int) (xr : Int) (xf : Int) (xt : Int) (xe : Int) : AH := ⟨sB [(0, (some (.cells (layT [(Value.slice (some ⟨0, 0, some 1⟩) (Args.N).length Args.cN), (Value.slice (some ⟨1, 0, some 1⟩) (Args.R).length Args.cR), (Value.bool rb), (Value.bool rd), (Value.int .i64 ra), (Value.int .i64 rn), (Value.int .i64 rs), (Value.int .i64 xr), (Value.int .i64 xf), (Value.int .i64 xt), (Value.int .i64 xe)]) 52)))], 1, 1⟩
noncomputable def V_viewportref06ScannerLexeme (rb : Bool) (rd : Bool) (ra : Int) (rn : Int) (rs : Int) (xr : Int) (xf : Int) (xt : Int) (xe : Int) (r : Int × Int × Int × Int × Bool) : Value := match r with
  | (o0, o1, o2, o3, o4) => (Value.tuple #[(Value.agg #[(Value.int .i64 o0), (Value.int .i64 o1), (Value.int .i64 o2), (Value.int .i64 o3)]), (Value.bool o4)])
noncomputable def R_viewportref06ScannerLexeme (rb : Bool) (rd : Bool) (ra : Int) (rn : Int) (rs : Int) (xr : Int) (xf : Int) (xt : Int) (xe : Int) (r : Int × Int × Int × Int × Bool) : AH := match r with
  | (o0, o1, o2, o3, o4) => ⟨sB [(1, (some (.cells (layT [(Value.int .i64 o0), (Value.int .i64 o1), (Value.int .i64 o2), (Value.int .i64 o3)]) 28)))], 2, 1⟩
noncomputable abbrev G_viewportref06ScannerLexeme (rb : Bool) (rd : Bool) (ra : Int) (rn : Int) (rs : Int) (xr : Int) (xf : Int) (xt : Int) (xe : Int) (r : Int × Int × Int × Int × Bool) : Prop := Gv P (.func 20) (A_viewportref06ScannerLexeme rb rd ra rn rs xr xf xt xe) (H_viewportref06ScannerLexeme rb rd ra rn rs xr xf xt xe) (V_viewportref06ScannerLexeme rb rd ra rn rs xr xf xt xe r) (R_viewportref06ScannerLexeme rb rd ra rn rs xr xf xt xe r)
def m_viewportref06ScannerLexeme (n : Nat) (rb : Bool) (rd : Bool) (ra : Int) (rn : Int) (rs : Int) (xr : Int) (xf : Int) (xt : Int) (xe : Int) : Option (Int × Int × Int × Int × Bool) :=
  if rd = true then
    some (xr, xf, xt, (w64 (ra + rn)), true)
  else
    some (0, 0, 0, 0, false)
set_option maxRecDepth 100000 in
theorem p_viewportref06ScannerLexeme_0 (n : Nat) (rb : Bool) (rd : Bool) (ra : Int) (rn : Int) (rs : Int) (xr : Int) (xf : Int) (xt : Int) (xe : Int) (hc1 : rd = true) : G_viewportref06ScannerLexeme rb rd ra rn rs xr xf xt xe (xr, xf, xt, (w64 (ra + rn)), true) :=
  runF_ok hm (A := aT [(9, .val (.bool false))]) (L := lT []) (wk := ⟨[2, 3], [(1, 1, false)], 2, 1⟩)
    (ps := [(Value.bool (!rd)) = (Value.bool false)]) (by kernel_rfl) ⟨(vBn hc1), trivial⟩
set_option maxRecDepth 100000 in
theorem p_viewportref06ScannerLexeme_1 (n : Nat) (rb : Bool) (rd : Bool) (ra : Int) (rn : Int) (rs : Int) (xr : Int) (xf : Int) (xt : Int) (xe : Int) (hc1 : ¬ (rd = true)) : G_viewportref06ScannerLexeme rb rd ra rn rs xr xf xt xe (0, 0, 0, 0, false) :=
  runF_ok hm (A := aT [(9, .val (.bool true))]) (L := lT []) (wk := ⟨[2, 3], [(1, 1, false)], 2, 1⟩)
    (ps := [(Value.bool (!rd)) = (Value.bool true)]) (by kernel_rfl) ⟨(vBn (Bool.eq_false_iff.2 hc1)), trivial⟩
theorem m_viewportref06ScannerLexeme_ok (n : Nat) (rb : Bool) (rd : Bool) (ra : Int) (rn : Int) (rs : Int) (xr : Int) (xf : Int) (xt : Int) (xe : Int) (r : Int × Int × Int × Int × Bool) (h : m_viewportref06ScannerLexeme n rb rd ra rn rs xr xf xt xe = some r) : G_viewportref06ScannerLexeme rb rd ra rn rs xr xf xt xe r := by
  unfold m_viewportref06ScannerLexeme at h
  by_cases hc1 : rd = true
  · rw [if_pos hc1] at h
    obtain rfl := Option.some.inj h; exact p_viewportref06ScannerLexeme_0 n rb rd ra rn rs xr xf xt xe hc1
  · rw [if_neg hc1] at h
    obtain rfl := Option.some.inj h; exact p_viewportref06ScannerLexeme_1 n rb rd ra rn rs xr xf xt xe hc1

noncomputable def A_viewportref06ScannerExt (rb : Bool) (rd : Bool) (ra : Int) (rn : Int) (rs : Int) (xr : Int) (xf : Int) (xt : Int) (xe : Int) : List Value := [(Value.pointer (some ⟨0, 0, none⟩))]
noncomputable def H_viewportref06ScannerExt (rb : Bool) (rd : Bool) (ra : Int) (rn : Int) (rs : Int) (xr : Int) (xf : Int) (xt : Int) (xe : Int) : AH := ⟨sB [(0, (some (.cells (layT [(Value.slice (some ⟨0, 0, some 1⟩) (Args.N).length Args.cN), (Value.slice (some ⟨1, 0, some 1⟩) (Args.R).length Args.cR), (Value.bool rb), (Value.bool rd), (Value.int .i64 ra), (Value.int .i64 rn), (Value.int .i64 rs), (Value.int .i64 xr), (Value.int .i64 xf), (Value.int .i64 xt), (Value.int .i64 xe)]) 52)))], 1, 1⟩
noncomputable def V_viewportref06ScannerExt (rb : Bool) (rd : Bool) (ra : Int) (rn : Int) (rs : Int) (xr : Int) (xf : Int) (xt : Int) (xe : Int) (r : Unit) : Value := match r with
  | _ => (Value.int .i64 (w64 (ra + rn)))
noncomputable def R_viewportref06ScannerExt (rb : Bool) (rd : Bool) (ra : Int) (rn : Int) (rs : Int) (xr : Int) (xf : Int) (xt : Int) (xe : Int) (r : Unit) : AH := match r with
  | _ => ⟨sB [], 1, 1⟩
noncomputable abbrev G_viewportref06ScannerExt (rb : Bool) (rd : Bool) (ra : Int) (rn : Int) (rs : Int) (xr : Int) (xf : Int) (xt : Int) (xe : Int) (r : Unit) : Prop := Gv P (.func 22) (A_viewportref06ScannerExt rb rd ra rn rs xr xf xt xe) (H_viewportref06ScannerExt rb rd ra rn rs xr xf xt xe) (V_viewportref06ScannerExt rb rd ra rn rs xr xf xt xe r) (R_viewportref06ScannerExt rb rd ra rn rs xr xf xt xe r)
def m_viewportref06ScannerExt (n : Nat) (rb : Bool) (rd : Bool) (ra : Int) (rn : Int) (rs : Int) (xr : Int) (xf : Int) (xt : Int) (xe : Int) : Option (Unit) :=
  some ()
set_option maxRecDepth 100000 in
theorem p_viewportref06ScannerExt_0 (n : Nat) (rb : Bool) (rd : Bool) (ra : Int) (rn : Int) (rs : Int) (xr : Int) (xf : Int) (xt : Int) (xe : Int) : G_viewportref06ScannerExt rb rd ra rn rs xr xf xt xe () :=
  runF_ok hm (A := aT []) (L := lT []) (wk := ⟨[2], [], 1, 1⟩)
    (ps := []) (by kernel_rfl) trivial
theorem m_viewportref06ScannerExt_ok (n : Nat) (rb : Bool) (rd : Bool) (ra : Int) (rn : Int) (rs : Int) (xr : Int) (xf : Int) (xt : Int) (xe : Int) (r : Unit) (h : m_viewportref06ScannerExt n rb rd ra rn rs xr xf xt xe = some r) : G_viewportref06ScannerExt rb rd ra rn rs xr xf xt xe r := by
  unfold m_viewportref06ScannerExt at h
  obtain rfl := Option.some.inj h; exact p_viewportref06ScannerExt_0 n rb rd ra rn rs xr xf xt xe

noncomputable def A_viewportref06ScannerStep (rb : Bool) (rd : Bool) (ra : Int) (rn : Int) (rs : Int) (xr : Int) (xf : Int) (xt : Int) (xe : Int) (x : ByteArray) : List Value := [(Value.pointer (some ⟨0, 0, none⟩)), (Value.string x)]
noncomputable def H_viewportref06ScannerStep (rb : Bool) (rd : Bool) (ra : Int) (rn : Int) (rs : Int) (xr : Int) (xf : Int) (xt : Int) (xe : Int) (x : ByteArray) : AH := ⟨sB [(0, (some (.cells (layT [(Value.slice (some ⟨0, 0, some 1⟩) (Args.N).length Args.cN), (Value.slice (some ⟨1, 0, some 1⟩) (Args.R).length Args.cR), (Value.bool rb), (Value.bool rd), (Value.int .i64 ra), (Value.int .i64 rn), (Value.int .i64 rs), (Value.int .i64 xr), (Value.int .i64 xf), (Value.int .i64 xt), (Value.int .i64 xe)]) 52)))], 1, 1⟩
noncomputable def V_viewportref06ScannerStep (rb : Bool) (rd : Bool) (ra : Int) (rn : Int) (rs : Int) (xr : Int) (xf : Int) (xt : Int) (xe : Int) (x : ByteArray) (r : Bool × Int × Int × Int × Int × Bool × Int) : Value := match r with
  | (o0, o1, o2, o3, o4, o5, o6) => (Value.tuple #[(Value.bool o5), (Value.int .i64 o6)])
noncomputable def R_viewportref06ScannerStep (rb : Bool) (rd : Bool) (ra : Int) (rn : Int) (rs : Int) (xr : Int) (xf : Int) (xt : Int) (xe : Int) (x : ByteArray) (r : Bool × Int × Int × Int × Int × Bool × Int) : AH := match r with
  | (o0, o1, o2, o3, o4, o5, o6) => ⟨sB [(0, (some (.cells (layT [(Value.slice (some ⟨0, 0, some 1⟩) (Args.N).length Args.cN), (Value.slice (some ⟨1, 0, some 1⟩) (Args.R).length Args.cR), (Value.bool rb), (Value.bool o0), (Value.int .i64 ra), (Value.int .i64 o1), (Value.int .i64 o2), (Value.int .i64 o3), (Value.int .i64 xf), (Value.int .i64 o4), (Value.int .i64 xe)]) 52)))], 1, 0⟩
noncomputable abbrev G_viewportref06ScannerStep (rb : Bool) (rd : Bool) (ra : Int) (rn : Int) (rs : Int) (xr : Int) (xf : Int) (xt : Int) (xe : Int) (x : ByteArray) (r : Bool × Int × Int × Int × Int × Bool × Int) : Prop := Gv P (.func 18) (A_viewportref06ScannerStep rb rd ra rn rs xr xf xt xe x) (H_viewportref06ScannerStep rb rd ra rn rs xr xf xt xe x) (V_viewportref06ScannerStep rb rd ra rn rs xr xf xt xe x r) (R_viewportref06ScannerStep rb rd ra rn rs xr xf xt xe x r)
def m_viewportref06ScannerStep (n : Nat) (rb : Bool) (rd : Bool) (ra : Int) (rn : Int) (rs : Int) (xr : Int) (xf : Int) (xt : Int) (xe : Int) (x : ByteArray) : Option (Bool × Int × Int × Int × Int × Bool × Int) :=
  if rb = true then
    if rd = true then
      some (rd, rn, rs, xr, xt, false, 9)
    else
      if ra ≥ (((x).size : Nat) : Int) then
        some (rd, rn, rs, xr, xt, false, 2)
      else
        if (w64 (ra + rn)) > (((x).size : Nat) : Int) then
          some (rd, rn, rs, xr, xt, false, 2)
        else
          if (w64 (ra + rn)) = (((x).size : Nat) : Int) then
            some (true, (w64 (rn + (1 : Int))), rs, xr, xt, true, 0)
          else
            if 0 ≤ (w64 (ra + rn)) ∧ (w64 (ra + rn)) < (((x).size : Nat) : Int) then
              if 0 ≤ (w64 ((w64 ((256 : Int) * rs)) + (IntKind.i64.wrap (byteAt x ((w64 (ra + rn))).toNat)))) ∧ (w64 ((w64 ((256 : Int) * rs)) + (IntKind.i64.wrap (byteAt x ((w64 (ra + rn))).toNat)))) < (((Args.N).length : Nat) : Int) then
                if ((Args.N).getD ((w64 ((w64 ((256 : Int) * rs)) + (IntKind.i64.wrap (byteAt x ((w64 (ra + rn))).toNat))))).toNat 0) < (0 : Int) then
                  some (true, (w64 (rn + (1 : Int))), ((Args.N).getD ((w64 ((w64 ((256 : Int) * rs)) + (IntKind.i64.wrap (byteAt x ((w64 (ra + rn))).toNat))))).toNat 0), xr, xt, true, 0)
                else
                  if 0 ≤ ((Args.N).getD ((w64 ((w64 ((256 : Int) * rs)) + (IntKind.i64.wrap (byteAt x ((w64 (ra + rn))).toNat))))).toNat 0) ∧ ((Args.N).getD ((w64 ((w64 ((256 : Int) * rs)) + (IntKind.i64.wrap (byteAt x ((w64 (ra + rn))).toNat))))).toNat 0) < (((Args.R).length : Nat) : Int) then
                    if ((Args.R).getD (((Args.N).getD ((w64 ((w64 ((256 : Int) * rs)) + (IntKind.i64.wrap (byteAt x ((w64 (ra + rn))).toNat))))).toNat 0)).toNat 0) ≥ (0 : Int) then
                      some (rd, (w64 (rn + (1 : Int))), ((Args.N).getD ((w64 ((w64 ((256 : Int) * rs)) + (IntKind.i64.wrap (byteAt x ((w64 (ra + rn))).toNat))))).toNat 0), ((Args.R).getD (((Args.N).getD ((w64 ((w64 ((256 : Int) * rs)) + (IntKind.i64.wrap (byteAt x ((w64 (ra + rn))).toNat))))).toNat 0)).toNat 0), (w64 ((w64 (ra + rn)) + (1 : Int))), rd, 0)
                    else
                      some (rd, (w64 (rn + (1 : Int))), ((Args.N).getD ((w64 ((w64 ((256 : Int) * rs)) + (IntKind.i64.wrap (byteAt x ((w64 (ra + rn))).toNat))))).toNat 0), xr, xt, rd, 0)
                  else none
              else none
            else none
  else
    some (rd, rn, rs, xr, xt, false, 9)
set_option maxRecDepth 100000 in
theorem p_viewportref06ScannerStep_0 (n : Nat) (rb : Bool) (rd : Bool) (ra : Int) (rn : Int) (rs : Int) (xr : Int) (xf : Int) (xt : Int) (xe : Int) (x : ByteArray) (hc1 : rb = true) (hc2 : rd = true) : G_viewportref06ScannerStep rb rd ra rn rs xr xf xt xe x (rd, rn, rs, xr, xt, false, 9) :=
  runF_ok hm (A := aT [(9, .val (.bool false)), (16, .val (.bool true))]) (L := lT []) (wk := ⟨[4, 5], [(0, 0, false)], 1, 0⟩)
    (ps := [(Value.bool (!rb)) = (Value.bool false),
    (Value.bool rd) = (Value.bool true)]) (by kernel_rfl) ⟨(vBn hc1), (vB hc2), trivial⟩
set_option maxRecDepth 100000 in
theorem p_viewportref06ScannerStep_1 (n : Nat) (rb : Bool) (rd : Bool) (ra : Int) (rn : Int) (rs : Int) (xr : Int) (xf : Int) (xt : Int) (xe : Int) (x : ByteArray) (hc1 : rb = true) (hc2 : ¬ (rd = true)) (hc3 : ra ≥ (((x).size : Nat) : Int)) : G_viewportref06ScannerStep rb rd ra rn rs xr xf xt xe x (rd, rn, rs, xr, xt, false, 2) :=
  runF_ok hm (A := aT [(9, .val (.bool false)), (16, .val (.bool false)), (36, .val (.bool true))]) (L := lT []) (wk := ⟨[4, 5], [(0, 0, false)], 1, 0⟩)
    (ps := [(Value.bool (!rb)) = (Value.bool false),
    (Value.bool rd) = (Value.bool false),
    (Value.bool (decide (ra ≥ (((x).size : Nat) : Int)))) = (Value.bool true)]) (by kernel_rfl) ⟨(vBn hc1), (vB (Bool.eq_false_iff.2 hc2)), (vbT hc3), trivial⟩
set_option maxRecDepth 100000 in
theorem p_viewportref06ScannerStep_2 (n : Nat) (rb : Bool) (rd : Bool) (ra : Int) (rn : Int) (rs : Int) (xr : Int) (xf : Int) (xt : Int) (xe : Int) (x : ByteArray) (hc1 : rb = true) (hc2 : ¬ (rd = true)) (hc3 : ¬ (ra ≥ (((x).size : Nat) : Int))) (hc4 : (w64 (ra + rn)) > (((x).size : Nat) : Int)) : G_viewportref06ScannerStep rb rd ra rn rs xr xf xt xe x (rd, rn, rs, xr, xt, false, 2) :=
  runF_ok hm (A := aT [(9, .val (.bool false)), (16, .val (.bool false)), (36, .val (.bool false)), (41, .val (.bool true))]) (L := lT []) (wk := ⟨[4, 5], [(0, 0, false)], 1, 0⟩)
    (ps := [(Value.bool (!rb)) = (Value.bool false),
    (Value.bool rd) = (Value.bool false),
    (Value.bool (decide (ra ≥ (((x).size : Nat) : Int)))) = (Value.bool false),
    (Value.bool (decide ((w64 (ra + rn)) > (((x).size : Nat) : Int)))) = (Value.bool true)]) (by kernel_rfl) ⟨(vBn hc1), (vB (Bool.eq_false_iff.2 hc2)), (vbF hc3), (vbT hc4), trivial⟩
set_option maxRecDepth 100000 in
theorem p_viewportref06ScannerStep_3 (n : Nat) (rb : Bool) (rd : Bool) (ra : Int) (rn : Int) (rs : Int) (xr : Int) (xf : Int) (xt : Int) (xe : Int) (x : ByteArray) (hc1 : rb = true) (hc2 : ¬ (rd = true)) (hc3 : ¬ (ra ≥ (((x).size : Nat) : Int))) (hc4 : ¬ ((w64 (ra + rn)) > (((x).size : Nat) : Int))) (hc5 : (w64 (ra + rn)) = (((x).size : Nat) : Int)) : G_viewportref06ScannerStep rb rd ra rn rs xr xf xt xe x (true, (w64 (rn + (1 : Int))), rs, xr, xt, true, 0) :=
  runF_ok hm (A := aT [(9, .val (.bool false)), (16, .val (.bool false)), (36, .val (.bool false)), (41, .val (.bool false)), (58, .val (.bool true))]) (L := lT []) (wk := ⟨[4, 5], [(0, 0, false)], 1, 0⟩)
    (ps := [(Value.bool (!rb)) = (Value.bool false),
    (Value.bool rd) = (Value.bool false),
    (Value.bool (decide (ra ≥ (((x).size : Nat) : Int)))) = (Value.bool false),
    (Value.bool (decide ((w64 (ra + rn)) > (((x).size : Nat) : Int)))) = (Value.bool false),
    (Value.bool ((w64 (ra + rn)) == (((x).size : Nat) : Int))) = (Value.bool true)]) (by kernel_rfl) ⟨(vBn hc1), (vB (Bool.eq_false_iff.2 hc2)), (vbF hc3), (vbF hc4), (veT hc5), trivial⟩
set_option maxRecDepth 100000 in
theorem p_viewportref06ScannerStep_4 (n : Nat) (rb : Bool) (rd : Bool) (ra : Int) (rn : Int) (rs : Int) (xr : Int) (xf : Int) (xt : Int) (xe : Int) (x : ByteArray) (hc1 : rb = true) (hc2 : ¬ (rd = true)) (hc3 : ¬ (ra ≥ (((x).size : Nat) : Int))) (hc4 : ¬ ((w64 (ra + rn)) > (((x).size : Nat) : Int))) (hc5 : ¬ ((w64 (ra + rn)) = (((x).size : Nat) : Int))) (hc6 : 0 ≤ (w64 (ra + rn)) ∧ (w64 (ra + rn)) < (((x).size : Nat) : Int)) (hc7 : 0 ≤ (w64 ((w64 ((256 : Int) * rs)) + (IntKind.i64.wrap (byteAt x ((w64 (ra + rn))).toNat)))) ∧ (w64 ((w64 ((256 : Int) * rs)) + (IntKind.i64.wrap (byteAt x ((w64 (ra + rn))).toNat)))) < (((Args.N).length : Nat) : Int)) (hc8 : ((Args.N).getD ((w64 ((w64 ((256 : Int) * rs)) + (IntKind.i64.wrap (byteAt x ((w64 (ra + rn))).toNat))))).toNat 0) < (0 : Int)) : G_viewportref06ScannerStep rb rd ra rn rs xr xf xt xe x (true, (w64 (rn + (1 : Int))), ((Args.N).getD ((w64 ((w64 ((256 : Int) * rs)) + (IntKind.i64.wrap (byteAt x ((w64 (ra + rn))).toNat))))).toNat 0), xr, xt, true, 0) :=
  runF_ok hm (A := aT [(9, .val (.bool false)), (16, .val (.bool false)), (36, .val (.bool false)), (41, .val (.bool false)), (58, .val (.bool false)), (74, .pur (Value.int .u8 (byteAt x ((w64 (ra + rn))).toNat))), (77, .pur (Value.pointer (some ⟨0, ((w64 ((w64 ((256 : Int) * rs)) + (IntKind.i64.wrap (byteAt x ((w64 (ra + rn))).toNat))))).toNat, some 1⟩))), (78, .ld (Value.int .i64 ((Args.N).getD ((w64 ((w64 ((256 : Int) * rs)) + (IntKind.i64.wrap (byteAt x ((w64 (ra + rn))).toNat))))).toNat 0))), (87, .val (.bool true))]) (L := lT []) (wk := ⟨[4, 5], [(0, 0, false)], 1, 0⟩)
    (ps := [(Value.bool (!rb)) = (Value.bool false),
    (Value.bool rd) = (Value.bool false),
    (Value.bool (decide (ra ≥ (((x).size : Nat) : Int)))) = (Value.bool false),
    (Value.bool (decide ((w64 (ra + rn)) > (((x).size : Nat) : Int)))) = (Value.bool false),
    (Value.bool ((w64 (ra + rn)) == (((x).size : Nat) : Int))) = (Value.bool false),
    opIndex P 9 (Value.string x) (Value.int .i64 (w64 (ra + rn))) Ax.h0 = some ((Value.int .u8 (byteAt x ((w64 (ra + rn))).toNat)), Ax.h0),
    opIndexAddr P 22 (Value.slice (some ⟨0, 0, some 1⟩) (Args.N).length Args.cN) (Value.int .i64 (w64 ((w64 ((256 : Int) * rs)) + (IntKind.i64.wrap (byteAt x ((w64 (ra + rn))).toNat))))) Ax.h0 = some ((Value.pointer (some ⟨0, ((w64 ((w64 ((256 : Int) * rs)) + (IntKind.i64.wrap (byteAt x ((w64 (ra + rn))).toNat))))).toNat, some 1⟩)), Ax.h0),
    loadG P 3 (Value.pointer (some ⟨0, ((w64 ((w64 ((256 : Int) * rs)) + (IntKind.i64.wrap (byteAt x ((w64 (ra + rn))).toNat))))).toNat, some 1⟩)) Ax.h0 = some ((Value.int .i64 ((Args.N).getD ((w64 ((w64 ((256 : Int) * rs)) + (IntKind.i64.wrap (byteAt x ((w64 (ra + rn))).toNat))))).toNat 0)), Ax.h0),
    (Value.bool (decide (((Args.N).getD ((w64 ((w64 ((256 : Int) * rs)) + (IntKind.i64.wrap (byteAt x ((w64 (ra + rn))).toNat))))).toNat 0) < (0 : Int)))) = (Value.bool true)]) (by kernel_rfl) ⟨(vBn hc1), (vB (Bool.eq_false_iff.2 hc2)), (vbF hc3), (vbF hc4), (veF hc5), (ixStr (by kernel_rfl) hc6), (ixW1 (e := 3) (by kernel_rfl) (by kernel_rfl) hc7), (ldW rfl (by kernel_rfl) (toNatLt hc7)), (vbT hc8), trivial⟩
set_option maxRecDepth 100000 in
theorem p_viewportref06ScannerStep_5 (n : Nat) (rb : Bool) (rd : Bool) (ra : Int) (rn : Int) (rs : Int) (xr : Int) (xf : Int) (xt : Int) (xe : Int) (x : ByteArray) (hc1 : rb = true) (hc2 : ¬ (rd = true)) (hc3 : ¬ (ra ≥ (((x).size : Nat) : Int))) (hc4 : ¬ ((w64 (ra + rn)) > (((x).size : Nat) : Int))) (hc5 : ¬ ((w64 (ra + rn)) = (((x).size : Nat) : Int))) (hc6 : 0 ≤ (w64 (ra + rn)) ∧ (w64 (ra + rn)) < (((x).size : Nat) : Int)) (hc7 : 0 ≤ (w64 ((w64 ((256 : Int) * rs)) + (IntKind.i64.wrap (byteAt x ((w64 (ra + rn))).toNat)))) ∧ (w64 ((w64 ((256 : Int) * rs)) + (IntKind.i64.wrap (byteAt x ((w64 (ra + rn))).toNat)))) < (((Args.N).length : Nat) : Int)) (hc8 : ¬ (((Args.N).getD ((w64 ((w64 ((256 : Int) * rs)) + (IntKind.i64.wrap (byteAt x ((w64 (ra + rn))).toNat))))).toNat 0) < (0 : Int))) (hc9 : 0 ≤ ((Args.N).getD ((w64 ((w64 ((256 : Int) * rs)) + (IntKind.i64.wrap (byteAt x ((w64 (ra + rn))).toNat))))).toNat 0) ∧ ((Args.N).getD ((w64 ((w64 ((256 : Int) * rs)) + (IntKind.i64.wrap (byteAt x ((w64 (ra + rn))).toNat))))).toNat 0) < (((Args.R).length : Nat) : Int)) (hc10 : ((Args.R).getD (((Args.N).getD ((w64 ((w64 ((256 : Int) * rs)) + (IntKind.i64.wrap (byteAt x ((w64 (ra + rn))).toNat))))).toNat 0)).toNat 0) ≥ (0 : Int)) : G_viewportref06ScannerStep rb rd ra rn rs xr xf xt xe x (rd, (w64 (rn + (1 : Int))), ((Args.N).getD ((w64 ((w64 ((256 : Int) * rs)) + (IntKind.i64.wrap (byteAt x ((w64 (ra + rn))).toNat))))).toNat 0), ((Args.R).getD (((Args.N).getD ((w64 ((w64 ((256 : Int) * rs)) + (IntKind.i64.wrap (byteAt x ((w64 (ra + rn))).toNat))))).toNat 0)).toNat 0), (w64 ((w64 (ra + rn)) + (1 : Int))), rd, 0) :=
  runF_ok hm (A := aT [(9, .val (.bool false)), (16, .val (.bool false)), (36, .val (.bool false)), (41, .val (.bool false)), (58, .val (.bool false)), (74, .pur (Value.int .u8 (byteAt x ((w64 (ra + rn))).toNat))), (77, .pur (Value.pointer (some ⟨0, ((w64 ((w64 ((256 : Int) * rs)) + (IntKind.i64.wrap (byteAt x ((w64 (ra + rn))).toNat))))).toNat, some 1⟩))), (78, .ld (Value.int .i64 ((Args.N).getD ((w64 ((w64 ((256 : Int) * rs)) + (IntKind.i64.wrap (byteAt x ((w64 (ra + rn))).toNat))))).toNat 0))), (87, .val (.bool false)), (99, .pur (Value.pointer (some ⟨1, (((Args.N).getD ((w64 ((w64 ((256 : Int) * rs)) + (IntKind.i64.wrap (byteAt x ((w64 (ra + rn))).toNat))))).toNat 0)).toNat, some 1⟩))), (100, .ld (Value.int .i64 ((Args.R).getD (((Args.N).getD ((w64 ((w64 ((256 : Int) * rs)) + (IntKind.i64.wrap (byteAt x ((w64 (ra + rn))).toNat))))).toNat 0)).toNat 0))), (101, .val (.bool true)), (114, .pur (Value.pointer (some ⟨1, (((Args.N).getD ((w64 ((w64 ((256 : Int) * rs)) + (IntKind.i64.wrap (byteAt x ((w64 (ra + rn))).toNat))))).toNat 0)).toNat, some 1⟩))), (115, .ld (Value.int .i64 ((Args.R).getD (((Args.N).getD ((w64 ((w64 ((256 : Int) * rs)) + (IntKind.i64.wrap (byteAt x ((w64 (ra + rn))).toNat))))).toNat 0)).toNat 0)))]) (L := lT []) (wk := ⟨[4, 5], [(0, 0, false)], 1, 0⟩)
    (ps := [(Value.bool (!rb)) = (Value.bool false),
    (Value.bool rd) = (Value.bool false),
    (Value.bool (decide (ra ≥ (((x).size : Nat) : Int)))) = (Value.bool false),
    (Value.bool (decide ((w64 (ra + rn)) > (((x).size : Nat) : Int)))) = (Value.bool false),
    (Value.bool ((w64 (ra + rn)) == (((x).size : Nat) : Int))) = (Value.bool false),
    opIndex P 9 (Value.string x) (Value.int .i64 (w64 (ra + rn))) Ax.h0 = some ((Value.int .u8 (byteAt x ((w64 (ra + rn))).toNat)), Ax.h0),
    opIndexAddr P 22 (Value.slice (some ⟨0, 0, some 1⟩) (Args.N).length Args.cN) (Value.int .i64 (w64 ((w64 ((256 : Int) * rs)) + (IntKind.i64.wrap (byteAt x ((w64 (ra + rn))).toNat))))) Ax.h0 = some ((Value.pointer (some ⟨0, ((w64 ((w64 ((256 : Int) * rs)) + (IntKind.i64.wrap (byteAt x ((w64 (ra + rn))).toNat))))).toNat, some 1⟩)), Ax.h0),
    loadG P 3 (Value.pointer (some ⟨0, ((w64 ((w64 ((256 : Int) * rs)) + (IntKind.i64.wrap (byteAt x ((w64 (ra + rn))).toNat))))).toNat, some 1⟩)) Ax.h0 = some ((Value.int .i64 ((Args.N).getD ((w64 ((w64 ((256 : Int) * rs)) + (IntKind.i64.wrap (byteAt x ((w64 (ra + rn))).toNat))))).toNat 0)), Ax.h0),
    (Value.bool (decide (((Args.N).getD ((w64 ((w64 ((256 : Int) * rs)) + (IntKind.i64.wrap (byteAt x ((w64 (ra + rn))).toNat))))).toNat 0) < (0 : Int)))) = (Value.bool false),
    opIndexAddr P 22 (Value.slice (some ⟨1, 0, some 1⟩) (Args.R).length Args.cR) (Value.int .i64 ((Args.N).getD ((w64 ((w64 ((256 : Int) * rs)) + (IntKind.i64.wrap (byteAt x ((w64 (ra + rn))).toNat))))).toNat 0)) Ax.h0 = some ((Value.pointer (some ⟨1, (((Args.N).getD ((w64 ((w64 ((256 : Int) * rs)) + (IntKind.i64.wrap (byteAt x ((w64 (ra + rn))).toNat))))).toNat 0)).toNat, some 1⟩)), Ax.h0),
    loadG P 3 (Value.pointer (some ⟨1, (((Args.N).getD ((w64 ((w64 ((256 : Int) * rs)) + (IntKind.i64.wrap (byteAt x ((w64 (ra + rn))).toNat))))).toNat 0)).toNat, some 1⟩)) Ax.h0 = some ((Value.int .i64 ((Args.R).getD (((Args.N).getD ((w64 ((w64 ((256 : Int) * rs)) + (IntKind.i64.wrap (byteAt x ((w64 (ra + rn))).toNat))))).toNat 0)).toNat 0)), Ax.h0),
    (Value.bool (decide (((Args.R).getD (((Args.N).getD ((w64 ((w64 ((256 : Int) * rs)) + (IntKind.i64.wrap (byteAt x ((w64 (ra + rn))).toNat))))).toNat 0)).toNat 0) ≥ (0 : Int)))) = (Value.bool true),
    opIndexAddr P 22 (Value.slice (some ⟨1, 0, some 1⟩) (Args.R).length Args.cR) (Value.int .i64 ((Args.N).getD ((w64 ((w64 ((256 : Int) * rs)) + (IntKind.i64.wrap (byteAt x ((w64 (ra + rn))).toNat))))).toNat 0)) Ax.h0 = some ((Value.pointer (some ⟨1, (((Args.N).getD ((w64 ((w64 ((256 : Int) * rs)) + (IntKind.i64.wrap (byteAt x ((w64 (ra + rn))).toNat))))).toNat 0)).toNat, some 1⟩)), Ax.h0),
    loadG P 3 (Value.pointer (some ⟨1, (((Args.N).getD ((w64 ((w64 ((256 : Int) * rs)) + (IntKind.i64.wrap (byteAt x ((w64 (ra + rn))).toNat))))).toNat 0)).toNat, some 1⟩)) Ax.h0 = some ((Value.int .i64 ((Args.R).getD (((Args.N).getD ((w64 ((w64 ((256 : Int) * rs)) + (IntKind.i64.wrap (byteAt x ((w64 (ra + rn))).toNat))))).toNat 0)).toNat 0)), Ax.h0)]) (by kernel_rfl) ⟨(vBn hc1), (vB (Bool.eq_false_iff.2 hc2)), (vbF hc3), (vbF hc4), (veF hc5), (ixStr (by kernel_rfl) hc6), (ixW1 (e := 3) (by kernel_rfl) (by kernel_rfl) hc7), (ldW rfl (by kernel_rfl) (toNatLt hc7)), (vbF hc8), (ixW1 (e := 3) (by kernel_rfl) (by kernel_rfl) hc9), (ldW rfl (by kernel_rfl) (toNatLt hc9)), (vbT hc10), (ixW1 (e := 3) (by kernel_rfl) (by kernel_rfl) hc9), (ldW rfl (by kernel_rfl) (toNatLt hc9)), trivial⟩
set_option maxRecDepth 100000 in
theorem p_viewportref06ScannerStep_6 (n : Nat) (rb : Bool) (rd : Bool) (ra : Int) (rn : Int) (rs : Int) (xr : Int) (xf : Int) (xt : Int) (xe : Int) (x : ByteArray) (hc1 : rb = true) (hc2 : ¬ (rd = true)) (hc3 : ¬ (ra ≥ (((x).size : Nat) : Int))) (hc4 : ¬ ((w64 (ra + rn)) > (((x).size : Nat) : Int))) (hc5 : ¬ ((w64 (ra + rn)) = (((x).size : Nat) : Int))) (hc6 : 0 ≤ (w64 (ra + rn)) ∧ (w64 (ra + rn)) < (((x).size : Nat) : Int)) (hc7 : 0 ≤ (w64 ((w64 ((256 : Int) * rs)) + (IntKind.i64.wrap (byteAt x ((w64 (ra + rn))).toNat)))) ∧ (w64 ((w64 ((256 : Int) * rs)) + (IntKind.i64.wrap (byteAt x ((w64 (ra + rn))).toNat)))) < (((Args.N).length : Nat) : Int)) (hc8 : ¬ (((Args.N).getD ((w64 ((w64 ((256 : Int) * rs)) + (IntKind.i64.wrap (byteAt x ((w64 (ra + rn))).toNat))))).toNat 0) < (0 : Int))) (hc9 : 0 ≤ ((Args.N).getD ((w64 ((w64 ((256 : Int) * rs)) + (IntKind.i64.wrap (byteAt x ((w64 (ra + rn))).toNat))))).toNat 0) ∧ ((Args.N).getD ((w64 ((w64 ((256 : Int) * rs)) + (IntKind.i64.wrap (byteAt x ((w64 (ra + rn))).toNat))))).toNat 0) < (((Args.R).length : Nat) : Int)) (hc10 : ¬ (((Args.R).getD (((Args.N).getD ((w64 ((w64 ((256 : Int) * rs)) + (IntKind.i64.wrap (byteAt x ((w64 (ra + rn))).toNat))))).toNat 0)).toNat 0) ≥ (0 : Int))) : G_viewportref06ScannerStep rb rd ra rn rs xr xf xt xe x (rd, (w64 (rn + (1 : Int))), ((Args.N).getD ((w64 ((w64 ((256 : Int) * rs)) + (IntKind.i64.wrap (byteAt x ((w64 (ra + rn))).toNat))))).toNat 0), xr, xt, rd, 0) :=
  runF_ok hm (A := aT [(9, .val (.bool false)), (16, .val (.bool false)), (36, .val (.bool false)), (41, .val (.bool false)), (58, .val (.bool false)), (74, .pur (Value.int .u8 (byteAt x ((w64 (ra + rn))).toNat))), (77, .pur (Value.pointer (some ⟨0, ((w64 ((w64 ((256 : Int) * rs)) + (IntKind.i64.wrap (byteAt x ((w64 (ra + rn))).toNat))))).toNat, some 1⟩))), (78, .ld (Value.int .i64 ((Args.N).getD ((w64 ((w64 ((256 : Int) * rs)) + (IntKind.i64.wrap (byteAt x ((w64 (ra + rn))).toNat))))).toNat 0))), (87, .val (.bool false)), (99, .pur (Value.pointer (some ⟨1, (((Args.N).getD ((w64 ((w64 ((256 : Int) * rs)) + (IntKind.i64.wrap (byteAt x ((w64 (ra + rn))).toNat))))).toNat 0)).toNat, some 1⟩))), (100, .ld (Value.int .i64 ((Args.R).getD (((Args.N).getD ((w64 ((w64 ((256 : Int) * rs)) + (IntKind.i64.wrap (byteAt x ((w64 (ra + rn))).toNat))))).toNat 0)).toNat 0))), (101, .val (.bool false))]) (L := lT []) (wk := ⟨[4, 5], [(0, 0, false)], 1, 0⟩)
    (ps := [(Value.bool (!rb)) = (Value.bool false),
    (Value.bool rd) = (Value.bool false),
    (Value.bool (decide (ra ≥ (((x).size : Nat) : Int)))) = (Value.bool false),
    (Value.bool (decide ((w64 (ra + rn)) > (((x).size : Nat) : Int)))) = (Value.bool false),
    (Value.bool ((w64 (ra + rn)) == (((x).size : Nat) : Int))) = (Value.bool false),
    opIndex P 9 (Value.string x) (Value.int .i64 (w64 (ra + rn))) Ax.h0 = some ((Value.int .u8 (byteAt x ((w64 (ra + rn))).toNat)), Ax.h0),
    opIndexAddr P 22 (Value.slice (some ⟨0, 0, some 1⟩) (Args.N).length Args.cN) (Value.int .i64 (w64 ((w64 ((256 : Int) * rs)) + (IntKind.i64.wrap (byteAt x ((w64 (ra + rn))).toNat))))) Ax.h0 = some ((Value.pointer (some ⟨0, ((w64 ((w64 ((256 : Int) * rs)) + (IntKind.i64.wrap (byteAt x ((w64 (ra + rn))).toNat))))).toNat, some 1⟩)), Ax.h0),
    loadG P 3 (Value.pointer (some ⟨0, ((w64 ((w64 ((256 : Int) * rs)) + (IntKind.i64.wrap (byteAt x ((w64 (ra + rn))).toNat))))).toNat, some 1⟩)) Ax.h0 = some ((Value.int .i64 ((Args.N).getD ((w64 ((w64 ((256 : Int) * rs)) + (IntKind.i64.wrap (byteAt x ((w64 (ra + rn))).toNat))))).toNat 0)), Ax.h0),
    (Value.bool (decide (((Args.N).getD ((w64 ((w64 ((256 : Int) * rs)) + (IntKind.i64.wrap (byteAt x ((w64 (ra + rn))).toNat))))).toNat 0) < (0 : Int)))) = (Value.bool false),
    opIndexAddr P 22 (Value.slice (some ⟨1, 0, some 1⟩) (Args.R).length Args.cR) (Value.int .i64 ((Args.N).getD ((w64 ((w64 ((256 : Int) * rs)) + (IntKind.i64.wrap (byteAt x ((w64 (ra + rn))).toNat))))).toNat 0)) Ax.h0 = some ((Value.pointer (some ⟨1, (((Args.N).getD ((w64 ((w64 ((256 : Int) * rs)) + (IntKind.i64.wrap (byteAt x ((w64 (ra + rn))).toNat))))).toNat 0)).toNat, some 1⟩)), Ax.h0),
    loadG P 3 (Value.pointer (some ⟨1, (((Args.N).getD ((w64 ((w64 ((256 : Int) * rs)) + (IntKind.i64.wrap (byteAt x ((w64 (ra + rn))).toNat))))).toNat 0)).toNat, some 1⟩)) Ax.h0 = some ((Value.int .i64 ((Args.R).getD (((Args.N).getD ((w64 ((w64 ((256 : Int) * rs)) + (IntKind.i64.wrap (byteAt x ((w64 (ra + rn))).toNat))))).toNat 0)).toNat 0)), Ax.h0),
    (Value.bool (decide (((Args.R).getD (((Args.N).getD ((w64 ((w64 ((256 : Int) * rs)) + (IntKind.i64.wrap (byteAt x ((w64 (ra + rn))).toNat))))).toNat 0)).toNat 0) ≥ (0 : Int)))) = (Value.bool false)]) (by kernel_rfl) ⟨(vBn hc1), (vB (Bool.eq_false_iff.2 hc2)), (vbF hc3), (vbF hc4), (veF hc5), (ixStr (by kernel_rfl) hc6), (ixW1 (e := 3) (by kernel_rfl) (by kernel_rfl) hc7), (ldW rfl (by kernel_rfl) (toNatLt hc7)), (vbF hc8), (ixW1 (e := 3) (by kernel_rfl) (by kernel_rfl) hc9), (ldW rfl (by kernel_rfl) (toNatLt hc9)), (vbF hc10), trivial⟩
set_option maxRecDepth 100000 in
theorem p_viewportref06ScannerStep_7 (n : Nat) (rb : Bool) (rd : Bool) (ra : Int) (rn : Int) (rs : Int) (xr : Int) (xf : Int) (xt : Int) (xe : Int) (x : ByteArray) (hc1 : ¬ (rb = true)) : G_viewportref06ScannerStep rb rd ra rn rs xr xf xt xe x (rd, rn, rs, xr, xt, false, 9) :=
  runF_ok hm (A := aT [(9, .val (.bool true))]) (L := lT []) (wk := ⟨[4, 5], [(0, 0, false)], 1, 0⟩)
    (ps := [(Value.bool (!rb)) = (Value.bool true)]) (by kernel_rfl) ⟨(vBn (Bool.eq_false_iff.2 hc1)), trivial⟩
theorem m_viewportref06ScannerStep_ok (n : Nat) (rb : Bool) (rd : Bool) (ra : Int) (rn : Int) (rs : Int) (xr : Int) (xf : Int) (xt : Int) (xe : Int) (x : ByteArray) (r : Bool × Int × Int × Int × Int × Bool × Int) (h : m_viewportref06ScannerStep n rb rd ra rn rs xr xf xt xe x = some r) : G_viewportref06ScannerStep rb rd ra rn rs xr xf xt xe x r := by
  unfold m_viewportref06ScannerStep at h
  by_cases hc1 : rb = true
  · rw [if_pos hc1] at h
    by_cases hc2 : rd = true
    · rw [if_pos hc2] at h
      obtain rfl := Option.some.inj h; exact p_viewportref06ScannerStep_0 n rb rd ra rn rs xr xf xt xe x hc1 hc2
    · rw [if_neg hc2] at h
      by_cases hc3 : ra ≥ (((x).size : Nat) : Int)
      · rw [if_pos hc3] at h
        obtain rfl := Option.some.inj h; exact p_viewportref06ScannerStep_1 n rb rd ra rn rs xr xf xt xe x hc1 hc2 hc3
      · rw [if_neg hc3] at h
        by_cases hc4 : (w64 (ra + rn)) > (((x).size : Nat) : Int)
        · rw [if_pos hc4] at h
          obtain rfl := Option.some.inj h; exact p_viewportref06ScannerStep_2 n rb rd ra rn rs xr xf xt xe x hc1 hc2 hc3 hc4
        · rw [if_neg hc4] at h
          by_cases hc5 : (w64 (ra + rn)) = (((x).size : Nat) : Int)
          · rw [if_pos hc5] at h
            obtain rfl := Option.some.inj h; exact p_viewportref06ScannerStep_3 n rb rd ra rn rs xr xf xt xe x hc1 hc2 hc3 hc4 hc5
          · rw [if_neg hc5] at h
            by_cases hc6 : 0 ≤ (w64 (ra + rn)) ∧ (w64 (ra + rn)) < (((x).size : Nat) : Int)
            · rw [if_pos hc6] at h
              by_cases hc7 : 0 ≤ (w64 ((w64 ((256 : Int) * rs)) + (IntKind.i64.wrap (byteAt x ((w64 (ra + rn))).toNat)))) ∧ (w64 ((w64 ((256 : Int) * rs)) + (IntKind.i64.wrap (byteAt x ((w64 (ra + rn))).toNat)))) < (((Args.N).length : Nat) : Int)
              · rw [if_pos hc7] at h
                by_cases hc8 : ((Args.N).getD ((w64 ((w64 ((256 : Int) * rs)) + (IntKind.i64.wrap (byteAt x ((w64 (ra + rn))).toNat))))).toNat 0) < (0 : Int)
                · rw [if_pos hc8] at h
                  obtain rfl := Option.some.inj h; exact p_viewportref06ScannerStep_4 n rb rd ra rn rs xr xf xt xe x hc1 hc2 hc3 hc4 hc5 hc6 hc7 hc8
                · rw [if_neg hc8] at h
                  by_cases hc9 : 0 ≤ ((Args.N).getD ((w64 ((w64 ((256 : Int) * rs)) + (IntKind.i64.wrap (byteAt x ((w64 (ra + rn))).toNat))))).toNat 0) ∧ ((Args.N).getD ((w64 ((w64 ((256 : Int) * rs)) + (IntKind.i64.wrap (byteAt x ((w64 (ra + rn))).toNat))))).toNat 0) < (((Args.R).length : Nat) : Int)
                  · rw [if_pos hc9] at h
                    by_cases hc10 : ((Args.R).getD (((Args.N).getD ((w64 ((w64 ((256 : Int) * rs)) + (IntKind.i64.wrap (byteAt x ((w64 (ra + rn))).toNat))))).toNat 0)).toNat 0) ≥ (0 : Int)
                    · rw [if_pos hc10] at h
                      obtain rfl := Option.some.inj h; exact p_viewportref06ScannerStep_5 n rb rd ra rn rs xr xf xt xe x hc1 hc2 hc3 hc4 hc5 hc6 hc7 hc8 hc9 hc10
                    · rw [if_neg hc10] at h
                      obtain rfl := Option.some.inj h; exact p_viewportref06ScannerStep_6 n rb rd ra rn rs xr xf xt xe x hc1 hc2 hc3 hc4 hc5 hc6 hc7 hc8 hc9 hc10
                  · rw [if_neg hc9] at h; cases h
              · rw [if_neg hc7] at h; cases h
            · rw [if_neg hc6] at h; cases h
  · rw [if_neg hc1] at h
    obtain rfl := Option.some.inj h; exact p_viewportref06ScannerStep_7 n rb rd ra rn rs xr xf xt xe x hc1

noncomputable def S_viewportlaw06MunchScript_2 (x2_0 : List Int) (x2_1 : List Int) (x2_2 : Int) (x2_8 : Bool) (x2_9 : Bool) (x2_11 : Int) (x2_15 : Int) (x2_17 : Int) (x2_18 : Int) (x2_19 : Int) (st : Int × Int × Int × Int × Bool × Bool × Int × Int × Int × Int × Int) : XSt := match st with
  | (x2_3, x2_4, x2_5, x2_6, x2_7, x2_10, x2_12, x2_13, x2_14, x2_16, x2_20) => (sT 168 [(1, (Value.slice (some ⟨2, 0, some 1⟩) (Args.L).length Args.cL)), (5, (Value.pointer (some ⟨0, 0, none⟩))), (7, (Value.pointer (some ⟨3, 0, none⟩))), (9, (Value.int .i64 x2_18)), (10, (Value.int .i64 x2_19)), (11, (Value.int .i64 x2_20))], [], ⟨sB [(0, (some (.cells (layT [(Value.pointer (some ⟨0, 0, none⟩)), (Value.slice (some ⟨1, 0, none⟩) (x2_0).length (Nat.add big 1)), (Value.slice (some ⟨2, 0, none⟩) (x2_1).length (Nat.add big 1)), (Value.int .i64 x2_2), (Value.int .i64 x2_3), (Value.int .i64 x2_4), (Value.int .i64 x2_5), (Value.int .i64 x2_6), (Value.bool x2_7), (Value.bool x2_8)]) 61))), (1, (some (.cells (layT (iv x2_0)) 3))), (2, (some (.cells (layT (iv x2_1)) 3))), (3, (some (.cells (layT [(Value.slice (some ⟨0, 0, some 1⟩) (Args.N).length Args.cN), (Value.slice (some ⟨1, 0, some 1⟩) (Args.R).length Args.cR), (Value.bool x2_9), (Value.bool x2_10), (Value.int .i64 x2_11), (Value.int .i64 x2_12), (Value.int .i64 x2_13), (Value.int .i64 x2_14), (Value.int .i64 x2_15), (Value.int .i64 x2_16), (Value.int .i64 x2_17)]) 52)))], 4, 0⟩)
noncomputable def X_viewportlaw06MunchScript_2 (x2_0 : List Int) (x2_1 : List Int) (x2_2 : Int) (x2_8 : Bool) (x2_9 : Bool) (x2_11 : Int) (x2_15 : Int) (x2_17 : Int) (x2_18 : Int) (x2_19 : Int) (r : Int × Int × Int × Int × Bool × Bool × Int × Int × Int × Int) : Ex × XSt := match r with
  | (z2_0, z2_1, z2_2, z2_3, z2_4, z2_5, z2_6, z2_7, z2_8, z2_9) => (.exit 2, (sT 168 [(1, (Value.slice (some ⟨2, 0, some 1⟩) (Args.L).length Args.cL)), (5, (Value.pointer (some ⟨0, 0, none⟩))), (7, (Value.pointer (some ⟨3, 0, none⟩))), (9, (Value.int .i64 x2_18))], [], ⟨sB [(0, (some (.cells (layT [(Value.pointer (some ⟨0, 0, none⟩)), (Value.slice (some ⟨1, 0, none⟩) (x2_0).length (Nat.add big 1)), (Value.slice (some ⟨2, 0, none⟩) (x2_1).length (Nat.add big 1)), (Value.int .i64 x2_2), (Value.int .i64 z2_0), (Value.int .i64 z2_1), (Value.int .i64 z2_2), (Value.int .i64 z2_3), (Value.bool z2_4), (Value.bool x2_8)]) 61))), (1, (some (.cells (layT (iv x2_0)) 3))), (2, (some (.cells (layT (iv x2_1)) 3))), (3, (some (.cells (layT [(Value.slice (some ⟨0, 0, some 1⟩) (Args.N).length Args.cN), (Value.slice (some ⟨1, 0, some 1⟩) (Args.R).length Args.cR), (Value.bool x2_9), (Value.bool z2_5), (Value.int .i64 x2_11), (Value.int .i64 z2_6), (Value.int .i64 z2_7), (Value.int .i64 z2_8), (Value.int .i64 x2_15), (Value.int .i64 z2_9), (Value.int .i64 x2_17)]) 52)))], 4, 0⟩))
def B_viewportlaw06MunchScript_2 (n : Nat) (x2_0 : List Int) (x2_1 : List Int) (x2_2 : Int) (x2_8 : Bool) (x2_9 : Bool) (x2_11 : Int) (x2_15 : Int) (x2_17 : Int) (x2_18 : Int) (x2_19 : Int) (st : Int × Int × Int × Int × Bool × Bool × Int × Int × Int × Int × Int) : Option ((Int × Int × Int × Int × Bool × Bool × Int × Int × Int × Int × Int) ⊕ (Int × Int × Int × Int × Bool × Bool × Int × Int × Int × Int)) := match st with
  | (x2_3, x2_4, x2_5, x2_6, x2_7, x2_10, x2_12, x2_13, x2_14, x2_16, x2_20) =>
    if x2_20 < x2_19 then
      if 0 ≤ x2_18 ∧ x2_18 < (((Args.L).length : Nat) : Int) then
        (m_munchScannerStep n x2_0 x2_1 x2_2 x2_3 x2_4 x2_5 x2_6 x2_7 x2_8 (((Args.L).getD (x2_18).toNat (0, 0, ByteArray.empty)).2.2)).bind fun t => match t with
        | (y2_3_0, y2_3_1, y2_3_2, y2_3_3, y2_3_4, y2_3_5, y2_3_6) =>
          (m_viewportref06ScannerStep n x2_9 x2_10 x2_11 x2_12 x2_13 x2_14 x2_15 x2_16 x2_17 (((Args.L).getD (x2_18).toNat (0, 0, ByteArray.empty)).2.2)).bind fun t => match t with
          | (y2_4_0, y2_4_1, y2_4_2, y2_4_3, y2_4_4, y2_4_5, y2_4_6) =>
            if y2_3_5 = true then
              if y2_4_5 = true then
                if y2_3_6 = y2_4_6 then
                  some (.inr (y2_3_0, y2_3_1, y2_3_2, y2_3_3, y2_3_4, y2_4_0, y2_4_1, y2_4_2, y2_4_3, y2_4_4))
                else
                  none
              else
                none
            else
              if y2_4_5 = true then
                none
              else
                if y2_3_6 = y2_4_6 then
                  if y2_3_6 = (0 : Int) then
                    some (.inl (y2_3_0, y2_3_1, y2_3_2, y2_3_3, y2_3_4, y2_4_0, y2_4_1, y2_4_2, y2_4_3, y2_4_4, (w64 (x2_20 + (1 : Int)))))
                  else
                    some (.inr (y2_3_0, y2_3_1, y2_3_2, y2_3_3, y2_3_4, y2_4_0, y2_4_1, y2_4_2, y2_4_3, y2_4_4))
                else
                  none
      else none
    else
      some (.inr (x2_3, x2_4, x2_5, x2_6, x2_7, x2_10, x2_12, x2_13, x2_14, x2_16))
def m_viewportlaw06MunchScript_2 (n : Nat) (x2_0 : List Int) (x2_1 : List Int) (x2_2 : Int) (x2_8 : Bool) (x2_9 : Bool) (x2_11 : Int) (x2_15 : Int) (x2_17 : Int) (x2_18 : Int) (x2_19 : Int) (st : Int × Int × Int × Int × Bool × Bool × Int × Int × Int × Int × Int) : Option (Int × Int × Int × Int × Bool × Bool × Int × Int × Int × Int) := iterM (B_viewportlaw06MunchScript_2 n x2_0 x2_1 x2_2 x2_8 x2_9 x2_11 x2_15 x2_17 x2_18 x2_19) n st
set_option maxRecDepth 100000 in
theorem q_viewportlaw06MunchScript_2_0 (n : Nat) (x2_0 : List Int) (x2_1 : List Int) (x2_2 : Int) (x2_3 : Int) (x2_4 : Int) (x2_5 : Int) (x2_6 : Int) (x2_7 : Bool) (x2_8 : Bool) (x2_9 : Bool) (x2_10 : Bool) (x2_11 : Int) (x2_12 : Int) (x2_13 : Int) (x2_14 : Int) (x2_15 : Int) (x2_16 : Int) (x2_17 : Int) (x2_18 : Int) (x2_19 : Int) (x2_20 : Int) (hy2_1 : x2_20 < x2_19) (hy2_2 : 0 ≤ x2_18 ∧ x2_18 < (((Args.L).length : Nat) : Int)) (y2_3_0 : Int) (y2_3_1 : Int) (y2_3_2 : Int) (y2_3_3 : Int) (y2_3_4 : Bool) (y2_3_5 : Bool) (y2_3_6 : Int) (hy2_3 : m_munchScannerStep n x2_0 x2_1 x2_2 x2_3 x2_4 x2_5 x2_6 x2_7 x2_8 (((Args.L).getD (x2_18).toNat (0, 0, ByteArray.empty)).2.2) = some (y2_3_0, y2_3_1, y2_3_2, y2_3_3, y2_3_4, y2_3_5, y2_3_6)) (y2_4_0 : Bool) (y2_4_1 : Int) (y2_4_2 : Int) (y2_4_3 : Int) (y2_4_4 : Int) (y2_4_5 : Bool) (y2_4_6 : Int) (hy2_4 : m_viewportref06ScannerStep n x2_9 x2_10 x2_11 x2_12 x2_13 x2_14 x2_15 x2_16 x2_17 (((Args.L).getD (x2_18).toNat (0, 0, ByteArray.empty)).2.2) = some (y2_4_0, y2_4_1, y2_4_2, y2_4_3, y2_4_4, y2_4_5, y2_4_6)) (hy2_5 : y2_3_5 = true) (hy2_6 : y2_4_5 = true) (hy2_7 : y2_3_6 = y2_4_6) : CG P none (fnN P 4) 0 (codeOf P 4 [false, false, true, false, true, true, true, true, false, false, true, false, false, true, false, true, true, true, true, true, true]) (S_viewportlaw06MunchScript_2 x2_0 x2_1 x2_2 x2_8 x2_9 x2_11 x2_15 x2_17 x2_18 x2_19 (x2_3, x2_4, x2_5, x2_6, x2_7, x2_10, x2_12, x2_13, x2_14, x2_16, x2_20)) (X_viewportlaw06MunchScript_2 x2_0 x2_1 x2_2 x2_8 x2_9 x2_11 x2_15 x2_17 x2_18 x2_19 (y2_3_0, y2_3_1, y2_3_2, y2_3_3, y2_3_4, y2_4_0, y2_4_1, y2_4_2, y2_4_3, y2_4_4)) :=
  runC_ok hm (A := aT [(4, .val (.bool true)), (12, .pur (Value.pointer (some ⟨2, ((x2_18).toNat * 3), some 1⟩))), (13, .pur (Value.pointer (some ⟨2, (Nat.add ((x2_18).toNat * 3) 2), some 1⟩))), (14, .ld (Value.string (((Args.L).getD (x2_18).toNat (0, 0, ByteArray.empty)).2.2))), (15, .call ⟨3, [(0, 0, false), (1, 1, true), (2, 2, true)], (V_munchScannerStep x2_0 x2_1 x2_2 x2_3 x2_4 x2_5 x2_6 x2_7 x2_8 (((Args.L).getD (x2_18).toNat (0, 0, ByteArray.empty)).2.2) (y2_3_0, y2_3_1, y2_3_2, y2_3_3, y2_3_4, y2_3_5, y2_3_6)), (R_munchScannerStep x2_0 x2_1 x2_2 x2_3 x2_4 x2_5 x2_6 x2_7 x2_8 (((Args.L).getD (x2_18).toNat (0, 0, ByteArray.empty)).2.2) (y2_3_0, y2_3_1, y2_3_2, y2_3_3, y2_3_4, y2_3_5, y2_3_6)), [(0, 0, false), (1, 1, true), (2, 2, true)]⟩), (25, .pur (Value.pointer (some ⟨2, ((x2_18).toNat * 3), some 1⟩))), (26, .pur (Value.pointer (some ⟨2, (Nat.add ((x2_18).toNat * 3) 2), some 1⟩))), (27, .ld (Value.string (((Args.L).getD (x2_18).toNat (0, 0, ByteArray.empty)).2.2))), (28, .call ⟨1, [(0, 3, false)], (V_viewportref06ScannerStep x2_9 x2_10 x2_11 x2_12 x2_13 x2_14 x2_15 x2_16 x2_17 (((Args.L).getD (x2_18).toNat (0, 0, ByteArray.empty)).2.2) (y2_4_0, y2_4_1, y2_4_2, y2_4_3, y2_4_4, y2_4_5, y2_4_6)), (R_viewportref06ScannerStep x2_9 x2_10 x2_11 x2_12 x2_13 x2_14 x2_15 x2_16 x2_17 (((Args.L).getD (x2_18).toNat (0, 0, ByteArray.empty)).2.2) (y2_4_0, y2_4_1, y2_4_2, y2_4_3, y2_4_4, y2_4_5, y2_4_6)), [(3, 0, false)]⟩), (38, .val (.bool false)), (42, .val (.bool false)), (47, .val (.bool true))]) (L := lT []) (wk := ⟨[1, 5, 7, 9], [(0, 0, false), (1, 1, true), (2, 2, true), (3, 3, false)], 4, 0⟩)
    (ps := [(Value.bool (decide (x2_20 < x2_19))) = (Value.bool true),
    opIndexAddr P 35 (Value.slice (some ⟨2, 0, some 1⟩) (Args.L).length Args.cL) (Value.int .i64 x2_18) Ax.h0 = some ((Value.pointer (some ⟨2, ((x2_18).toNat * 3), some 1⟩)), Ax.h0),
    opFieldAddr P 44 (Value.pointer (some ⟨2, ((x2_18).toNat * 3), some 1⟩)) 2 Ax.h0 = some ((Value.pointer (some ⟨2, (Nat.add ((x2_18).toNat * 3) 2), some 1⟩)), Ax.h0),
    loadG P 9 (Value.pointer (some ⟨2, (Nat.add ((x2_18).toNat * 3) 2), some 1⟩)) Ax.h0 = some ((Value.string (((Args.L).getD (x2_18).toNat (0, 0, ByteArray.empty)).2.2)), Ax.h0),
    G_munchScannerStep x2_0 x2_1 x2_2 x2_3 x2_4 x2_5 x2_6 x2_7 x2_8 (((Args.L).getD (x2_18).toNat (0, 0, ByteArray.empty)).2.2) (y2_3_0, y2_3_1, y2_3_2, y2_3_3, y2_3_4, y2_3_5, y2_3_6),
    FlatB (.cells (layT (iv x2_0)) 3),
    FlatB (.cells (layT (iv x2_1)) 3),
    FlatB (.cells (layT (iv x2_0)) 3),
    FlatB (.cells (layT (iv x2_1)) 3),
    opIndexAddr P 35 (Value.slice (some ⟨2, 0, some 1⟩) (Args.L).length Args.cL) (Value.int .i64 x2_18) Ax.h0 = some ((Value.pointer (some ⟨2, ((x2_18).toNat * 3), some 1⟩)), Ax.h0),
    opFieldAddr P 44 (Value.pointer (some ⟨2, ((x2_18).toNat * 3), some 1⟩)) 2 Ax.h0 = some ((Value.pointer (some ⟨2, (Nat.add ((x2_18).toNat * 3) 2), some 1⟩)), Ax.h0),
    loadG P 9 (Value.pointer (some ⟨2, (Nat.add ((x2_18).toNat * 3) 2), some 1⟩)) Ax.h0 = some ((Value.string (((Args.L).getD (x2_18).toNat (0, 0, ByteArray.empty)).2.2)), Ax.h0),
    G_viewportref06ScannerStep x2_9 x2_10 x2_11 x2_12 x2_13 x2_14 x2_15 x2_16 x2_17 (((Args.L).getD (x2_18).toNat (0, 0, ByteArray.empty)).2.2) (y2_4_0, y2_4_1, y2_4_2, y2_4_3, y2_4_4, y2_4_5, y2_4_6),
    (Value.bool (!(y2_3_5 == y2_4_5))) = (Value.bool false),
    (Value.bool (y2_3_6 != y2_4_6)) = (Value.bool false),
    (Value.bool y2_3_5) = (Value.bool true),
    FlatB (.cells (layT (iv x2_0)) 3),
    FlatB (.cells (layT (iv x2_1)) 3)]) (by kernel_rfl) ⟨(vbT hy2_1), (ixW (e := 44) (by kernel_rfl) (by kernel_rfl) (hy2_2).1 (hy2_2).2), (by kernel_rfl), (ldWS rwf_iis (0, 0, ByteArray.empty) (i := (x2_18).toNat) (q := 2) (L := Args.L) (Nat.add ((x2_18).toNat * 3) 2) rfl rfl (by kernel_rfl) (toNatLt hy2_2) (by decide) rfl), (m_munchScannerStep_ok n x2_0 x2_1 x2_2 x2_3 x2_4 x2_5 x2_6 x2_7 x2_8 (((Args.L).getD (x2_18).toNat (0, 0, ByteArray.empty)).2.2) (y2_3_0, y2_3_1, y2_3_2, y2_3_3, y2_3_4, y2_3_5, y2_3_6) hy2_3), (iv_flat _ _), (iv_flat _ _), (iv_flat _ _), (iv_flat _ _), (ixW (e := 44) (by kernel_rfl) (by kernel_rfl) (hy2_2).1 (hy2_2).2), (by kernel_rfl), (ldWS rwf_iis (0, 0, ByteArray.empty) (i := (x2_18).toNat) (q := 2) (L := Args.L) (Nat.add ((x2_18).toNat * 3) 2) rfl rfl (by kernel_rfl) (toNatLt hy2_2) (by decide) rfl), (m_viewportref06ScannerStep_ok n x2_9 x2_10 x2_11 x2_12 x2_13 x2_14 x2_15 x2_16 x2_17 (((Args.L).getD (x2_18).toNat (0, 0, ByteArray.empty)).2.2) (y2_4_0, y2_4_1, y2_4_2, y2_4_3, y2_4_4, y2_4_5, y2_4_6) hy2_4), (vNeB hy2_5 hy2_6), (vnF hy2_7), (vB hy2_5), (iv_flat _ _), (iv_flat _ _), trivial⟩
set_option maxRecDepth 100000 in
theorem q_viewportlaw06MunchScript_2_1 (n : Nat) (x2_0 : List Int) (x2_1 : List Int) (x2_2 : Int) (x2_3 : Int) (x2_4 : Int) (x2_5 : Int) (x2_6 : Int) (x2_7 : Bool) (x2_8 : Bool) (x2_9 : Bool) (x2_10 : Bool) (x2_11 : Int) (x2_12 : Int) (x2_13 : Int) (x2_14 : Int) (x2_15 : Int) (x2_16 : Int) (x2_17 : Int) (x2_18 : Int) (x2_19 : Int) (x2_20 : Int) (hy2_1 : x2_20 < x2_19) (hy2_2 : 0 ≤ x2_18 ∧ x2_18 < (((Args.L).length : Nat) : Int)) (y2_3_0 : Int) (y2_3_1 : Int) (y2_3_2 : Int) (y2_3_3 : Int) (y2_3_4 : Bool) (y2_3_5 : Bool) (y2_3_6 : Int) (hy2_3 : m_munchScannerStep n x2_0 x2_1 x2_2 x2_3 x2_4 x2_5 x2_6 x2_7 x2_8 (((Args.L).getD (x2_18).toNat (0, 0, ByteArray.empty)).2.2) = some (y2_3_0, y2_3_1, y2_3_2, y2_3_3, y2_3_4, y2_3_5, y2_3_6)) (y2_4_0 : Bool) (y2_4_1 : Int) (y2_4_2 : Int) (y2_4_3 : Int) (y2_4_4 : Int) (y2_4_5 : Bool) (y2_4_6 : Int) (hy2_4 : m_viewportref06ScannerStep n x2_9 x2_10 x2_11 x2_12 x2_13 x2_14 x2_15 x2_16 x2_17 (((Args.L).getD (x2_18).toNat (0, 0, ByteArray.empty)).2.2) = some (y2_4_0, y2_4_1, y2_4_2, y2_4_3, y2_4_4, y2_4_5, y2_4_6)) (hy2_5 : ¬ (y2_3_5 = true)) (hy2_6 : ¬ (y2_4_5 = true)) (hy2_7 : y2_3_6 = y2_4_6) (hy2_8 : y2_3_6 = (0 : Int)) : CG P none (fnN P 4) 0 (codeOf P 4 [false, false, true, false, true, true, true, true, false, false, true, false, false, true, false, true, true, true, true, true, true]) (S_viewportlaw06MunchScript_2 x2_0 x2_1 x2_2 x2_8 x2_9 x2_11 x2_15 x2_17 x2_18 x2_19 (x2_3, x2_4, x2_5, x2_6, x2_7, x2_10, x2_12, x2_13, x2_14, x2_16, x2_20)) (.normal, S_viewportlaw06MunchScript_2 x2_0 x2_1 x2_2 x2_8 x2_9 x2_11 x2_15 x2_17 x2_18 x2_19 (y2_3_0, y2_3_1, y2_3_2, y2_3_3, y2_3_4, y2_4_0, y2_4_1, y2_4_2, y2_4_3, y2_4_4, (w64 (x2_20 + (1 : Int))))) :=
  runC_ok hm (A := aT [(4, .val (.bool true)), (12, .pur (Value.pointer (some ⟨2, ((x2_18).toNat * 3), some 1⟩))), (13, .pur (Value.pointer (some ⟨2, (Nat.add ((x2_18).toNat * 3) 2), some 1⟩))), (14, .ld (Value.string (((Args.L).getD (x2_18).toNat (0, 0, ByteArray.empty)).2.2))), (15, .call ⟨3, [(0, 0, false), (1, 1, true), (2, 2, true)], (V_munchScannerStep x2_0 x2_1 x2_2 x2_3 x2_4 x2_5 x2_6 x2_7 x2_8 (((Args.L).getD (x2_18).toNat (0, 0, ByteArray.empty)).2.2) (y2_3_0, y2_3_1, y2_3_2, y2_3_3, y2_3_4, y2_3_5, y2_3_6)), (R_munchScannerStep x2_0 x2_1 x2_2 x2_3 x2_4 x2_5 x2_6 x2_7 x2_8 (((Args.L).getD (x2_18).toNat (0, 0, ByteArray.empty)).2.2) (y2_3_0, y2_3_1, y2_3_2, y2_3_3, y2_3_4, y2_3_5, y2_3_6)), [(0, 0, false), (1, 1, true), (2, 2, true)]⟩), (25, .pur (Value.pointer (some ⟨2, ((x2_18).toNat * 3), some 1⟩))), (26, .pur (Value.pointer (some ⟨2, (Nat.add ((x2_18).toNat * 3) 2), some 1⟩))), (27, .ld (Value.string (((Args.L).getD (x2_18).toNat (0, 0, ByteArray.empty)).2.2))), (28, .call ⟨1, [(0, 3, false)], (V_viewportref06ScannerStep x2_9 x2_10 x2_11 x2_12 x2_13 x2_14 x2_15 x2_16 x2_17 (((Args.L).getD (x2_18).toNat (0, 0, ByteArray.empty)).2.2) (y2_4_0, y2_4_1, y2_4_2, y2_4_3, y2_4_4, y2_4_5, y2_4_6)), (R_viewportref06ScannerStep x2_9 x2_10 x2_11 x2_12 x2_13 x2_14 x2_15 x2_16 x2_17 (((Args.L).getD (x2_18).toNat (0, 0, ByteArray.empty)).2.2) (y2_4_0, y2_4_1, y2_4_2, y2_4_3, y2_4_4, y2_4_5, y2_4_6)), [(3, 0, false)]⟩), (38, .val (.bool false)), (42, .val (.bool false)), (47, .val (.bool false)), (49, .val (.bool false))]) (L := lT []) (wk := ⟨[1, 5, 7, 9, 10, 11], [(0, 0, false), (1, 1, true), (2, 2, true), (3, 3, false)], 4, 0⟩)
    (ps := [(Value.bool (decide (x2_20 < x2_19))) = (Value.bool true),
    opIndexAddr P 35 (Value.slice (some ⟨2, 0, some 1⟩) (Args.L).length Args.cL) (Value.int .i64 x2_18) Ax.h0 = some ((Value.pointer (some ⟨2, ((x2_18).toNat * 3), some 1⟩)), Ax.h0),
    opFieldAddr P 44 (Value.pointer (some ⟨2, ((x2_18).toNat * 3), some 1⟩)) 2 Ax.h0 = some ((Value.pointer (some ⟨2, (Nat.add ((x2_18).toNat * 3) 2), some 1⟩)), Ax.h0),
    loadG P 9 (Value.pointer (some ⟨2, (Nat.add ((x2_18).toNat * 3) 2), some 1⟩)) Ax.h0 = some ((Value.string (((Args.L).getD (x2_18).toNat (0, 0, ByteArray.empty)).2.2)), Ax.h0),
    G_munchScannerStep x2_0 x2_1 x2_2 x2_3 x2_4 x2_5 x2_6 x2_7 x2_8 (((Args.L).getD (x2_18).toNat (0, 0, ByteArray.empty)).2.2) (y2_3_0, y2_3_1, y2_3_2, y2_3_3, y2_3_4, y2_3_5, y2_3_6),
    FlatB (.cells (layT (iv x2_0)) 3),
    FlatB (.cells (layT (iv x2_1)) 3),
    FlatB (.cells (layT (iv x2_0)) 3),
    FlatB (.cells (layT (iv x2_1)) 3),
    opIndexAddr P 35 (Value.slice (some ⟨2, 0, some 1⟩) (Args.L).length Args.cL) (Value.int .i64 x2_18) Ax.h0 = some ((Value.pointer (some ⟨2, ((x2_18).toNat * 3), some 1⟩)), Ax.h0),
    opFieldAddr P 44 (Value.pointer (some ⟨2, ((x2_18).toNat * 3), some 1⟩)) 2 Ax.h0 = some ((Value.pointer (some ⟨2, (Nat.add ((x2_18).toNat * 3) 2), some 1⟩)), Ax.h0),
    loadG P 9 (Value.pointer (some ⟨2, (Nat.add ((x2_18).toNat * 3) 2), some 1⟩)) Ax.h0 = some ((Value.string (((Args.L).getD (x2_18).toNat (0, 0, ByteArray.empty)).2.2)), Ax.h0),
    G_viewportref06ScannerStep x2_9 x2_10 x2_11 x2_12 x2_13 x2_14 x2_15 x2_16 x2_17 (((Args.L).getD (x2_18).toNat (0, 0, ByteArray.empty)).2.2) (y2_4_0, y2_4_1, y2_4_2, y2_4_3, y2_4_4, y2_4_5, y2_4_6),
    (Value.bool (!(y2_3_5 == y2_4_5))) = (Value.bool false),
    (Value.bool (y2_3_6 != y2_4_6)) = (Value.bool false),
    (Value.bool y2_3_5) = (Value.bool false),
    (Value.bool (y2_3_6 != (0 : Int))) = (Value.bool false),
    FlatB (.cells (layT (iv x2_0)) 3),
    FlatB (.cells (layT (iv x2_1)) 3)]) (by kernel_rfl) ⟨(vbT hy2_1), (ixW (e := 44) (by kernel_rfl) (by kernel_rfl) (hy2_2).1 (hy2_2).2), (by kernel_rfl), (ldWS rwf_iis (0, 0, ByteArray.empty) (i := (x2_18).toNat) (q := 2) (L := Args.L) (Nat.add ((x2_18).toNat * 3) 2) rfl rfl (by kernel_rfl) (toNatLt hy2_2) (by decide) rfl), (m_munchScannerStep_ok n x2_0 x2_1 x2_2 x2_3 x2_4 x2_5 x2_6 x2_7 x2_8 (((Args.L).getD (x2_18).toNat (0, 0, ByteArray.empty)).2.2) (y2_3_0, y2_3_1, y2_3_2, y2_3_3, y2_3_4, y2_3_5, y2_3_6) hy2_3), (iv_flat _ _), (iv_flat _ _), (iv_flat _ _), (iv_flat _ _), (ixW (e := 44) (by kernel_rfl) (by kernel_rfl) (hy2_2).1 (hy2_2).2), (by kernel_rfl), (ldWS rwf_iis (0, 0, ByteArray.empty) (i := (x2_18).toNat) (q := 2) (L := Args.L) (Nat.add ((x2_18).toNat * 3) 2) rfl rfl (by kernel_rfl) (toNatLt hy2_2) (by decide) rfl), (m_viewportref06ScannerStep_ok n x2_9 x2_10 x2_11 x2_12 x2_13 x2_14 x2_15 x2_16 x2_17 (((Args.L).getD (x2_18).toNat (0, 0, ByteArray.empty)).2.2) (y2_4_0, y2_4_1, y2_4_2, y2_4_3, y2_4_4, y2_4_5, y2_4_6) hy2_4), (vNeB (Bool.eq_false_iff.2 hy2_5) (Bool.eq_false_iff.2 hy2_6)), (vnF hy2_7), (vB (Bool.eq_false_iff.2 hy2_5)), (vnF hy2_8), (iv_flat _ _), (iv_flat _ _), trivial⟩
set_option maxRecDepth 100000 in
theorem q_viewportlaw06MunchScript_2_2 (n : Nat) (x2_0 : List Int) (x2_1 : List Int) (x2_2 : Int) (x2_3 : Int) (x2_4 : Int) (x2_5 : Int) (x2_6 : Int) (x2_7 : Bool) (x2_8 : Bool) (x2_9 : Bool) (x2_10 : Bool) (x2_11 : Int) (x2_12 : Int) (x2_13 : Int) (x2_14 : Int) (x2_15 : Int) (x2_16 : Int) (x2_17 : Int) (x2_18 : Int) (x2_19 : Int) (x2_20 : Int) (hy2_1 : x2_20 < x2_19) (hy2_2 : 0 ≤ x2_18 ∧ x2_18 < (((Args.L).length : Nat) : Int)) (y2_3_0 : Int) (y2_3_1 : Int) (y2_3_2 : Int) (y2_3_3 : Int) (y2_3_4 : Bool) (y2_3_5 : Bool) (y2_3_6 : Int) (hy2_3 : m_munchScannerStep n x2_0 x2_1 x2_2 x2_3 x2_4 x2_5 x2_6 x2_7 x2_8 (((Args.L).getD (x2_18).toNat (0, 0, ByteArray.empty)).2.2) = some (y2_3_0, y2_3_1, y2_3_2, y2_3_3, y2_3_4, y2_3_5, y2_3_6)) (y2_4_0 : Bool) (y2_4_1 : Int) (y2_4_2 : Int) (y2_4_3 : Int) (y2_4_4 : Int) (y2_4_5 : Bool) (y2_4_6 : Int) (hy2_4 : m_viewportref06ScannerStep n x2_9 x2_10 x2_11 x2_12 x2_13 x2_14 x2_15 x2_16 x2_17 (((Args.L).getD (x2_18).toNat (0, 0, ByteArray.empty)).2.2) = some (y2_4_0, y2_4_1, y2_4_2, y2_4_3, y2_4_4, y2_4_5, y2_4_6)) (hy2_5 : ¬ (y2_3_5 = true)) (hy2_6 : ¬ (y2_4_5 = true)) (hy2_7 : y2_3_6 = y2_4_6) (hy2_8 : ¬ (y2_3_6 = (0 : Int))) : CG P none (fnN P 4) 0 (codeOf P 4 [false, false, true, false, true, true, true, true, false, false, true, false, false, true, false, true, true, true, true, true, true]) (S_viewportlaw06MunchScript_2 x2_0 x2_1 x2_2 x2_8 x2_9 x2_11 x2_15 x2_17 x2_18 x2_19 (x2_3, x2_4, x2_5, x2_6, x2_7, x2_10, x2_12, x2_13, x2_14, x2_16, x2_20)) (X_viewportlaw06MunchScript_2 x2_0 x2_1 x2_2 x2_8 x2_9 x2_11 x2_15 x2_17 x2_18 x2_19 (y2_3_0, y2_3_1, y2_3_2, y2_3_3, y2_3_4, y2_4_0, y2_4_1, y2_4_2, y2_4_3, y2_4_4)) :=
  runC_ok hm (A := aT [(4, .val (.bool true)), (12, .pur (Value.pointer (some ⟨2, ((x2_18).toNat * 3), some 1⟩))), (13, .pur (Value.pointer (some ⟨2, (Nat.add ((x2_18).toNat * 3) 2), some 1⟩))), (14, .ld (Value.string (((Args.L).getD (x2_18).toNat (0, 0, ByteArray.empty)).2.2))), (15, .call ⟨3, [(0, 0, false), (1, 1, true), (2, 2, true)], (V_munchScannerStep x2_0 x2_1 x2_2 x2_3 x2_4 x2_5 x2_6 x2_7 x2_8 (((Args.L).getD (x2_18).toNat (0, 0, ByteArray.empty)).2.2) (y2_3_0, y2_3_1, y2_3_2, y2_3_3, y2_3_4, y2_3_5, y2_3_6)), (R_munchScannerStep x2_0 x2_1 x2_2 x2_3 x2_4 x2_5 x2_6 x2_7 x2_8 (((Args.L).getD (x2_18).toNat (0, 0, ByteArray.empty)).2.2) (y2_3_0, y2_3_1, y2_3_2, y2_3_3, y2_3_4, y2_3_5, y2_3_6)), [(0, 0, false), (1, 1, true), (2, 2, true)]⟩), (25, .pur (Value.pointer (some ⟨2, ((x2_18).toNat * 3), some 1⟩))), (26, .pur (Value.pointer (some ⟨2, (Nat.add ((x2_18).toNat * 3) 2), some 1⟩))), (27, .ld (Value.string (((Args.L).getD (x2_18).toNat (0, 0, ByteArray.empty)).2.2))), (28, .call ⟨1, [(0, 3, false)], (V_viewportref06ScannerStep x2_9 x2_10 x2_11 x2_12 x2_13 x2_14 x2_15 x2_16 x2_17 (((Args.L).getD (x2_18).toNat (0, 0, ByteArray.empty)).2.2) (y2_4_0, y2_4_1, y2_4_2, y2_4_3, y2_4_4, y2_4_5, y2_4_6)), (R_viewportref06ScannerStep x2_9 x2_10 x2_11 x2_12 x2_13 x2_14 x2_15 x2_16 x2_17 (((Args.L).getD (x2_18).toNat (0, 0, ByteArray.empty)).2.2) (y2_4_0, y2_4_1, y2_4_2, y2_4_3, y2_4_4, y2_4_5, y2_4_6)), [(3, 0, false)]⟩), (38, .val (.bool false)), (42, .val (.bool false)), (47, .val (.bool false)), (49, .val (.bool true))]) (L := lT []) (wk := ⟨[1, 5, 7, 9], [(0, 0, false), (1, 1, true), (2, 2, true), (3, 3, false)], 4, 0⟩)
    (ps := [(Value.bool (decide (x2_20 < x2_19))) = (Value.bool true),
    opIndexAddr P 35 (Value.slice (some ⟨2, 0, some 1⟩) (Args.L).length Args.cL) (Value.int .i64 x2_18) Ax.h0 = some ((Value.pointer (some ⟨2, ((x2_18).toNat * 3), some 1⟩)), Ax.h0),
    opFieldAddr P 44 (Value.pointer (some ⟨2, ((x2_18).toNat * 3), some 1⟩)) 2 Ax.h0 = some ((Value.pointer (some ⟨2, (Nat.add ((x2_18).toNat * 3) 2), some 1⟩)), Ax.h0),
    loadG P 9 (Value.pointer (some ⟨2, (Nat.add ((x2_18).toNat * 3) 2), some 1⟩)) Ax.h0 = some ((Value.string (((Args.L).getD (x2_18).toNat (0, 0, ByteArray.empty)).2.2)), Ax.h0),
    G_munchScannerStep x2_0 x2_1 x2_2 x2_3 x2_4 x2_5 x2_6 x2_7 x2_8 (((Args.L).getD (x2_18).toNat (0, 0, ByteArray.empty)).2.2) (y2_3_0, y2_3_1, y2_3_2, y2_3_3, y2_3_4, y2_3_5, y2_3_6),
    FlatB (.cells (layT (iv x2_0)) 3),
    FlatB (.cells (layT (iv x2_1)) 3),
    FlatB (.cells (layT (iv x2_0)) 3),
    FlatB (.cells (layT (iv x2_1)) 3),
    opIndexAddr P 35 (Value.slice (some ⟨2, 0, some 1⟩) (Args.L).length Args.cL) (Value.int .i64 x2_18) Ax.h0 = some ((Value.pointer (some ⟨2, ((x2_18).toNat * 3), some 1⟩)), Ax.h0),
    opFieldAddr P 44 (Value.pointer (some ⟨2, ((x2_18).toNat * 3), some 1⟩)) 2 Ax.h0 = some ((Value.pointer (some ⟨2, (Nat.add ((x2_18).toNat * 3) 2), some 1⟩)), Ax.h0),
    loadG P 9 (Value.pointer (some ⟨2, (Nat.add ((x2_18).toNat * 3) 2), some 1⟩)) Ax.h0 = some ((Value.string (((Args.L).getD (x2_18).toNat (0, 0, ByteArray.empty)).2.2)), Ax.h0),
    G_viewportref06ScannerStep x2_9 x2_10 x2_11 x2_12 x2_13 x2_14 x2_15 x2_16 x2_17 (((Args.L).getD (x2_18).toNat (0, 0, ByteArray.empty)).2.2) (y2_4_0, y2_4_1, y2_4_2, y2_4_3, y2_4_4, y2_4_5, y2_4_6),
    (Value.bool (!(y2_3_5 == y2_4_5))) = (Value.bool false),
    (Value.bool (y2_3_6 != y2_4_6)) = (Value.bool false),
    (Value.bool y2_3_5) = (Value.bool false),
    (Value.bool (y2_3_6 != (0 : Int))) = (Value.bool true),
    FlatB (.cells (layT (iv x2_0)) 3),
    FlatB (.cells (layT (iv x2_1)) 3)]) (by kernel_rfl) ⟨(vbT hy2_1), (ixW (e := 44) (by kernel_rfl) (by kernel_rfl) (hy2_2).1 (hy2_2).2), (by kernel_rfl), (ldWS rwf_iis (0, 0, ByteArray.empty) (i := (x2_18).toNat) (q := 2) (L := Args.L) (Nat.add ((x2_18).toNat * 3) 2) rfl rfl (by kernel_rfl) (toNatLt hy2_2) (by decide) rfl), (m_munchScannerStep_ok n x2_0 x2_1 x2_2 x2_3 x2_4 x2_5 x2_6 x2_7 x2_8 (((Args.L).getD (x2_18).toNat (0, 0, ByteArray.empty)).2.2) (y2_3_0, y2_3_1, y2_3_2, y2_3_3, y2_3_4, y2_3_5, y2_3_6) hy2_3), (iv_flat _ _), (iv_flat _ _), (iv_flat _ _), (iv_flat _ _), (ixW (e := 44) (by kernel_rfl) (by kernel_rfl) (hy2_2).1 (hy2_2).2), (by kernel_rfl), (ldWS rwf_iis (0, 0, ByteArray.empty) (i := (x2_18).toNat) (q := 2) (L := Args.L) (Nat.add ((x2_18).toNat * 3) 2) rfl rfl (by kernel_rfl) (toNatLt hy2_2) (by decide) rfl), (m_viewportref06ScannerStep_ok n x2_9 x2_10 x2_11 x2_12 x2_13 x2_14 x2_15 x2_16 x2_17 (((Args.L).getD (x2_18).toNat (0, 0, ByteArray.empty)).2.2) (y2_4_0, y2_4_1, y2_4_2, y2_4_3, y2_4_4, y2_4_5, y2_4_6) hy2_4), (vNeB (Bool.eq_false_iff.2 hy2_5) (Bool.eq_false_iff.2 hy2_6)), (vnF hy2_7), (vB (Bool.eq_false_iff.2 hy2_5)), (vnT hy2_8), (iv_flat _ _), (iv_flat _ _), trivial⟩
set_option maxRecDepth 100000 in
theorem q_viewportlaw06MunchScript_2_3 (n : Nat) (x2_0 : List Int) (x2_1 : List Int) (x2_2 : Int) (x2_3 : Int) (x2_4 : Int) (x2_5 : Int) (x2_6 : Int) (x2_7 : Bool) (x2_8 : Bool) (x2_9 : Bool) (x2_10 : Bool) (x2_11 : Int) (x2_12 : Int) (x2_13 : Int) (x2_14 : Int) (x2_15 : Int) (x2_16 : Int) (x2_17 : Int) (x2_18 : Int) (x2_19 : Int) (x2_20 : Int) (hy2_1 : ¬ (x2_20 < x2_19)) : CG P none (fnN P 4) 0 (codeOf P 4 [false, false, true, false, true, true, true, true, false, false, true, false, false, true, false, true, true, true, true, true, true]) (S_viewportlaw06MunchScript_2 x2_0 x2_1 x2_2 x2_8 x2_9 x2_11 x2_15 x2_17 x2_18 x2_19 (x2_3, x2_4, x2_5, x2_6, x2_7, x2_10, x2_12, x2_13, x2_14, x2_16, x2_20)) (X_viewportlaw06MunchScript_2 x2_0 x2_1 x2_2 x2_8 x2_9 x2_11 x2_15 x2_17 x2_18 x2_19 (x2_3, x2_4, x2_5, x2_6, x2_7, x2_10, x2_12, x2_13, x2_14, x2_16)) :=
  runC_ok hm (A := aT [(4, .val (.bool false))]) (L := lT []) (wk := ⟨[1, 5, 7, 9], [(0, 0, false), (1, 1, true), (2, 2, true), (3, 3, false)], 4, 0⟩)
    (ps := [(Value.bool (decide (x2_20 < x2_19))) = (Value.bool false),
    FlatB (.cells (layT (iv x2_0)) 3),
    FlatB (.cells (layT (iv x2_1)) 3)]) (by kernel_rfl) ⟨(vbF hy2_1), (iv_flat _ _), (iv_flat _ _), trivial⟩
theorem m_viewportlaw06MunchScript_2_ok (n : Nat) (x2_0 : List Int) (x2_1 : List Int) (x2_2 : Int) (x2_8 : Bool) (x2_9 : Bool) (x2_11 : Int) (x2_15 : Int) (x2_17 : Int) (x2_18 : Int) (x2_19 : Int) (st : Int × Int × Int × Int × Bool × Bool × Int × Int × Int × Int × Int) (r : Int × Int × Int × Int × Bool × Bool × Int × Int × Int × Int) (h : m_viewportlaw06MunchScript_2 n x2_0 x2_1 x2_2 x2_8 x2_9 x2_11 x2_15 x2_17 x2_18 x2_19 st = some r) : CG P none (fnN P 4) 0 (codeOf P 4 [false, true, false, true, true, true, true, false, false, true, false, false, true, false, true, true, true, true, true, true]) (S_viewportlaw06MunchScript_2 x2_0 x2_1 x2_2 x2_8 x2_9 x2_11 x2_15 x2_17 x2_18 x2_19 st) (X_viewportlaw06MunchScript_2 x2_0 x2_1 x2_2 x2_8 x2_9 x2_11 x2_15 x2_17 x2_18 x2_19 r) :=
  CG.iter (b := codeOf P 4 [false, false, true, false, true, true, true, true, false, false, true, false, false, true, false, true, true, true, true, true, true]) (by kernel_rfl) (body := B_viewportlaw06MunchScript_2 n x2_0 x2_1 x2_2 x2_8 x2_9 x2_11 x2_15 x2_17 x2_18 x2_19) (S := S_viewportlaw06MunchScript_2 x2_0 x2_1 x2_2 x2_8 x2_9 x2_11 x2_15 x2_17 x2_18 x2_19) (X := X_viewportlaw06MunchScript_2 x2_0 x2_1 x2_2 x2_8 x2_9 x2_11 x2_15 x2_17 x2_18 x2_19)
    (fun s s' h => by
    obtain ⟨x2_3, x2_4, x2_5, x2_6, x2_7, x2_10, x2_12, x2_13, x2_14, x2_16, x2_20⟩ := s
    unfold B_viewportlaw06MunchScript_2 at h
    dsimp only at h
    by_cases hy2_1 : x2_20 < x2_19
    · rw [if_pos hy2_1] at h
      by_cases hy2_2 : 0 ≤ x2_18 ∧ x2_18 < (((Args.L).length : Nat) : Int)
      · rw [if_pos hy2_2] at h
        obtain ⟨⟨y2_3_0, y2_3_1, y2_3_2, y2_3_3, y2_3_4, y2_3_5, y2_3_6⟩, hy2_3, h⟩ := Option.bind_eq_some_iff.1 h
        dsimp only at h
        obtain ⟨⟨y2_4_0, y2_4_1, y2_4_2, y2_4_3, y2_4_4, y2_4_5, y2_4_6⟩, hy2_4, h⟩ := Option.bind_eq_some_iff.1 h
        dsimp only at h
        by_cases hy2_5 : y2_3_5 = true
        · rw [if_pos hy2_5] at h
          by_cases hy2_6 : y2_4_5 = true
          · rw [if_pos hy2_6] at h
            by_cases hy2_7 : y2_3_6 = y2_4_6
            · rw [if_pos hy2_7] at h
              cases h
            · rw [if_neg hy2_7] at h
              cases h
          · rw [if_neg hy2_6] at h
            cases h
        · rw [if_neg hy2_5] at h
          by_cases hy2_6 : y2_4_5 = true
          · rw [if_pos hy2_6] at h
            cases h
          · rw [if_neg hy2_6] at h
            by_cases hy2_7 : y2_3_6 = y2_4_6
            · rw [if_pos hy2_7] at h
              by_cases hy2_8 : y2_3_6 = (0 : Int)
              · rw [if_pos hy2_8] at h
                obtain rfl := Sum.inl.inj (Option.some.inj h); exact q_viewportlaw06MunchScript_2_1 n x2_0 x2_1 x2_2 x2_3 x2_4 x2_5 x2_6 x2_7 x2_8 x2_9 x2_10 x2_11 x2_12 x2_13 x2_14 x2_15 x2_16 x2_17 x2_18 x2_19 x2_20 hy2_1 hy2_2 y2_3_0 y2_3_1 y2_3_2 y2_3_3 y2_3_4 y2_3_5 y2_3_6 hy2_3 y2_4_0 y2_4_1 y2_4_2 y2_4_3 y2_4_4 y2_4_5 y2_4_6 hy2_4 hy2_5 hy2_6 hy2_7 hy2_8
              · rw [if_neg hy2_8] at h
                cases h
            · rw [if_neg hy2_7] at h
              cases h
      · rw [if_neg hy2_2] at h; cases h
    · rw [if_neg hy2_1] at h
      cases h)
    (fun s r h => by
    obtain ⟨x2_3, x2_4, x2_5, x2_6, x2_7, x2_10, x2_12, x2_13, x2_14, x2_16, x2_20⟩ := s
    unfold B_viewportlaw06MunchScript_2 at h
    dsimp only at h
    by_cases hy2_1 : x2_20 < x2_19
    · rw [if_pos hy2_1] at h
      by_cases hy2_2 : 0 ≤ x2_18 ∧ x2_18 < (((Args.L).length : Nat) : Int)
      · rw [if_pos hy2_2] at h
        obtain ⟨⟨y2_3_0, y2_3_1, y2_3_2, y2_3_3, y2_3_4, y2_3_5, y2_3_6⟩, hy2_3, h⟩ := Option.bind_eq_some_iff.1 h
        dsimp only at h
        obtain ⟨⟨y2_4_0, y2_4_1, y2_4_2, y2_4_3, y2_4_4, y2_4_5, y2_4_6⟩, hy2_4, h⟩ := Option.bind_eq_some_iff.1 h
        dsimp only at h
        by_cases hy2_5 : y2_3_5 = true
        · rw [if_pos hy2_5] at h
          by_cases hy2_6 : y2_4_5 = true
          · rw [if_pos hy2_6] at h
            by_cases hy2_7 : y2_3_6 = y2_4_6
            · rw [if_pos hy2_7] at h
              obtain rfl := Sum.inr.inj (Option.some.inj h); exact q_viewportlaw06MunchScript_2_0 n x2_0 x2_1 x2_2 x2_3 x2_4 x2_5 x2_6 x2_7 x2_8 x2_9 x2_10 x2_11 x2_12 x2_13 x2_14 x2_15 x2_16 x2_17 x2_18 x2_19 x2_20 hy2_1 hy2_2 y2_3_0 y2_3_1 y2_3_2 y2_3_3 y2_3_4 y2_3_5 y2_3_6 hy2_3 y2_4_0 y2_4_1 y2_4_2 y2_4_3 y2_4_4 y2_4_5 y2_4_6 hy2_4 hy2_5 hy2_6 hy2_7
            · rw [if_neg hy2_7] at h
              cases h
          · rw [if_neg hy2_6] at h
            cases h
        · rw [if_neg hy2_5] at h
          by_cases hy2_6 : y2_4_5 = true
          · rw [if_pos hy2_6] at h
            cases h
          · rw [if_neg hy2_6] at h
            by_cases hy2_7 : y2_3_6 = y2_4_6
            · rw [if_pos hy2_7] at h
              by_cases hy2_8 : y2_3_6 = (0 : Int)
              · rw [if_pos hy2_8] at h
                cases h
              · rw [if_neg hy2_8] at h
                obtain rfl := Sum.inr.inj (Option.some.inj h); exact q_viewportlaw06MunchScript_2_2 n x2_0 x2_1 x2_2 x2_3 x2_4 x2_5 x2_6 x2_7 x2_8 x2_9 x2_10 x2_11 x2_12 x2_13 x2_14 x2_15 x2_16 x2_17 x2_18 x2_19 x2_20 hy2_1 hy2_2 y2_3_0 y2_3_1 y2_3_2 y2_3_3 y2_3_4 y2_3_5 y2_3_6 hy2_3 y2_4_0 y2_4_1 y2_4_2 y2_4_3 y2_4_4 y2_4_5 y2_4_6 hy2_4 hy2_5 hy2_6 hy2_7 hy2_8
            · rw [if_neg hy2_7] at h
              cases h
      · rw [if_neg hy2_2] at h; cases h
    · rw [if_neg hy2_1] at h
      obtain rfl := Sum.inr.inj (Option.some.inj h); exact q_viewportlaw06MunchScript_2_3 n x2_0 x2_1 x2_2 x2_3 x2_4 x2_5 x2_6 x2_7 x2_8 x2_9 x2_10 x2_11 x2_12 x2_13 x2_14 x2_15 x2_16 x2_17 x2_18 x2_19 x2_20 hy2_1)
    (fun r => by intro hx; cases hx) h

end Go.Proofs.Ytaompjplflaloaa.munchs
