/-
  What functions do, told by pure functions. No condition.
-/
import Derived.Test.YtpbhdiapgeiopaaGramATold
set_option linter.unusedSimpArgs false
set_option linter.unusedVariables false
set_option linter.unusedSectionVars false
set_option linter.unnecessarySimpa false
namespace Go.Proofs.Ytpbhdiapgeiopaa.gramw
open Go Go.Proofs.Ytpbhdiapgeiopaa Ax
variable [Args]
def rw_b (x : Bool) : List Value := [Value.bool x]
theorem rwf_b : RowF rw_b 1 := ⟨fun _ => rfl, fun a v h => by
  simp only [rw_b, List.mem_cons, List.not_mem_nil, or_false] at h
  rcases h with rfl <;> rfl, fun _ => rfl⟩

noncomputable def A_gramNullable1 (x : Int) : List Value := [(Value.int .i64 x)]
noncomputable def H_gramNullable1 (x : Int) : AH := ⟨sB [], 0, 0⟩
noncomputable def V_gramNullable1 (x : Int) (r : Unit) : Value := match r with
  | _ => (Value.bool false)
noncomputable def R_gramNullable1 (x : Int) (r : Unit) : AH := match r with
  | _ => ⟨sB [], 0, 0⟩
def m_gramNullable1 (n : Nat) (x : Int) : Option (Unit) :=
  some ()
set_option maxRecDepth 100000 in
theorem p_gramNullable1_0 (n : Nat) (x : Int) : Gv P (.func 36) (A_gramNullable1 x) (H_gramNullable1 x) (V_gramNullable1 x ()) (R_gramNullable1 x ()) :=
  runF_ok hm (A := aT []) (L := lT []) (wk := ⟨[2], [], 0, 0⟩)
    (ps := []) (by kernel_rfl) trivial
theorem m_gramNullable1_ok (n : Nat) (x : Int) (r : Unit) (h : m_gramNullable1 n x = some r) : Gv P (.func 36) (A_gramNullable1 x) (H_gramNullable1 x) (V_gramNullable1 x r) (R_gramNullable1 x r) := by
  unfold m_gramNullable1 at h
  obtain rfl := Option.some.inj h; exact p_gramNullable1_0 n x

noncomputable def S_gramderiving1n_1 (x1_0 : List (Bool)) (x1_1 : Nat) (x1_2 : Int) (x1_3 : Int) (x1_4 : Int) (x1_5 : Int) (x1_6 : NL) (x1_7 : Int) (st : Int) : XSt := match st with
  | x1_8 => (sT 48 [(1, (Value.pointer (some ⟨0, 0, none⟩))), (2, (Value.pointer (some ⟨1, 0, none⟩))), (3, (Value.pointer (some ⟨2, 0, none⟩))), (4, (Value.pointer (some ⟨4, 0, none⟩))), (14, (nlV x1_6)), (15, (Value.int .i64 x1_7)), (16, (Value.int .i64 x1_8))], [], ⟨sB [(0, (some (.cells (layT [(Value.slice (some ⟨3, 0, none⟩) x1_1 x1_1)]) 35))), (1, (some (.cells (layT [(Value.int .i64 x1_2), (Value.int .i64 x1_3), (Value.int .i64 x1_4), (Value.slice (some ⟨0, 0, some 1⟩) (Args.G).length Args.cG)]) 24))), (2, (some (.cells (layT [(Value.func (.func 36) #[] #[])]) 48))), (3, (some (.cells (layT (rows rw_b x1_0)) 4))), (4, (some (.cells (layT [(Value.int .i64 x1_5), (nlV x1_6)]) 41)))], 5, 4⟩)
noncomputable def X_gramderiving1n_1 (x1_0 : List (Bool)) (x1_1 : Nat) (x1_2 : Int) (x1_3 : Int) (x1_4 : Int) (x1_5 : Int) (x1_6 : NL) (x1_7 : Int) (r : (Unit) ⊕ (Unit)) : Ex × XSt := match r with
  | .inl _ => (.ret, (sT 48 [(5, (Value.bool false))], [], ⟨sB [(0, (some (.cells (layT [(Value.slice (some ⟨3, 0, none⟩) x1_1 x1_1)]) 35))), (1, (some (.cells (layT [(Value.int .i64 x1_2), (Value.int .i64 x1_3), (Value.int .i64 x1_4), (Value.slice (some ⟨0, 0, some 1⟩) (Args.G).length Args.cG)]) 24))), (2, (some (.cells (layT [(Value.func (.func 36) #[] #[])]) 48))), (3, (some (.cells (layT (rows rw_b x1_0)) 4)))], 4, 4⟩))
  | .inr _ => (.exit 0, (sT 48 [(1, (Value.pointer (some ⟨0, 0, none⟩))), (4, (Value.pointer (some ⟨4, 0, none⟩)))], [], ⟨sB [(0, (some (.cells (layT [(Value.slice (some ⟨3, 0, none⟩) x1_1 x1_1)]) 35))), (1, (some (.cells (layT [(Value.int .i64 x1_2), (Value.int .i64 x1_3), (Value.int .i64 x1_4), (Value.slice (some ⟨0, 0, some 1⟩) (Args.G).length Args.cG)]) 24))), (2, (some (.cells (layT [(Value.func (.func 36) #[] #[])]) 48))), (3, (some (.cells (layT (rows rw_b x1_0)) 4))), (4, (some (.cells (layT [(Value.int .i64 x1_5), (nlV x1_6)]) 41)))], 5, 4⟩))
def B_gramderiving1n_1 (n : Nat) (x1_0 : List (Bool)) (x1_1 : Nat) (x1_2 : Int) (x1_3 : Int) (x1_4 : Int) (x1_5 : Int) (x1_6 : NL) (x1_7 : Int) (st : Int) : Option ((Int) ⊕ ((Unit) ⊕ (Unit))) := match st with
  | x1_8 =>
    if x1_8 < x1_7 then
      if 0 ≤ x1_8 ∧ x1_8 < (((x1_6).l.length : Nat) : Int) then
        if (x1_8).toNat < ((x1_6).l).length then
          if (((x1_6).l).getD (x1_8).toNat 0) < x1_2 then
            (m_gramNullable1 n (((x1_6).l).getD (x1_8).toNat 0)).bind fun _ =>
            if (((x1_6).l).getD (x1_8).toNat 0) ≥ x1_2 then
              if 0 ≤ (w64 ((((x1_6).l).getD (x1_8).toNat 0) - x1_2)) ∧ (w64 ((((x1_6).l).getD (x1_8).toNat 0) - x1_2)) < ((x1_1 : Nat) : Int) then
                if ((w64 ((((x1_6).l).getD (x1_8).toNat 0) - x1_2))).toNat < (x1_0).length then
                  if ((x1_0).getD ((w64 ((((x1_6).l).getD (x1_8).toNat 0) - x1_2))).toNat (false)) = true then
                    some (.inl (w64 (x1_8 + (1 : Int))))
                  else
                    some (.inr (.inl ()))
                else none
              else none
            else
              some (.inr (.inl ()))
          else
            if (((x1_6).l).getD (x1_8).toNat 0) ≥ x1_2 then
              if 0 ≤ (w64 ((((x1_6).l).getD (x1_8).toNat 0) - x1_2)) ∧ (w64 ((((x1_6).l).getD (x1_8).toNat 0) - x1_2)) < ((x1_1 : Nat) : Int) then
                if ((w64 ((((x1_6).l).getD (x1_8).toNat 0) - x1_2))).toNat < (x1_0).length then
                  if ((x1_0).getD ((w64 ((((x1_6).l).getD (x1_8).toNat 0) - x1_2))).toNat (false)) = true then
                    some (.inl (w64 (x1_8 + (1 : Int))))
                  else
                    some (.inr (.inl ()))
                else none
              else none
            else
              some (.inr (.inl ()))
        else none
      else none
    else
      some (.inr (.inr ()))
def m_gramderiving1n_1 (n : Nat) (x1_0 : List (Bool)) (x1_1 : Nat) (x1_2 : Int) (x1_3 : Int) (x1_4 : Int) (x1_5 : Int) (x1_6 : NL) (x1_7 : Int) (st : Int) : Option ((Unit) ⊕ (Unit)) := iterM (B_gramderiving1n_1 n x1_0 x1_1 x1_2 x1_3 x1_4 x1_5 x1_6 x1_7) n st
set_option maxRecDepth 100000 in
theorem q_gramderiving1n_1_0 (n : Nat) (x1_0 : List (Bool)) (x1_1 : Nat) (x1_2 : Int) (x1_3 : Int) (x1_4 : Int) (x1_5 : Int) (x1_6 : NL) (x1_7 : Int) (x1_8 : Int) (hy1_1 : x1_8 < x1_7) (hy1_2 : 0 ≤ x1_8 ∧ x1_8 < (((x1_6).l.length : Nat) : Int)) (hy1_3 : (x1_8).toNat < ((x1_6).l).length) (hy1_4 : (((x1_6).l).getD (x1_8).toNat 0) < x1_2) (hy1_5 : m_gramNullable1 n (((x1_6).l).getD (x1_8).toNat 0) = some ()) (hy1_6 : (((x1_6).l).getD (x1_8).toNat 0) ≥ x1_2) (hy1_7 : 0 ≤ (w64 ((((x1_6).l).getD (x1_8).toNat 0) - x1_2)) ∧ (w64 ((((x1_6).l).getD (x1_8).toNat 0) - x1_2)) < ((x1_1 : Nat) : Int)) (hy1_8 : ((w64 ((((x1_6).l).getD (x1_8).toNat 0) - x1_2))).toNat < (x1_0).length) (hy1_9 : ((x1_0).getD ((w64 ((((x1_6).l).getD (x1_8).toNat 0) - x1_2))).toNat (false)) = true) : CG P none (fnN P 49) 4 (codeOf P 49 [false, false, true, false, true, true, false, true]) (S_gramderiving1n_1 x1_0 x1_1 x1_2 x1_3 x1_4 x1_5 x1_6 x1_7 x1_8) (.normal, S_gramderiving1n_1 x1_0 x1_1 x1_2 x1_3 x1_4 x1_5 x1_6 x1_7 (w64 (x1_8 + (1 : Int)))) :=
  runC_ok hm (A := aT [(1, .val (.bool true)), (7, .pur (Value.pointer (some ⟨(Nat.add (x1_6).num 64), (x1_8).toNat, some 1⟩))), (8, .ld (Value.int .i64 (((x1_6).l).getD (x1_8).toNat 0))), (17, .val (.bool true)), (21, .call ⟨0, [], (V_gramNullable1 (((x1_6).l).getD (x1_8).toNat 0) ()), (R_gramNullable1 (((x1_6).l).getD (x1_8).toNat 0) ()), []⟩), (28, .val (.bool true)), (35, .pur (Value.pointer (some ⟨3, (((w64 ((((x1_6).l).getD (x1_8).toNat 0) - x1_2))).toNat * 1), none⟩))), (36, .ld (Value.bool ((x1_0).getD ((w64 ((((x1_6).l).getD (x1_8).toNat 0) - x1_2))).toNat (false)))), (39, .val (.bool true))]) (L := lT []) (wk := ⟨[1, 2, 3, 4, 14, 15, 16], [(0, 0, false), (1, 1, false), (2, 2, false), (3, 3, true), (4, 4, false)], 5, 4⟩)
    (ps := [(Value.bool (decide (x1_8 < x1_7))) = (Value.bool true),
    opIndexAddr P 32 (nlV x1_6) (Value.int .i64 x1_8) Ax.h0 = some ((Value.pointer (some ⟨(Nat.add (x1_6).num 64), (x1_8).toNat, some 1⟩)), Ax.h0),
    loadG P 3 (Value.pointer (some ⟨(Nat.add (x1_6).num 64), (x1_8).toNat, some 1⟩)) Ax.h0 = some ((Value.int .i64 (((x1_6).l).getD (x1_8).toNat 0)), Ax.h0),
    (Value.bool (decide ((((x1_6).l).getD (x1_8).toNat 0) < x1_2))) = (Value.bool true),
    Gv P (.func 36) (A_gramNullable1 (((x1_6).l).getD (x1_8).toNat 0)) (H_gramNullable1 (((x1_6).l).getD (x1_8).toNat 0)) (V_gramNullable1 (((x1_6).l).getD (x1_8).toNat 0) ()) (R_gramNullable1 (((x1_6).l).getD (x1_8).toNat 0) ()),
    (Value.bool (decide ((((x1_6).l).getD (x1_8).toNat 0) ≥ x1_2))) = (Value.bool true),
    opIndexAddr P 35 (Value.slice (some ⟨3, 0, none⟩) x1_1 x1_1) (Value.int .i64 (w64 ((((x1_6).l).getD (x1_8).toNat 0) - x1_2))) Ax.h0 = some ((Value.pointer (some ⟨3, (((w64 ((((x1_6).l).getD (x1_8).toNat 0) - x1_2))).toNat * 1), none⟩)), Ax.h0),
    (layT (rows rw_b x1_0)).get (((w64 ((((x1_6).l).getD (x1_8).toNat 0) - x1_2))).toNat * 1) = some (Value.bool ((x1_0).getD ((w64 ((((x1_6).l).getD (x1_8).toNat 0) - x1_2))).toNat (false))),
    (Value.bool ((x1_0).getD ((w64 ((((x1_6).l).getD (x1_8).toNat 0) - x1_2))).toNat (false))) = (Value.bool true),
    FlatB (.cells (layT (rows rw_b x1_0)) 4)]) (by kernel_rfl) ⟨(vbT hy1_1), (ixW1 (e := 3) (by kernel_rfl) (by kernel_rfl) hy1_2), (ldN x1_6 (by kernel_rfl) hy1_3), (vbT hy1_4), (m_gramNullable1_ok n (((x1_6).l).getD (x1_8).toNat 0) () hy1_5), (vbT hy1_6), (ixS (e := 4) (by kernel_rfl) (by kernel_rfl) (hy1_7).1 (hy1_7).2), (rows_ld rwf_b (false) (i := ((w64 ((((x1_6).l).getD (x1_8).toNat 0) - x1_2))).toNat) (j := 0) (((w64 ((((x1_6).l).getD (x1_8).toNat 0) - x1_2))).toNat * 1) rfl (hy1_8) (by decide) rfl), (vB hy1_9), (rows_flat rwf_b _ _), trivial⟩
set_option maxRecDepth 100000 in
theorem q_gramderiving1n_1_1 (n : Nat) (x1_0 : List (Bool)) (x1_1 : Nat) (x1_2 : Int) (x1_3 : Int) (x1_4 : Int) (x1_5 : Int) (x1_6 : NL) (x1_7 : Int) (x1_8 : Int) (hy1_1 : x1_8 < x1_7) (hy1_2 : 0 ≤ x1_8 ∧ x1_8 < (((x1_6).l.length : Nat) : Int)) (hy1_3 : (x1_8).toNat < ((x1_6).l).length) (hy1_4 : (((x1_6).l).getD (x1_8).toNat 0) < x1_2) (hy1_5 : m_gramNullable1 n (((x1_6).l).getD (x1_8).toNat 0) = some ()) (hy1_6 : (((x1_6).l).getD (x1_8).toNat 0) ≥ x1_2) (hy1_7 : 0 ≤ (w64 ((((x1_6).l).getD (x1_8).toNat 0) - x1_2)) ∧ (w64 ((((x1_6).l).getD (x1_8).toNat 0) - x1_2)) < ((x1_1 : Nat) : Int)) (hy1_8 : ((w64 ((((x1_6).l).getD (x1_8).toNat 0) - x1_2))).toNat < (x1_0).length) (hy1_9 : ¬ (((x1_0).getD ((w64 ((((x1_6).l).getD (x1_8).toNat 0) - x1_2))).toNat (false)) = true)) : CG P none (fnN P 49) 4 (codeOf P 49 [false, false, true, false, true, true, false, true]) (S_gramderiving1n_1 x1_0 x1_1 x1_2 x1_3 x1_4 x1_5 x1_6 x1_7 x1_8) (X_gramderiving1n_1 x1_0 x1_1 x1_2 x1_3 x1_4 x1_5 x1_6 x1_7 (.inl ())) :=
  runC_ok hm (A := aT [(1, .val (.bool true)), (7, .pur (Value.pointer (some ⟨(Nat.add (x1_6).num 64), (x1_8).toNat, some 1⟩))), (8, .ld (Value.int .i64 (((x1_6).l).getD (x1_8).toNat 0))), (17, .val (.bool true)), (21, .call ⟨0, [], (V_gramNullable1 (((x1_6).l).getD (x1_8).toNat 0) ()), (R_gramNullable1 (((x1_6).l).getD (x1_8).toNat 0) ()), []⟩), (28, .val (.bool true)), (35, .pur (Value.pointer (some ⟨3, (((w64 ((((x1_6).l).getD (x1_8).toNat 0) - x1_2))).toNat * 1), none⟩))), (36, .ld (Value.bool ((x1_0).getD ((w64 ((((x1_6).l).getD (x1_8).toNat 0) - x1_2))).toNat (false)))), (39, .val (.bool false))]) (L := lT []) (wk := ⟨[5], [(0, 0, false), (1, 1, false), (2, 2, false), (3, 3, true)], 4, 4⟩)
    (ps := [(Value.bool (decide (x1_8 < x1_7))) = (Value.bool true),
    opIndexAddr P 32 (nlV x1_6) (Value.int .i64 x1_8) Ax.h0 = some ((Value.pointer (some ⟨(Nat.add (x1_6).num 64), (x1_8).toNat, some 1⟩)), Ax.h0),
    loadG P 3 (Value.pointer (some ⟨(Nat.add (x1_6).num 64), (x1_8).toNat, some 1⟩)) Ax.h0 = some ((Value.int .i64 (((x1_6).l).getD (x1_8).toNat 0)), Ax.h0),
    (Value.bool (decide ((((x1_6).l).getD (x1_8).toNat 0) < x1_2))) = (Value.bool true),
    Gv P (.func 36) (A_gramNullable1 (((x1_6).l).getD (x1_8).toNat 0)) (H_gramNullable1 (((x1_6).l).getD (x1_8).toNat 0)) (V_gramNullable1 (((x1_6).l).getD (x1_8).toNat 0) ()) (R_gramNullable1 (((x1_6).l).getD (x1_8).toNat 0) ()),
    (Value.bool (decide ((((x1_6).l).getD (x1_8).toNat 0) ≥ x1_2))) = (Value.bool true),
    opIndexAddr P 35 (Value.slice (some ⟨3, 0, none⟩) x1_1 x1_1) (Value.int .i64 (w64 ((((x1_6).l).getD (x1_8).toNat 0) - x1_2))) Ax.h0 = some ((Value.pointer (some ⟨3, (((w64 ((((x1_6).l).getD (x1_8).toNat 0) - x1_2))).toNat * 1), none⟩)), Ax.h0),
    (layT (rows rw_b x1_0)).get (((w64 ((((x1_6).l).getD (x1_8).toNat 0) - x1_2))).toNat * 1) = some (Value.bool ((x1_0).getD ((w64 ((((x1_6).l).getD (x1_8).toNat 0) - x1_2))).toNat (false))),
    (Value.bool ((x1_0).getD ((w64 ((((x1_6).l).getD (x1_8).toNat 0) - x1_2))).toNat (false))) = (Value.bool false),
    FlatB (.cells (layT (rows rw_b x1_0)) 4)]) (by kernel_rfl) ⟨(vbT hy1_1), (ixW1 (e := 3) (by kernel_rfl) (by kernel_rfl) hy1_2), (ldN x1_6 (by kernel_rfl) hy1_3), (vbT hy1_4), (m_gramNullable1_ok n (((x1_6).l).getD (x1_8).toNat 0) () hy1_5), (vbT hy1_6), (ixS (e := 4) (by kernel_rfl) (by kernel_rfl) (hy1_7).1 (hy1_7).2), (rows_ld rwf_b (false) (i := ((w64 ((((x1_6).l).getD (x1_8).toNat 0) - x1_2))).toNat) (j := 0) (((w64 ((((x1_6).l).getD (x1_8).toNat 0) - x1_2))).toNat * 1) rfl (hy1_8) (by decide) rfl), (vB (Bool.eq_false_iff.2 hy1_9)), (rows_flat rwf_b _ _), trivial⟩
set_option maxRecDepth 100000 in
theorem q_gramderiving1n_1_2 (n : Nat) (x1_0 : List (Bool)) (x1_1 : Nat) (x1_2 : Int) (x1_3 : Int) (x1_4 : Int) (x1_5 : Int) (x1_6 : NL) (x1_7 : Int) (x1_8 : Int) (hy1_1 : x1_8 < x1_7) (hy1_2 : 0 ≤ x1_8 ∧ x1_8 < (((x1_6).l.length : Nat) : Int)) (hy1_3 : (x1_8).toNat < ((x1_6).l).length) (hy1_4 : (((x1_6).l).getD (x1_8).toNat 0) < x1_2) (hy1_5 : m_gramNullable1 n (((x1_6).l).getD (x1_8).toNat 0) = some ()) (hy1_6 : ¬ ((((x1_6).l).getD (x1_8).toNat 0) ≥ x1_2)) : CG P none (fnN P 49) 4 (codeOf P 49 [false, false, true, false, true, true, false, true]) (S_gramderiving1n_1 x1_0 x1_1 x1_2 x1_3 x1_4 x1_5 x1_6 x1_7 x1_8) (X_gramderiving1n_1 x1_0 x1_1 x1_2 x1_3 x1_4 x1_5 x1_6 x1_7 (.inl ())) :=
  runC_ok hm (A := aT [(1, .val (.bool true)), (7, .pur (Value.pointer (some ⟨(Nat.add (x1_6).num 64), (x1_8).toNat, some 1⟩))), (8, .ld (Value.int .i64 (((x1_6).l).getD (x1_8).toNat 0))), (17, .val (.bool true)), (21, .call ⟨0, [], (V_gramNullable1 (((x1_6).l).getD (x1_8).toNat 0) ()), (R_gramNullable1 (((x1_6).l).getD (x1_8).toNat 0) ()), []⟩), (28, .val (.bool false))]) (L := lT []) (wk := ⟨[5], [(0, 0, false), (1, 1, false), (2, 2, false), (3, 3, true)], 4, 4⟩)
    (ps := [(Value.bool (decide (x1_8 < x1_7))) = (Value.bool true),
    opIndexAddr P 32 (nlV x1_6) (Value.int .i64 x1_8) Ax.h0 = some ((Value.pointer (some ⟨(Nat.add (x1_6).num 64), (x1_8).toNat, some 1⟩)), Ax.h0),
    loadG P 3 (Value.pointer (some ⟨(Nat.add (x1_6).num 64), (x1_8).toNat, some 1⟩)) Ax.h0 = some ((Value.int .i64 (((x1_6).l).getD (x1_8).toNat 0)), Ax.h0),
    (Value.bool (decide ((((x1_6).l).getD (x1_8).toNat 0) < x1_2))) = (Value.bool true),
    Gv P (.func 36) (A_gramNullable1 (((x1_6).l).getD (x1_8).toNat 0)) (H_gramNullable1 (((x1_6).l).getD (x1_8).toNat 0)) (V_gramNullable1 (((x1_6).l).getD (x1_8).toNat 0) ()) (R_gramNullable1 (((x1_6).l).getD (x1_8).toNat 0) ()),
    (Value.bool (decide ((((x1_6).l).getD (x1_8).toNat 0) ≥ x1_2))) = (Value.bool false),
    FlatB (.cells (layT (rows rw_b x1_0)) 4)]) (by kernel_rfl) ⟨(vbT hy1_1), (ixW1 (e := 3) (by kernel_rfl) (by kernel_rfl) hy1_2), (ldN x1_6 (by kernel_rfl) hy1_3), (vbT hy1_4), (m_gramNullable1_ok n (((x1_6).l).getD (x1_8).toNat 0) () hy1_5), (vbF hy1_6), (rows_flat rwf_b _ _), trivial⟩
set_option maxRecDepth 100000 in
theorem q_gramderiving1n_1_3 (n : Nat) (x1_0 : List (Bool)) (x1_1 : Nat) (x1_2 : Int) (x1_3 : Int) (x1_4 : Int) (x1_5 : Int) (x1_6 : NL) (x1_7 : Int) (x1_8 : Int) (hy1_1 : x1_8 < x1_7) (hy1_2 : 0 ≤ x1_8 ∧ x1_8 < (((x1_6).l.length : Nat) : Int)) (hy1_3 : (x1_8).toNat < ((x1_6).l).length) (hy1_4 : ¬ ((((x1_6).l).getD (x1_8).toNat 0) < x1_2)) (hy1_5 : (((x1_6).l).getD (x1_8).toNat 0) ≥ x1_2) (hy1_6 : 0 ≤ (w64 ((((x1_6).l).getD (x1_8).toNat 0) - x1_2)) ∧ (w64 ((((x1_6).l).getD (x1_8).toNat 0) - x1_2)) < ((x1_1 : Nat) : Int)) (hy1_7 : ((w64 ((((x1_6).l).getD (x1_8).toNat 0) - x1_2))).toNat < (x1_0).length) (hy1_8 : ((x1_0).getD ((w64 ((((x1_6).l).getD (x1_8).toNat 0) - x1_2))).toNat (false)) = true) : CG P none (fnN P 49) 4 (codeOf P 49 [false, false, true, false, true, true, false, true]) (S_gramderiving1n_1 x1_0 x1_1 x1_2 x1_3 x1_4 x1_5 x1_6 x1_7 x1_8) (.normal, S_gramderiving1n_1 x1_0 x1_1 x1_2 x1_3 x1_4 x1_5 x1_6 x1_7 (w64 (x1_8 + (1 : Int)))) :=
  runC_ok hm (A := aT [(1, .val (.bool true)), (7, .pur (Value.pointer (some ⟨(Nat.add (x1_6).num 64), (x1_8).toNat, some 1⟩))), (8, .ld (Value.int .i64 (((x1_6).l).getD (x1_8).toNat 0))), (17, .val (.bool false)), (28, .val (.bool true)), (35, .pur (Value.pointer (some ⟨3, (((w64 ((((x1_6).l).getD (x1_8).toNat 0) - x1_2))).toNat * 1), none⟩))), (36, .ld (Value.bool ((x1_0).getD ((w64 ((((x1_6).l).getD (x1_8).toNat 0) - x1_2))).toNat (false)))), (39, .val (.bool true))]) (L := lT []) (wk := ⟨[1, 2, 3, 4, 14, 15, 16], [(0, 0, false), (1, 1, false), (2, 2, false), (3, 3, true), (4, 4, false)], 5, 4⟩)
    (ps := [(Value.bool (decide (x1_8 < x1_7))) = (Value.bool true),
    opIndexAddr P 32 (nlV x1_6) (Value.int .i64 x1_8) Ax.h0 = some ((Value.pointer (some ⟨(Nat.add (x1_6).num 64), (x1_8).toNat, some 1⟩)), Ax.h0),
    loadG P 3 (Value.pointer (some ⟨(Nat.add (x1_6).num 64), (x1_8).toNat, some 1⟩)) Ax.h0 = some ((Value.int .i64 (((x1_6).l).getD (x1_8).toNat 0)), Ax.h0),
    (Value.bool (decide ((((x1_6).l).getD (x1_8).toNat 0) < x1_2))) = (Value.bool false),
    (Value.bool (decide ((((x1_6).l).getD (x1_8).toNat 0) ≥ x1_2))) = (Value.bool true),
    opIndexAddr P 35 (Value.slice (some ⟨3, 0, none⟩) x1_1 x1_1) (Value.int .i64 (w64 ((((x1_6).l).getD (x1_8).toNat 0) - x1_2))) Ax.h0 = some ((Value.pointer (some ⟨3, (((w64 ((((x1_6).l).getD (x1_8).toNat 0) - x1_2))).toNat * 1), none⟩)), Ax.h0),
    (layT (rows rw_b x1_0)).get (((w64 ((((x1_6).l).getD (x1_8).toNat 0) - x1_2))).toNat * 1) = some (Value.bool ((x1_0).getD ((w64 ((((x1_6).l).getD (x1_8).toNat 0) - x1_2))).toNat (false))),
    (Value.bool ((x1_0).getD ((w64 ((((x1_6).l).getD (x1_8).toNat 0) - x1_2))).toNat (false))) = (Value.bool true),
    FlatB (.cells (layT (rows rw_b x1_0)) 4)]) (by kernel_rfl) ⟨(vbT hy1_1), (ixW1 (e := 3) (by kernel_rfl) (by kernel_rfl) hy1_2), (ldN x1_6 (by kernel_rfl) hy1_3), (vbF hy1_4), (vbT hy1_5), (ixS (e := 4) (by kernel_rfl) (by kernel_rfl) (hy1_6).1 (hy1_6).2), (rows_ld rwf_b (false) (i := ((w64 ((((x1_6).l).getD (x1_8).toNat 0) - x1_2))).toNat) (j := 0) (((w64 ((((x1_6).l).getD (x1_8).toNat 0) - x1_2))).toNat * 1) rfl (hy1_7) (by decide) rfl), (vB hy1_8), (rows_flat rwf_b _ _), trivial⟩
set_option maxRecDepth 100000 in
theorem q_gramderiving1n_1_4 (n : Nat) (x1_0 : List (Bool)) (x1_1 : Nat) (x1_2 : Int) (x1_3 : Int) (x1_4 : Int) (x1_5 : Int) (x1_6 : NL) (x1_7 : Int) (x1_8 : Int) (hy1_1 : x1_8 < x1_7) (hy1_2 : 0 ≤ x1_8 ∧ x1_8 < (((x1_6).l.length : Nat) : Int)) (hy1_3 : (x1_8).toNat < ((x1_6).l).length) (hy1_4 : ¬ ((((x1_6).l).getD (x1_8).toNat 0) < x1_2)) (hy1_5 : (((x1_6).l).getD (x1_8).toNat 0) ≥ x1_2) (hy1_6 : 0 ≤ (w64 ((((x1_6).l).getD (x1_8).toNat 0) - x1_2)) ∧ (w64 ((((x1_6).l).getD (x1_8).toNat 0) - x1_2)) < ((x1_1 : Nat) : Int)) (hy1_7 : ((w64 ((((x1_6).l).getD (x1_8).toNat 0) - x1_2))).toNat < (x1_0).length) (hy1_8 : ¬ (((x1_0).getD ((w64 ((((x1_6).l).getD (x1_8).toNat 0) - x1_2))).toNat (false)) = true)) : CG P none (fnN P 49) 4 (codeOf P 49 [false, false, true, false, true, true, false, true]) (S_gramderiving1n_1 x1_0 x1_1 x1_2 x1_3 x1_4 x1_5 x1_6 x1_7 x1_8) (X_gramderiving1n_1 x1_0 x1_1 x1_2 x1_3 x1_4 x1_5 x1_6 x1_7 (.inl ())) :=
  runC_ok hm (A := aT [(1, .val (.bool true)), (7, .pur (Value.pointer (some ⟨(Nat.add (x1_6).num 64), (x1_8).toNat, some 1⟩))), (8, .ld (Value.int .i64 (((x1_6).l).getD (x1_8).toNat 0))), (17, .val (.bool false)), (28, .val (.bool true)), (35, .pur (Value.pointer (some ⟨3, (((w64 ((((x1_6).l).getD (x1_8).toNat 0) - x1_2))).toNat * 1), none⟩))), (36, .ld (Value.bool ((x1_0).getD ((w64 ((((x1_6).l).getD (x1_8).toNat 0) - x1_2))).toNat (false)))), (39, .val (.bool false))]) (L := lT []) (wk := ⟨[5], [(0, 0, false), (1, 1, false), (2, 2, false), (3, 3, true)], 4, 4⟩)
    (ps := [(Value.bool (decide (x1_8 < x1_7))) = (Value.bool true),
    opIndexAddr P 32 (nlV x1_6) (Value.int .i64 x1_8) Ax.h0 = some ((Value.pointer (some ⟨(Nat.add (x1_6).num 64), (x1_8).toNat, some 1⟩)), Ax.h0),
    loadG P 3 (Value.pointer (some ⟨(Nat.add (x1_6).num 64), (x1_8).toNat, some 1⟩)) Ax.h0 = some ((Value.int .i64 (((x1_6).l).getD (x1_8).toNat 0)), Ax.h0),
    (Value.bool (decide ((((x1_6).l).getD (x1_8).toNat 0) < x1_2))) = (Value.bool false),
    (Value.bool (decide ((((x1_6).l).getD (x1_8).toNat 0) ≥ x1_2))) = (Value.bool true),
    opIndexAddr P 35 (Value.slice (some ⟨3, 0, none⟩) x1_1 x1_1) (Value.int .i64 (w64 ((((x1_6).l).getD (x1_8).toNat 0) - x1_2))) Ax.h0 = some ((Value.pointer (some ⟨3, (((w64 ((((x1_6).l).getD (x1_8).toNat 0) - x1_2))).toNat * 1), none⟩)), Ax.h0),
    (layT (rows rw_b x1_0)).get (((w64 ((((x1_6).l).getD (x1_8).toNat 0) - x1_2))).toNat * 1) = some (Value.bool ((x1_0).getD ((w64 ((((x1_6).l).getD (x1_8).toNat 0) - x1_2))).toNat (false))),
    (Value.bool ((x1_0).getD ((w64 ((((x1_6).l).getD (x1_8).toNat 0) - x1_2))).toNat (false))) = (Value.bool false),
    FlatB (.cells (layT (rows rw_b x1_0)) 4)]) (by kernel_rfl) ⟨(vbT hy1_1), (ixW1 (e := 3) (by kernel_rfl) (by kernel_rfl) hy1_2), (ldN x1_6 (by kernel_rfl) hy1_3), (vbF hy1_4), (vbT hy1_5), (ixS (e := 4) (by kernel_rfl) (by kernel_rfl) (hy1_6).1 (hy1_6).2), (rows_ld rwf_b (false) (i := ((w64 ((((x1_6).l).getD (x1_8).toNat 0) - x1_2))).toNat) (j := 0) (((w64 ((((x1_6).l).getD (x1_8).toNat 0) - x1_2))).toNat * 1) rfl (hy1_7) (by decide) rfl), (vB (Bool.eq_false_iff.2 hy1_8)), (rows_flat rwf_b _ _), trivial⟩
set_option maxRecDepth 100000 in
theorem q_gramderiving1n_1_5 (n : Nat) (x1_0 : List (Bool)) (x1_1 : Nat) (x1_2 : Int) (x1_3 : Int) (x1_4 : Int) (x1_5 : Int) (x1_6 : NL) (x1_7 : Int) (x1_8 : Int) (hy1_1 : x1_8 < x1_7) (hy1_2 : 0 ≤ x1_8 ∧ x1_8 < (((x1_6).l.length : Nat) : Int)) (hy1_3 : (x1_8).toNat < ((x1_6).l).length) (hy1_4 : ¬ ((((x1_6).l).getD (x1_8).toNat 0) < x1_2)) (hy1_5 : ¬ ((((x1_6).l).getD (x1_8).toNat 0) ≥ x1_2)) : CG P none (fnN P 49) 4 (codeOf P 49 [false, false, true, false, true, true, false, true]) (S_gramderiving1n_1 x1_0 x1_1 x1_2 x1_3 x1_4 x1_5 x1_6 x1_7 x1_8) (X_gramderiving1n_1 x1_0 x1_1 x1_2 x1_3 x1_4 x1_5 x1_6 x1_7 (.inl ())) :=
  runC_ok hm (A := aT [(1, .val (.bool true)), (7, .pur (Value.pointer (some ⟨(Nat.add (x1_6).num 64), (x1_8).toNat, some 1⟩))), (8, .ld (Value.int .i64 (((x1_6).l).getD (x1_8).toNat 0))), (17, .val (.bool false)), (28, .val (.bool false))]) (L := lT []) (wk := ⟨[5], [(0, 0, false), (1, 1, false), (2, 2, false), (3, 3, true)], 4, 4⟩)
    (ps := [(Value.bool (decide (x1_8 < x1_7))) = (Value.bool true),
    opIndexAddr P 32 (nlV x1_6) (Value.int .i64 x1_8) Ax.h0 = some ((Value.pointer (some ⟨(Nat.add (x1_6).num 64), (x1_8).toNat, some 1⟩)), Ax.h0),
    loadG P 3 (Value.pointer (some ⟨(Nat.add (x1_6).num 64), (x1_8).toNat, some 1⟩)) Ax.h0 = some ((Value.int .i64 (((x1_6).l).getD (x1_8).toNat 0)), Ax.h0),
    (Value.bool (decide ((((x1_6).l).getD (x1_8).toNat 0) < x1_2))) = (Value.bool false),
    (Value.bool (decide ((((x1_6).l).getD (x1_8).toNat 0) ≥ x1_2))) = (Value.bool false),
    FlatB (.cells (layT (rows rw_b x1_0)) 4)]) (by kernel_rfl) ⟨(vbT hy1_1), (ixW1 (e := 3) (by kernel_rfl) (by kernel_rfl) hy1_2), (ldN x1_6 (by kernel_rfl) hy1_3), (vbF hy1_4), (vbF hy1_5), (rows_flat rwf_b _ _), trivial⟩
set_option maxRecDepth 100000 in
theorem q_gramderiving1n_1_6 (n : Nat) (x1_0 : List (Bool)) (x1_1 : Nat) (x1_2 : Int) (x1_3 : Int) (x1_4 : Int) (x1_5 : Int) (x1_6 : NL) (x1_7 : Int) (x1_8 : Int) (hy1_1 : ¬ (x1_8 < x1_7)) : CG P none (fnN P 49) 4 (codeOf P 49 [false, false, true, false, true, true, false, true]) (S_gramderiving1n_1 x1_0 x1_1 x1_2 x1_3 x1_4 x1_5 x1_6 x1_7 x1_8) (X_gramderiving1n_1 x1_0 x1_1 x1_2 x1_3 x1_4 x1_5 x1_6 x1_7 (.inr ())) :=
  runC_ok hm (A := aT [(1, .val (.bool false))]) (L := lT []) (wk := ⟨[1, 4], [(0, 0, false), (1, 1, false), (2, 2, false), (3, 3, true), (4, 4, false)], 5, 4⟩)
    (ps := [(Value.bool (decide (x1_8 < x1_7))) = (Value.bool false),
    FlatB (.cells (layT (rows rw_b x1_0)) 4)]) (by kernel_rfl) ⟨(vbF hy1_1), (rows_flat rwf_b _ _), trivial⟩
theorem m_gramderiving1n_1_ok (n : Nat) (x1_0 : List (Bool)) (x1_1 : Nat) (x1_2 : Int) (x1_3 : Int) (x1_4 : Int) (x1_5 : Int) (x1_6 : NL) (x1_7 : Int) (st : Int) (r : (Unit) ⊕ (Unit)) (h : m_gramderiving1n_1 n x1_0 x1_1 x1_2 x1_3 x1_4 x1_5 x1_6 x1_7 st = some r) : CG P none (fnN P 49) 4 (codeOf P 49 [false, true, false, true, true, false, true]) (S_gramderiving1n_1 x1_0 x1_1 x1_2 x1_3 x1_4 x1_5 x1_6 x1_7 st) (X_gramderiving1n_1 x1_0 x1_1 x1_2 x1_3 x1_4 x1_5 x1_6 x1_7 r) :=
  CG.iter (b := codeOf P 49 [false, false, true, false, true, true, false, true]) (by kernel_rfl) (body := B_gramderiving1n_1 n x1_0 x1_1 x1_2 x1_3 x1_4 x1_5 x1_6 x1_7) (S := S_gramderiving1n_1 x1_0 x1_1 x1_2 x1_3 x1_4 x1_5 x1_6 x1_7) (X := X_gramderiving1n_1 x1_0 x1_1 x1_2 x1_3 x1_4 x1_5 x1_6 x1_7)
    (fun x1_8 s' h => by
    unfold B_gramderiving1n_1 at h
    dsimp only at h
    by_cases hy1_1 : x1_8 < x1_7
    · rw [if_pos hy1_1] at h
      by_cases hy1_2 : 0 ≤ x1_8 ∧ x1_8 < (((x1_6).l.length : Nat) : Int)
      · rw [if_pos hy1_2] at h
        by_cases hy1_3 : (x1_8).toNat < ((x1_6).l).length
        · rw [if_pos hy1_3] at h
          by_cases hy1_4 : (((x1_6).l).getD (x1_8).toNat 0) < x1_2
          · rw [if_pos hy1_4] at h
            obtain ⟨_, hy1_5, h⟩ := Option.bind_eq_some_iff.1 h
            by_cases hy1_6 : (((x1_6).l).getD (x1_8).toNat 0) ≥ x1_2
            · rw [if_pos hy1_6] at h
              by_cases hy1_7 : 0 ≤ (w64 ((((x1_6).l).getD (x1_8).toNat 0) - x1_2)) ∧ (w64 ((((x1_6).l).getD (x1_8).toNat 0) - x1_2)) < ((x1_1 : Nat) : Int)
              · rw [if_pos hy1_7] at h
                by_cases hy1_8 : ((w64 ((((x1_6).l).getD (x1_8).toNat 0) - x1_2))).toNat < (x1_0).length
                · rw [if_pos hy1_8] at h
                  by_cases hy1_9 : ((x1_0).getD ((w64 ((((x1_6).l).getD (x1_8).toNat 0) - x1_2))).toNat (false)) = true
                  · rw [if_pos hy1_9] at h
                    obtain rfl := Sum.inl.inj (Option.some.inj h); exact q_gramderiving1n_1_0 n x1_0 x1_1 x1_2 x1_3 x1_4 x1_5 x1_6 x1_7 x1_8 hy1_1 hy1_2 hy1_3 hy1_4 hy1_5 hy1_6 hy1_7 hy1_8 hy1_9
                  · rw [if_neg hy1_9] at h
                    cases h
                · rw [if_neg hy1_8] at h; cases h
              · rw [if_neg hy1_7] at h; cases h
            · rw [if_neg hy1_6] at h
              cases h
          · rw [if_neg hy1_4] at h
            by_cases hy1_5 : (((x1_6).l).getD (x1_8).toNat 0) ≥ x1_2
            · rw [if_pos hy1_5] at h
              by_cases hy1_6 : 0 ≤ (w64 ((((x1_6).l).getD (x1_8).toNat 0) - x1_2)) ∧ (w64 ((((x1_6).l).getD (x1_8).toNat 0) - x1_2)) < ((x1_1 : Nat) : Int)
              · rw [if_pos hy1_6] at h
                by_cases hy1_7 : ((w64 ((((x1_6).l).getD (x1_8).toNat 0) - x1_2))).toNat < (x1_0).length
                · rw [if_pos hy1_7] at h
                  by_cases hy1_8 : ((x1_0).getD ((w64 ((((x1_6).l).getD (x1_8).toNat 0) - x1_2))).toNat (false)) = true
                  · rw [if_pos hy1_8] at h
                    obtain rfl := Sum.inl.inj (Option.some.inj h); exact q_gramderiving1n_1_3 n x1_0 x1_1 x1_2 x1_3 x1_4 x1_5 x1_6 x1_7 x1_8 hy1_1 hy1_2 hy1_3 hy1_4 hy1_5 hy1_6 hy1_7 hy1_8
                  · rw [if_neg hy1_8] at h
                    cases h
                · rw [if_neg hy1_7] at h; cases h
              · rw [if_neg hy1_6] at h; cases h
            · rw [if_neg hy1_5] at h
              cases h
        · rw [if_neg hy1_3] at h; cases h
      · rw [if_neg hy1_2] at h; cases h
    · rw [if_neg hy1_1] at h
      cases h)
    (fun x1_8 r h => by
    unfold B_gramderiving1n_1 at h
    dsimp only at h
    by_cases hy1_1 : x1_8 < x1_7
    · rw [if_pos hy1_1] at h
      by_cases hy1_2 : 0 ≤ x1_8 ∧ x1_8 < (((x1_6).l.length : Nat) : Int)
      · rw [if_pos hy1_2] at h
        by_cases hy1_3 : (x1_8).toNat < ((x1_6).l).length
        · rw [if_pos hy1_3] at h
          by_cases hy1_4 : (((x1_6).l).getD (x1_8).toNat 0) < x1_2
          · rw [if_pos hy1_4] at h
            obtain ⟨_, hy1_5, h⟩ := Option.bind_eq_some_iff.1 h
            by_cases hy1_6 : (((x1_6).l).getD (x1_8).toNat 0) ≥ x1_2
            · rw [if_pos hy1_6] at h
              by_cases hy1_7 : 0 ≤ (w64 ((((x1_6).l).getD (x1_8).toNat 0) - x1_2)) ∧ (w64 ((((x1_6).l).getD (x1_8).toNat 0) - x1_2)) < ((x1_1 : Nat) : Int)
              · rw [if_pos hy1_7] at h
                by_cases hy1_8 : ((w64 ((((x1_6).l).getD (x1_8).toNat 0) - x1_2))).toNat < (x1_0).length
                · rw [if_pos hy1_8] at h
                  by_cases hy1_9 : ((x1_0).getD ((w64 ((((x1_6).l).getD (x1_8).toNat 0) - x1_2))).toNat (false)) = true
                  · rw [if_pos hy1_9] at h
                    cases h
                  · rw [if_neg hy1_9] at h
                    obtain rfl := Sum.inr.inj (Option.some.inj h); exact q_gramderiving1n_1_1 n x1_0 x1_1 x1_2 x1_3 x1_4 x1_5 x1_6 x1_7 x1_8 hy1_1 hy1_2 hy1_3 hy1_4 hy1_5 hy1_6 hy1_7 hy1_8 hy1_9
                · rw [if_neg hy1_8] at h; cases h
              · rw [if_neg hy1_7] at h; cases h
            · rw [if_neg hy1_6] at h
              obtain rfl := Sum.inr.inj (Option.some.inj h); exact q_gramderiving1n_1_2 n x1_0 x1_1 x1_2 x1_3 x1_4 x1_5 x1_6 x1_7 x1_8 hy1_1 hy1_2 hy1_3 hy1_4 hy1_5 hy1_6
          · rw [if_neg hy1_4] at h
            by_cases hy1_5 : (((x1_6).l).getD (x1_8).toNat 0) ≥ x1_2
            · rw [if_pos hy1_5] at h
              by_cases hy1_6 : 0 ≤ (w64 ((((x1_6).l).getD (x1_8).toNat 0) - x1_2)) ∧ (w64 ((((x1_6).l).getD (x1_8).toNat 0) - x1_2)) < ((x1_1 : Nat) : Int)
              · rw [if_pos hy1_6] at h
                by_cases hy1_7 : ((w64 ((((x1_6).l).getD (x1_8).toNat 0) - x1_2))).toNat < (x1_0).length
                · rw [if_pos hy1_7] at h
                  by_cases hy1_8 : ((x1_0).getD ((w64 ((((x1_6).l).getD (x1_8).toNat 0) - x1_2))).toNat (false)) = true
                  · rw [if_pos hy1_8] at h
                    cases h
                  · rw [if_neg hy1_8] at h
                    obtain rfl := Sum.inr.inj (Option.some.inj h); exact q_gramderiving1n_1_4 n x1_0 x1_1 x1_2 x1_3 x1_4 x1_5 x1_6 x1_7 x1_8 hy1_1 hy1_2 hy1_3 hy1_4 hy1_5 hy1_6 hy1_7 hy1_8
                · rw [if_neg hy1_7] at h; cases h
              · rw [if_neg hy1_6] at h; cases h
            · rw [if_neg hy1_5] at h
              obtain rfl := Sum.inr.inj (Option.some.inj h); exact q_gramderiving1n_1_5 n x1_0 x1_1 x1_2 x1_3 x1_4 x1_5 x1_6 x1_7 x1_8 hy1_1 hy1_2 hy1_3 hy1_4 hy1_5
        · rw [if_neg hy1_3] at h; cases h
      · rw [if_neg hy1_2] at h; cases h
    · rw [if_neg hy1_1] at h
      obtain rfl := Sum.inr.inj (Option.some.inj h); exact q_gramderiving1n_1_6 n x1_0 x1_1 x1_2 x1_3 x1_4 x1_5 x1_6 x1_7 x1_8 hy1_1)
    (fun r => by intro hx; rcases r with _ | _ <;> cases hx) h
noncomputable def A_gramderiving1n (pl : Int) (pr : NL) (sn : Nat) (gT : Int) (gN : Int) (gK : Int) (L : List (Bool)) : List Value := [(Value.agg #[(Value.int .i64 pl), (nlV pr)]), (Value.pointer (some ⟨0, 0, none⟩)), (Value.pointer (some ⟨1, 0, none⟩)), (Value.pointer (some ⟨2, 0, none⟩))]
noncomputable def H_gramderiving1n (pl : Int) (pr : NL) (sn : Nat) (gT : Int) (gN : Int) (gK : Int) (L : List (Bool)) : AH := ⟨sB [(0, (some (.cells (layT [(Value.slice (some ⟨3, 0, none⟩) sn sn)]) 35))), (1, (some (.cells (layT [(Value.int .i64 gT), (Value.int .i64 gN), (Value.int .i64 gK), (Value.slice (some ⟨0, 0, some 1⟩) (Args.G).length Args.cG)]) 24))), (2, (some (.cells (layT [(Value.func (.func 36) #[] #[])]) 48))), (3, (some (.cells (layT (rows rw_b L)) 4)))], 4, 4⟩
noncomputable def V_gramderiving1n (pl : Int) (pr : NL) (sn : Nat) (gT : Int) (gN : Int) (gK : Int) (L : List (Bool)) (r : List (Bool) × Bool) : Value := match r with
  | (o0, o1) => (Value.bool o1)
noncomputable def R_gramderiving1n (pl : Int) (pr : NL) (sn : Nat) (gT : Int) (gN : Int) (gK : Int) (L : List (Bool)) (r : List (Bool) × Bool) : AH := match r with
  | (o0, o1) => ⟨sB [(3, (some (.cells (layT (rows rw_b o0)) 4)))], 4, 3⟩
def m_gramderiving1n (n : Nat) (pl : Int) (pr : NL) (sn : Nat) (gT : Int) (gN : Int) (gK : Int) (L : List (Bool)) : Option (List (Bool) × Bool) :=
  if 0 ≤ pl ∧ pl < ((sn : Nat) : Int) then
    if (pl).toNat < (L).length then
      if ((L).getD (pl).toNat (false)) = true then
        some (L, false)
      else
        match m_gramderiving1n_1 n L sn gT gN gK pl pr (((pr).l.length : Nat) : Int) 0 with
        | none => none
        | some (.inl _) =>
          some (L, false)
        | some (.inr _) =>
          some (((L).set (pl).toNat true), true)
    else none
  else none
set_option maxRecDepth 100000 in
theorem p_gramderiving1n_0 (n : Nat) (pl : Int) (pr : NL) (sn : Nat) (gT : Int) (gN : Int) (gK : Int) (L : List (Bool)) (hc1 : 0 ≤ pl ∧ pl < ((sn : Nat) : Int)) (hc2 : (pl).toNat < (L).length) (hc3 : ((L).getD (pl).toNat (false)) = true) : Gv P (.func 49) (A_gramderiving1n pl pr sn gT gN gK L) (H_gramderiving1n pl pr sn gT gN gK L) (V_gramderiving1n pl pr sn gT gN gK L (L, false)) (R_gramderiving1n pl pr sn gT gN gK L (L, false)) :=
  runF_ok hm (A := aT [(8, .pur (Value.pointer (some ⟨3, ((pl).toNat * 1), none⟩))), (9, .ld (Value.bool ((L).getD (pl).toNat (false)))), (10, .val (.bool true))]) (L := lT []) (wk := ⟨[5], [(3, 3, true)], 4, 3⟩)
    (ps := [opIndexAddr P 35 (Value.slice (some ⟨3, 0, none⟩) sn sn) (Value.int .i64 pl) Ax.h0 = some ((Value.pointer (some ⟨3, ((pl).toNat * 1), none⟩)), Ax.h0),
    (layT (rows rw_b L)).get ((pl).toNat * 1) = some (Value.bool ((L).getD (pl).toNat (false))),
    (Value.bool ((L).getD (pl).toNat (false))) = (Value.bool true),
    FlatB (.cells (layT (rows rw_b L)) 4)]) (by kernel_rfl) ⟨(ixS (e := 4) (by kernel_rfl) (by kernel_rfl) (hc1).1 (hc1).2), (rows_ld rwf_b (false) (i := (pl).toNat) (j := 0) ((pl).toNat * 1) rfl (hc2) (by decide) rfl), (vB hc3), (rows_flat rwf_b _ _), trivial⟩
set_option maxRecDepth 100000 in
theorem p_gramderiving1n_1 (n : Nat) (pl : Int) (pr : NL) (sn : Nat) (gT : Int) (gN : Int) (gK : Int) (L : List (Bool)) (hc1 : 0 ≤ pl ∧ pl < ((sn : Nat) : Int)) (hc2 : (pl).toNat < (L).length) (hc3 : ¬ (((L).getD (pl).toNat (false)) = true)) (hc4 : m_gramderiving1n_1 n L sn gT gN gK pl pr (((pr).l.length : Nat) : Int) 0 = some (.inl ())) : Gv P (.func 49) (A_gramderiving1n pl pr sn gT gN gK L) (H_gramderiving1n pl pr sn gT gN gK L) (V_gramderiving1n pl pr sn gT gN gK L (L, false)) (R_gramderiving1n pl pr sn gT gN gK L (L, false)) :=
  runF_ok hm (A := aT [(8, .pur (Value.pointer (some ⟨3, ((pl).toNat * 1), none⟩))), (9, .ld (Value.bool ((L).getD (pl).toNat (false)))), (10, .val (.bool false))]) (L := lT [(19, ⟨⟨[1, 2, 3, 4, 14, 15, 16], [(0, 0, false), (1, 1, false), (2, 2, false), (3, 3, true), (4, 4, false)], 5, 4⟩, (X_gramderiving1n_1 L sn gT gN gK pl pr (((pr).l.length : Nat) : Int) (.inl ())).1, (X_gramderiving1n_1 L sn gT gN gK pl pr (((pr).l.length : Nat) : Int) (.inl ())).2⟩)]) (wk := ⟨[5], [(3, 3, true)], 4, 3⟩)
    (ps := [opIndexAddr P 35 (Value.slice (some ⟨3, 0, none⟩) sn sn) (Value.int .i64 pl) Ax.h0 = some ((Value.pointer (some ⟨3, ((pl).toNat * 1), none⟩)), Ax.h0),
    (layT (rows rw_b L)).get ((pl).toNat * 1) = some (Value.bool ((L).getD (pl).toNat (false))),
    (Value.bool ((L).getD (pl).toNat (false))) = (Value.bool false),
    CG P none (fnN P 49) 4 (codeOf P 49 [false, true, false, true, true, false, true]) (S_gramderiving1n_1 L sn gT gN gK pl pr (((pr).l.length : Nat) : Int) 0) (X_gramderiving1n_1 L sn gT gN gK pl pr (((pr).l.length : Nat) : Int) (.inl ())),
    FlatB (.cells (layT (rows rw_b L)) 4),
    FlatB (.cells (layT (rows rw_b L)) 4)]) (by kernel_rfl) ⟨(ixS (e := 4) (by kernel_rfl) (by kernel_rfl) (hc1).1 (hc1).2), (rows_ld rwf_b (false) (i := (pl).toNat) (j := 0) ((pl).toNat * 1) rfl (hc2) (by decide) rfl), (vB (Bool.eq_false_iff.2 hc3)), (m_gramderiving1n_1_ok n L sn gT gN gK pl pr (((pr).l.length : Nat) : Int) 0 (.inl ()) hc4), (rows_flat rwf_b _ _), (rows_flat rwf_b _ _), trivial⟩
set_option maxRecDepth 100000 in
theorem p_gramderiving1n_2 (n : Nat) (pl : Int) (pr : NL) (sn : Nat) (gT : Int) (gN : Int) (gK : Int) (L : List (Bool)) (hc1 : 0 ≤ pl ∧ pl < ((sn : Nat) : Int)) (hc2 : (pl).toNat < (L).length) (hc3 : ¬ (((L).getD (pl).toNat (false)) = true)) (hc4 : m_gramderiving1n_1 n L sn gT gN gK pl pr (((pr).l.length : Nat) : Int) 0 = some (.inr ())) : Gv P (.func 49) (A_gramderiving1n pl pr sn gT gN gK L) (H_gramderiving1n pl pr sn gT gN gK L) (V_gramderiving1n pl pr sn gT gN gK L (((L).set (pl).toNat true), true)) (R_gramderiving1n pl pr sn gT gN gK L (((L).set (pl).toNat true), true)) :=
  runF_ok hm (A := aT [(8, .pur (Value.pointer (some ⟨3, ((pl).toNat * 1), none⟩))), (9, .ld (Value.bool ((L).getD (pl).toNat (false)))), (10, .val (.bool false)), (24, .pur (Value.pointer (some ⟨3, ((pl).toNat * 1), none⟩))), (25, .sto (layT (rows rw_b ((L).set (pl).toNat true))))]) (L := lT [(19, ⟨⟨[1, 2, 3, 4, 14, 15, 16], [(0, 0, false), (1, 1, false), (2, 2, false), (3, 3, true), (4, 4, false)], 5, 4⟩, (X_gramderiving1n_1 L sn gT gN gK pl pr (((pr).l.length : Nat) : Int) (.inr ())).1, (X_gramderiving1n_1 L sn gT gN gK pl pr (((pr).l.length : Nat) : Int) (.inr ())).2⟩)]) (wk := ⟨[5], [(3, 3, true)], 4, 3⟩)
    (ps := [opIndexAddr P 35 (Value.slice (some ⟨3, 0, none⟩) sn sn) (Value.int .i64 pl) Ax.h0 = some ((Value.pointer (some ⟨3, ((pl).toNat * 1), none⟩)), Ax.h0),
    (layT (rows rw_b L)).get ((pl).toNat * 1) = some (Value.bool ((L).getD (pl).toNat (false))),
    (Value.bool ((L).getD (pl).toNat (false))) = (Value.bool false),
    CG P none (fnN P 49) 4 (codeOf P 49 [false, true, false, true, true, false, true]) (S_gramderiving1n_1 L sn gT gN gK pl pr (((pr).l.length : Nat) : Int) 0) (X_gramderiving1n_1 L sn gT gN gK pl pr (((pr).l.length : Nat) : Int) (.inr ())),
    FlatB (.cells (layT (rows rw_b L)) 4),
    opIndexAddr P 35 (Value.slice (some ⟨3, 0, none⟩) sn sn) (Value.int .i64 pl) Ax.h0 = some ((Value.pointer (some ⟨3, ((pl).toNat * 1), none⟩)), Ax.h0),
    ∃ old, rdT (layT (rows rw_b L)) 1 ((pl).toNat * 1) = some old,
    layL [(Value.bool true)] ((pl).toNat * 1) (layT (rows rw_b L)) = layT (rows rw_b ((L).set (pl).toNat true)),
    FlatB (.cells (layT (rows rw_b ((L).set (pl).toNat true))) 4)]) (by kernel_rfl) ⟨(ixS (e := 4) (by kernel_rfl) (by kernel_rfl) (hc1).1 (hc1).2), (rows_ld rwf_b (false) (i := (pl).toNat) (j := 0) ((pl).toNat * 1) rfl (hc2) (by decide) rfl), (vB (Bool.eq_false_iff.2 hc3)), (m_gramderiving1n_1_ok n L sn gT gN gK pl pr (((pr).l.length : Nat) : Int) 0 (.inr ()) hc4), (rows_flat rwf_b _ _), (ixS (e := 4) (by kernel_rfl) (by kernel_rfl) (hc1).1 (hc1).2), (Exists.elim (rows_st rwf_b (false) (i := (pl).toNat) (j := 0) (l := [(Value.bool true)]) true ((pl).toNat * 1) rfl (hc2) (Nat.le_of_ble_eq_true rfl) rfl) fun o h => ⟨o, h.1⟩), (Exists.elim (rows_st rwf_b (false) (i := (pl).toNat) (j := 0) (l := [(Value.bool true)]) true ((pl).toNat * 1) rfl (hc2) (Nat.le_of_ble_eq_true rfl) rfl) fun o h => h.2), (rows_flat rwf_b _ _), trivial⟩
theorem m_gramderiving1n_ok (n : Nat) (pl : Int) (pr : NL) (sn : Nat) (gT : Int) (gN : Int) (gK : Int) (L : List (Bool)) (r : List (Bool) × Bool) (h : m_gramderiving1n n pl pr sn gT gN gK L = some r) : Gv P (.func 49) (A_gramderiving1n pl pr sn gT gN gK L) (H_gramderiving1n pl pr sn gT gN gK L) (V_gramderiving1n pl pr sn gT gN gK L r) (R_gramderiving1n pl pr sn gT gN gK L r) := by
  unfold m_gramderiving1n at h
  by_cases hc1 : 0 ≤ pl ∧ pl < ((sn : Nat) : Int)
  · rw [if_pos hc1] at h
    by_cases hc2 : (pl).toNat < (L).length
    · rw [if_pos hc2] at h
      by_cases hc3 : ((L).getD (pl).toNat (false)) = true
      · rw [if_pos hc3] at h
        obtain rfl := Option.some.inj h; exact p_gramderiving1n_0 n pl pr sn gT gN gK L hc1 hc2 hc3
      · rw [if_neg hc3] at h
        rcases hc4 : m_gramderiving1n_1 n L sn gT gN gK pl pr (((pr).l.length : Nat) : Int) 0 with _ | (⟨⟩ | ⟨⟩)
        · rw [hc4] at h; cases h
        · rw [hc4] at h
          dsimp only at h
          obtain rfl := Option.some.inj h; exact p_gramderiving1n_1 n pl pr sn gT gN gK L hc1 hc2 hc3 hc4
        · rw [hc4] at h
          dsimp only at h
          obtain rfl := Option.some.inj h; exact p_gramderiving1n_2 n pl pr sn gT gN gK L hc1 hc2 hc3 hc4
    · rw [if_neg hc2] at h; cases h
  · rw [if_neg hc1] at h; cases h

noncomputable def S_gramuntilapiProdn_2 (x2_1 : Nat) (x2_2 : Int) (x2_3 : Int) (x2_4 : Int) (x2_6 : Int) (st : List (Bool) × Bool × Int) : XSt := match st with
  | (x2_0, x2_5, x2_7) => (sT 18 [(0, (Value.slice (some ⟨0, 0, some 1⟩) (Args.G).length Args.cG)), (1, (Value.func (.func 49) #[] #[(Value.pointer (some ⟨0, 0, none⟩)), (Value.pointer (some ⟨1, 0, none⟩)), (Value.pointer (some ⟨2, 0, none⟩))])), (4, (Value.bool x2_5)), (8, (Value.slice (some ⟨0, 0, some 1⟩) (Args.G).length Args.cG)), (9, (Value.int .i64 x2_6)), (10, (Value.int .i64 x2_7))], [], ⟨sB [(0, (some (.cells (layT [(Value.slice (some ⟨3, 0, none⟩) x2_1 x2_1)]) 35))), (1, (some (.cells (layT [(Value.int .i64 x2_2), (Value.int .i64 x2_3), (Value.int .i64 x2_4), (Value.slice (some ⟨0, 0, some 1⟩) (Args.G).length Args.cG)]) 24))), (2, (some (.cells (layT [(Value.func (.func 36) #[] #[])]) 48))), (3, (some (.cells (layT (rows rw_b x2_0)) 4)))], 4, 3⟩)
noncomputable def X_gramuntilapiProdn_2 (x2_1 : Nat) (x2_2 : Int) (x2_3 : Int) (x2_4 : Int) (x2_6 : Int) (r : List (Bool) × Bool) : Ex × XSt := match r with
  | (z2_0, z2_1) => (.exit 2, (sT 18 [(0, (Value.slice (some ⟨0, 0, some 1⟩) (Args.G).length Args.cG)), (1, (Value.func (.func 49) #[] #[(Value.pointer (some ⟨0, 0, none⟩)), (Value.pointer (some ⟨1, 0, none⟩)), (Value.pointer (some ⟨2, 0, none⟩))])), (4, (Value.bool z2_1))], [], ⟨sB [(0, (some (.cells (layT [(Value.slice (some ⟨3, 0, none⟩) x2_1 x2_1)]) 35))), (1, (some (.cells (layT [(Value.int .i64 x2_2), (Value.int .i64 x2_3), (Value.int .i64 x2_4), (Value.slice (some ⟨0, 0, some 1⟩) (Args.G).length Args.cG)]) 24))), (2, (some (.cells (layT [(Value.func (.func 36) #[] #[])]) 48))), (3, (some (.cells (layT (rows rw_b z2_0)) 4)))], 4, 3⟩))
def B_gramuntilapiProdn_2 (n : Nat) (x2_1 : Nat) (x2_2 : Int) (x2_3 : Int) (x2_4 : Int) (x2_6 : Int) (st : List (Bool) × Bool × Int) : Option ((List (Bool) × Bool × Int) ⊕ (List (Bool) × Bool)) := match st with
  | (x2_0, x2_5, x2_7) =>
    if x2_7 < x2_6 then
      if 0 ≤ x2_7 ∧ x2_7 < (((Args.G).length : Nat) : Int) then
        (m_gramderiving1n n (((Args.G).getD (x2_7).toNat (0, nl0)).1) (((Args.G).getD (x2_7).toNat (0, nl0)).2) x2_1 x2_2 x2_3 x2_4 x2_0).bind fun t => match t with
        | (y2_3_0, y2_3_1) =>
          if y2_3_1 = true then
            some (.inl (y2_3_0, true, (w64 (x2_7 + (1 : Int)))))
          else
            some (.inl (y2_3_0, x2_5, (w64 (x2_7 + (1 : Int)))))
      else none
    else
      some (.inr (x2_0, x2_5))
def m_gramuntilapiProdn_2 (n : Nat) (x2_1 : Nat) (x2_2 : Int) (x2_3 : Int) (x2_4 : Int) (x2_6 : Int) (st : List (Bool) × Bool × Int) : Option (List (Bool) × Bool) := iterM (B_gramuntilapiProdn_2 n x2_1 x2_2 x2_3 x2_4 x2_6) n st
set_option maxRecDepth 100000 in
theorem q_gramuntilapiProdn_2_0 (n : Nat) (x2_0 : List (Bool)) (x2_1 : Nat) (x2_2 : Int) (x2_3 : Int) (x2_4 : Int) (x2_5 : Bool) (x2_6 : Int) (x2_7 : Int) (hy2_1 : x2_7 < x2_6) (hy2_2 : 0 ≤ x2_7 ∧ x2_7 < (((Args.G).length : Nat) : Int)) (y2_3_0 : List (Bool)) (y2_3_1 : Bool) (hy2_3 : m_gramderiving1n n (((Args.G).getD (x2_7).toNat (0, nl0)).1) (((Args.G).getD (x2_7).toNat (0, nl0)).2) x2_1 x2_2 x2_3 x2_4 x2_0 = some (y2_3_0, y2_3_1)) (hy2_4 : y2_3_1 = true) : CG P none (fnN P 39) 4 (codeOf P 39 [false, false, true, true, false, true, false, false, true]) (S_gramuntilapiProdn_2 x2_1 x2_2 x2_3 x2_4 x2_6 (x2_0, x2_5, x2_7)) (.normal, S_gramuntilapiProdn_2 x2_1 x2_2 x2_3 x2_4 x2_6 (y2_3_0, true, (w64 (x2_7 + (1 : Int))))) :=
  runC_ok hm (A := aT [(1, .val (.bool true)), (7, .pur (Value.pointer (some ⟨0, ((x2_7).toNat * 2), some 1⟩))), (8, .ld (Value.agg #[(Value.int .i64 (((Args.G).getD (x2_7).toNat (0, nl0)).1)), (nlV (((Args.G).getD (x2_7).toNat (0, nl0)).2))])), (14, .call ⟨4, [(0, 0, false), (1, 1, false), (2, 2, false), (3, 3, true)], (V_gramderiving1n (((Args.G).getD (x2_7).toNat (0, nl0)).1) (((Args.G).getD (x2_7).toNat (0, nl0)).2) x2_1 x2_2 x2_3 x2_4 x2_0 (y2_3_0, y2_3_1)), (R_gramderiving1n (((Args.G).getD (x2_7).toNat (0, nl0)).1) (((Args.G).getD (x2_7).toNat (0, nl0)).2) x2_1 x2_2 x2_3 x2_4 x2_0 (y2_3_0, y2_3_1)), [(3, 3, true)]⟩), (15, .val (.bool true))]) (L := lT []) (wk := ⟨[0, 1, 4, 8, 9, 10], [(0, 0, false), (1, 1, false), (2, 2, false), (3, 3, true)], 4, 3⟩)
    (ps := [(Value.bool (decide (x2_7 < x2_6))) = (Value.bool true),
    opIndexAddr P 22 (Value.slice (some ⟨0, 0, some 1⟩) (Args.G).length Args.cG) (Value.int .i64 x2_7) Ax.h0 = some ((Value.pointer (some ⟨0, ((x2_7).toNat * 2), some 1⟩)), Ax.h0),
    loadG P 41 (Value.pointer (some ⟨0, ((x2_7).toNat * 2), some 1⟩)) Ax.h0 = some ((Value.agg #[(Value.int .i64 (((Args.G).getD (x2_7).toNat (0, nl0)).1)), (nlV (((Args.G).getD (x2_7).toNat (0, nl0)).2))]), Ax.h0),
    Gv P (.func 49) (A_gramderiving1n (((Args.G).getD (x2_7).toNat (0, nl0)).1) (((Args.G).getD (x2_7).toNat (0, nl0)).2) x2_1 x2_2 x2_3 x2_4 x2_0) (H_gramderiving1n (((Args.G).getD (x2_7).toNat (0, nl0)).1) (((Args.G).getD (x2_7).toNat (0, nl0)).2) x2_1 x2_2 x2_3 x2_4 x2_0) (V_gramderiving1n (((Args.G).getD (x2_7).toNat (0, nl0)).1) (((Args.G).getD (x2_7).toNat (0, nl0)).2) x2_1 x2_2 x2_3 x2_4 x2_0 (y2_3_0, y2_3_1)) (R_gramderiving1n (((Args.G).getD (x2_7).toNat (0, nl0)).1) (((Args.G).getD (x2_7).toNat (0, nl0)).2) x2_1 x2_2 x2_3 x2_4 x2_0 (y2_3_0, y2_3_1)),
    FlatB (.cells (layT (rows rw_b x2_0)) 4),
    FlatB (.cells (layT (rows rw_b y2_3_0)) 4),
    (Value.bool y2_3_1) = (Value.bool true),
    FlatB (.cells (layT (rows rw_b y2_3_0)) 4)]) (by kernel_rfl) ⟨(vbT hy2_1), (ixW (e := 41) (by kernel_rfl) (by kernel_rfl) (hy2_2).1 (hy2_2).2), (ldWA rwf_iL (0, nl0) (i := (x2_7).toNat) (q := 0) (L := Args.G) (n := 2) ((x2_7).toNat * 2) rfl rfl (by kernel_rfl) (by kernel_rfl) (toNatLt hy2_2) (by decide) rfl), (m_gramderiving1n_ok n (((Args.G).getD (x2_7).toNat (0, nl0)).1) (((Args.G).getD (x2_7).toNat (0, nl0)).2) x2_1 x2_2 x2_3 x2_4 x2_0 (y2_3_0, y2_3_1) hy2_3), (rows_flat rwf_b _ _), (rows_flat rwf_b _ _), (vB hy2_4), (rows_flat rwf_b _ _), trivial⟩
set_option maxRecDepth 100000 in
theorem q_gramuntilapiProdn_2_1 (n : Nat) (x2_0 : List (Bool)) (x2_1 : Nat) (x2_2 : Int) (x2_3 : Int) (x2_4 : Int) (x2_5 : Bool) (x2_6 : Int) (x2_7 : Int) (hy2_1 : x2_7 < x2_6) (hy2_2 : 0 ≤ x2_7 ∧ x2_7 < (((Args.G).length : Nat) : Int)) (y2_3_0 : List (Bool)) (y2_3_1 : Bool) (hy2_3 : m_gramderiving1n n (((Args.G).getD (x2_7).toNat (0, nl0)).1) (((Args.G).getD (x2_7).toNat (0, nl0)).2) x2_1 x2_2 x2_3 x2_4 x2_0 = some (y2_3_0, y2_3_1)) (hy2_4 : ¬ (y2_3_1 = true)) : CG P none (fnN P 39) 4 (codeOf P 39 [false, false, true, true, false, true, false, false, true]) (S_gramuntilapiProdn_2 x2_1 x2_2 x2_3 x2_4 x2_6 (x2_0, x2_5, x2_7)) (.normal, S_gramuntilapiProdn_2 x2_1 x2_2 x2_3 x2_4 x2_6 (y2_3_0, x2_5, (w64 (x2_7 + (1 : Int))))) :=
  runC_ok hm (A := aT [(1, .val (.bool true)), (7, .pur (Value.pointer (some ⟨0, ((x2_7).toNat * 2), some 1⟩))), (8, .ld (Value.agg #[(Value.int .i64 (((Args.G).getD (x2_7).toNat (0, nl0)).1)), (nlV (((Args.G).getD (x2_7).toNat (0, nl0)).2))])), (14, .call ⟨4, [(0, 0, false), (1, 1, false), (2, 2, false), (3, 3, true)], (V_gramderiving1n (((Args.G).getD (x2_7).toNat (0, nl0)).1) (((Args.G).getD (x2_7).toNat (0, nl0)).2) x2_1 x2_2 x2_3 x2_4 x2_0 (y2_3_0, y2_3_1)), (R_gramderiving1n (((Args.G).getD (x2_7).toNat (0, nl0)).1) (((Args.G).getD (x2_7).toNat (0, nl0)).2) x2_1 x2_2 x2_3 x2_4 x2_0 (y2_3_0, y2_3_1)), [(3, 3, true)]⟩), (15, .val (.bool false))]) (L := lT []) (wk := ⟨[0, 1, 4, 8, 9, 10], [(0, 0, false), (1, 1, false), (2, 2, false), (3, 3, true)], 4, 3⟩)
    (ps := [(Value.bool (decide (x2_7 < x2_6))) = (Value.bool true),
    opIndexAddr P 22 (Value.slice (some ⟨0, 0, some 1⟩) (Args.G).length Args.cG) (Value.int .i64 x2_7) Ax.h0 = some ((Value.pointer (some ⟨0, ((x2_7).toNat * 2), some 1⟩)), Ax.h0),
    loadG P 41 (Value.pointer (some ⟨0, ((x2_7).toNat * 2), some 1⟩)) Ax.h0 = some ((Value.agg #[(Value.int .i64 (((Args.G).getD (x2_7).toNat (0, nl0)).1)), (nlV (((Args.G).getD (x2_7).toNat (0, nl0)).2))]), Ax.h0),
    Gv P (.func 49) (A_gramderiving1n (((Args.G).getD (x2_7).toNat (0, nl0)).1) (((Args.G).getD (x2_7).toNat (0, nl0)).2) x2_1 x2_2 x2_3 x2_4 x2_0) (H_gramderiving1n (((Args.G).getD (x2_7).toNat (0, nl0)).1) (((Args.G).getD (x2_7).toNat (0, nl0)).2) x2_1 x2_2 x2_3 x2_4 x2_0) (V_gramderiving1n (((Args.G).getD (x2_7).toNat (0, nl0)).1) (((Args.G).getD (x2_7).toNat (0, nl0)).2) x2_1 x2_2 x2_3 x2_4 x2_0 (y2_3_0, y2_3_1)) (R_gramderiving1n (((Args.G).getD (x2_7).toNat (0, nl0)).1) (((Args.G).getD (x2_7).toNat (0, nl0)).2) x2_1 x2_2 x2_3 x2_4 x2_0 (y2_3_0, y2_3_1)),
    FlatB (.cells (layT (rows rw_b x2_0)) 4),
    FlatB (.cells (layT (rows rw_b y2_3_0)) 4),
    (Value.bool y2_3_1) = (Value.bool false),
    FlatB (.cells (layT (rows rw_b y2_3_0)) 4)]) (by kernel_rfl) ⟨(vbT hy2_1), (ixW (e := 41) (by kernel_rfl) (by kernel_rfl) (hy2_2).1 (hy2_2).2), (ldWA rwf_iL (0, nl0) (i := (x2_7).toNat) (q := 0) (L := Args.G) (n := 2) ((x2_7).toNat * 2) rfl rfl (by kernel_rfl) (by kernel_rfl) (toNatLt hy2_2) (by decide) rfl), (m_gramderiving1n_ok n (((Args.G).getD (x2_7).toNat (0, nl0)).1) (((Args.G).getD (x2_7).toNat (0, nl0)).2) x2_1 x2_2 x2_3 x2_4 x2_0 (y2_3_0, y2_3_1) hy2_3), (rows_flat rwf_b _ _), (rows_flat rwf_b _ _), (vB (Bool.eq_false_iff.2 hy2_4)), (rows_flat rwf_b _ _), trivial⟩
set_option maxRecDepth 100000 in
theorem q_gramuntilapiProdn_2_2 (n : Nat) (x2_0 : List (Bool)) (x2_1 : Nat) (x2_2 : Int) (x2_3 : Int) (x2_4 : Int) (x2_5 : Bool) (x2_6 : Int) (x2_7 : Int) (hy2_1 : ¬ (x2_7 < x2_6)) : CG P none (fnN P 39) 4 (codeOf P 39 [false, false, true, true, false, true, false, false, true]) (S_gramuntilapiProdn_2 x2_1 x2_2 x2_3 x2_4 x2_6 (x2_0, x2_5, x2_7)) (X_gramuntilapiProdn_2 x2_1 x2_2 x2_3 x2_4 x2_6 (x2_0, x2_5)) :=
  runC_ok hm (A := aT [(1, .val (.bool false))]) (L := lT []) (wk := ⟨[0, 1, 4], [(0, 0, false), (1, 1, false), (2, 2, false), (3, 3, true)], 4, 3⟩)
    (ps := [(Value.bool (decide (x2_7 < x2_6))) = (Value.bool false),
    FlatB (.cells (layT (rows rw_b x2_0)) 4)]) (by kernel_rfl) ⟨(vbF hy2_1), (rows_flat rwf_b _ _), trivial⟩
theorem m_gramuntilapiProdn_2_ok (n : Nat) (x2_1 : Nat) (x2_2 : Int) (x2_3 : Int) (x2_4 : Int) (x2_6 : Int) (st : List (Bool) × Bool × Int) (r : List (Bool) × Bool) (h : m_gramuntilapiProdn_2 n x2_1 x2_2 x2_3 x2_4 x2_6 st = some r) : CG P none (fnN P 39) 4 (codeOf P 39 [false, true, true, false, true, false, false, true]) (S_gramuntilapiProdn_2 x2_1 x2_2 x2_3 x2_4 x2_6 st) (X_gramuntilapiProdn_2 x2_1 x2_2 x2_3 x2_4 x2_6 r) :=
  CG.iter (b := codeOf P 39 [false, false, true, true, false, true, false, false, true]) (by kernel_rfl) (body := B_gramuntilapiProdn_2 n x2_1 x2_2 x2_3 x2_4 x2_6) (S := S_gramuntilapiProdn_2 x2_1 x2_2 x2_3 x2_4 x2_6) (X := X_gramuntilapiProdn_2 x2_1 x2_2 x2_3 x2_4 x2_6)
    (fun s s' h => by
    obtain ⟨x2_0, x2_5, x2_7⟩ := s
    unfold B_gramuntilapiProdn_2 at h
    dsimp only at h
    by_cases hy2_1 : x2_7 < x2_6
    · rw [if_pos hy2_1] at h
      by_cases hy2_2 : 0 ≤ x2_7 ∧ x2_7 < (((Args.G).length : Nat) : Int)
      · rw [if_pos hy2_2] at h
        obtain ⟨⟨y2_3_0, y2_3_1⟩, hy2_3, h⟩ := Option.bind_eq_some_iff.1 h
        dsimp only at h
        by_cases hy2_4 : y2_3_1 = true
        · rw [if_pos hy2_4] at h
          obtain rfl := Sum.inl.inj (Option.some.inj h); exact q_gramuntilapiProdn_2_0 n x2_0 x2_1 x2_2 x2_3 x2_4 x2_5 x2_6 x2_7 hy2_1 hy2_2 y2_3_0 y2_3_1 hy2_3 hy2_4
        · rw [if_neg hy2_4] at h
          obtain rfl := Sum.inl.inj (Option.some.inj h); exact q_gramuntilapiProdn_2_1 n x2_0 x2_1 x2_2 x2_3 x2_4 x2_5 x2_6 x2_7 hy2_1 hy2_2 y2_3_0 y2_3_1 hy2_3 hy2_4
      · rw [if_neg hy2_2] at h; cases h
    · rw [if_neg hy2_1] at h
      cases h)
    (fun s r h => by
    obtain ⟨x2_0, x2_5, x2_7⟩ := s
    unfold B_gramuntilapiProdn_2 at h
    dsimp only at h
    by_cases hy2_1 : x2_7 < x2_6
    · rw [if_pos hy2_1] at h
      by_cases hy2_2 : 0 ≤ x2_7 ∧ x2_7 < (((Args.G).length : Nat) : Int)
      · rw [if_pos hy2_2] at h
        obtain ⟨⟨y2_3_0, y2_3_1⟩, hy2_3, h⟩ := Option.bind_eq_some_iff.1 h
        dsimp only at h
        by_cases hy2_4 : y2_3_1 = true
        · rw [if_pos hy2_4] at h
          cases h
        · rw [if_neg hy2_4] at h
          cases h
      · rw [if_neg hy2_2] at h; cases h
    · rw [if_neg hy2_1] at h
      obtain rfl := Sum.inr.inj (Option.some.inj h); exact q_gramuntilapiProdn_2_2 n x2_0 x2_1 x2_2 x2_3 x2_4 x2_5 x2_6 x2_7 hy2_1)
    (fun r => by intro hx; cases hx) h
noncomputable def S_gramuntilapiProdn_1 (x1_1 : Nat) (x1_2 : Int) (x1_3 : Int) (x1_4 : Int) (st : List (Bool) × Bool) : XSt := match st with
  | (x1_0, x1_5) => (sT 18 [(0, (Value.slice (some ⟨0, 0, some 1⟩) (Args.G).length Args.cG)), (1, (Value.func (.func 49) #[] #[(Value.pointer (some ⟨0, 0, none⟩)), (Value.pointer (some ⟨1, 0, none⟩)), (Value.pointer (some ⟨2, 0, none⟩))])), (4, (Value.bool x1_5))], [], ⟨sB [(0, (some (.cells (layT [(Value.slice (some ⟨3, 0, none⟩) x1_1 x1_1)]) 35))), (1, (some (.cells (layT [(Value.int .i64 x1_2), (Value.int .i64 x1_3), (Value.int .i64 x1_4), (Value.slice (some ⟨0, 0, some 1⟩) (Args.G).length Args.cG)]) 24))), (2, (some (.cells (layT [(Value.func (.func 36) #[] #[])]) 48))), (3, (some (.cells (layT (rows rw_b x1_0)) 4)))], 4, 3⟩)
noncomputable def X_gramuntilapiProdn_1 (x1_1 : Nat) (x1_2 : Int) (x1_3 : Int) (x1_4 : Int) (r : List (Bool)) : Ex × XSt := match r with
  | z1_0 => (.exit 0, (sT 18 [], [], ⟨sB [(0, (some (.cells (layT [(Value.slice (some ⟨3, 0, none⟩) x1_1 x1_1)]) 35))), (1, (some (.cells (layT [(Value.int .i64 x1_2), (Value.int .i64 x1_3), (Value.int .i64 x1_4), (Value.slice (some ⟨0, 0, some 1⟩) (Args.G).length Args.cG)]) 24))), (2, (some (.cells (layT [(Value.func (.func 36) #[] #[])]) 48))), (3, (some (.cells (layT (rows rw_b z1_0)) 4)))], 4, 3⟩))
def B_gramuntilapiProdn_1 (n : Nat) (x1_1 : Nat) (x1_2 : Int) (x1_3 : Int) (x1_4 : Int) (st : List (Bool) × Bool) : Option ((List (Bool) × Bool) ⊕ (List (Bool))) := match st with
  | (x1_0, x1_5) =>
    if x1_5 = true then
      (m_gramuntilapiProdn_2 n x1_1 x1_2 x1_3 x1_4 (((Args.G).length : Nat) : Int) (x1_0, false, 0)).bind fun t => match t with
      | (y1_2_0, y1_2_1) =>
        some (.inl (y1_2_0, y1_2_1))
    else
      some (.inr x1_0)
def m_gramuntilapiProdn_1 (n : Nat) (x1_1 : Nat) (x1_2 : Int) (x1_3 : Int) (x1_4 : Int) (st : List (Bool) × Bool) : Option (List (Bool)) := iterM (B_gramuntilapiProdn_1 n x1_1 x1_2 x1_3 x1_4) n st
set_option maxRecDepth 100000 in
theorem q_gramuntilapiProdn_1_0 (n : Nat) (x1_0 : List (Bool)) (x1_1 : Nat) (x1_2 : Int) (x1_3 : Int) (x1_4 : Int) (x1_5 : Bool) (hy1_1 : x1_5 = true) (y1_2_0 : List (Bool)) (y1_2_1 : Bool) (hy1_2 : m_gramuntilapiProdn_2 n x1_1 x1_2 x1_3 x1_4 (((Args.G).length : Nat) : Int) (x1_0, false, 0) = some (y1_2_0, y1_2_1)) : CG P none (fnN P 39) 4 (codeOf P 39 [false, false, true]) (S_gramuntilapiProdn_1 x1_1 x1_2 x1_3 x1_4 (x1_0, x1_5)) (.normal, S_gramuntilapiProdn_1 x1_1 x1_2 x1_3 x1_4 (y1_2_0, y1_2_1)) :=
  runC_ok hm (A := aT [(3, .val (.bool true))]) (L := lT [(12, ⟨⟨[0, 1, 4, 8, 9, 10], [(0, 0, false), (1, 1, false), (2, 2, false), (3, 3, true)], 4, 3⟩, (X_gramuntilapiProdn_2 x1_1 x1_2 x1_3 x1_4 (((Args.G).length : Nat) : Int) (y1_2_0, y1_2_1)).1, (X_gramuntilapiProdn_2 x1_1 x1_2 x1_3 x1_4 (((Args.G).length : Nat) : Int) (y1_2_0, y1_2_1)).2⟩)]) (wk := ⟨[0, 1, 4], [(0, 0, false), (1, 1, false), (2, 2, false), (3, 3, true)], 4, 3⟩)
    (ps := [(Value.bool x1_5) = (Value.bool true),
    CG P none (fnN P 39) 4 (codeOf P 39 [false, true, true, false, true, false, false, true]) (S_gramuntilapiProdn_2 x1_1 x1_2 x1_3 x1_4 (((Args.G).length : Nat) : Int) (x1_0, false, 0)) (X_gramuntilapiProdn_2 x1_1 x1_2 x1_3 x1_4 (((Args.G).length : Nat) : Int) (y1_2_0, y1_2_1)),
    FlatB (.cells (layT (rows rw_b x1_0)) 4),
    FlatB (.cells (layT (rows rw_b y1_2_0)) 4)]) (by kernel_rfl) ⟨(vB hy1_1), (m_gramuntilapiProdn_2_ok n x1_1 x1_2 x1_3 x1_4 (((Args.G).length : Nat) : Int) (x1_0, false, 0) (y1_2_0, y1_2_1) hy1_2), (rows_flat rwf_b _ _), (rows_flat rwf_b _ _), trivial⟩
set_option maxRecDepth 100000 in
theorem q_gramuntilapiProdn_1_1 (n : Nat) (x1_0 : List (Bool)) (x1_1 : Nat) (x1_2 : Int) (x1_3 : Int) (x1_4 : Int) (x1_5 : Bool) (hy1_1 : ¬ (x1_5 = true)) : CG P none (fnN P 39) 4 (codeOf P 39 [false, false, true]) (S_gramuntilapiProdn_1 x1_1 x1_2 x1_3 x1_4 (x1_0, x1_5)) (X_gramuntilapiProdn_1 x1_1 x1_2 x1_3 x1_4 x1_0) :=
  runC_ok hm (A := aT [(3, .val (.bool false))]) (L := lT []) (wk := ⟨[], [(0, 0, false), (1, 1, false), (2, 2, false), (3, 3, true)], 4, 3⟩)
    (ps := [(Value.bool x1_5) = (Value.bool false),
    FlatB (.cells (layT (rows rw_b x1_0)) 4)]) (by kernel_rfl) ⟨(vB (Bool.eq_false_iff.2 hy1_1)), (rows_flat rwf_b _ _), trivial⟩
theorem m_gramuntilapiProdn_1_ok (n : Nat) (x1_1 : Nat) (x1_2 : Int) (x1_3 : Int) (x1_4 : Int) (st : List (Bool) × Bool) (r : List (Bool)) (h : m_gramuntilapiProdn_1 n x1_1 x1_2 x1_3 x1_4 st = some r) : CG P none (fnN P 39) 4 (codeOf P 39 [false, true]) (S_gramuntilapiProdn_1 x1_1 x1_2 x1_3 x1_4 st) (X_gramuntilapiProdn_1 x1_1 x1_2 x1_3 x1_4 r) :=
  CG.iter (b := codeOf P 39 [false, false, true]) (by kernel_rfl) (body := B_gramuntilapiProdn_1 n x1_1 x1_2 x1_3 x1_4) (S := S_gramuntilapiProdn_1 x1_1 x1_2 x1_3 x1_4) (X := X_gramuntilapiProdn_1 x1_1 x1_2 x1_3 x1_4)
    (fun s s' h => by
    obtain ⟨x1_0, x1_5⟩ := s
    unfold B_gramuntilapiProdn_1 at h
    dsimp only at h
    by_cases hy1_1 : x1_5 = true
    · rw [if_pos hy1_1] at h
      obtain ⟨⟨y1_2_0, y1_2_1⟩, hy1_2, h⟩ := Option.bind_eq_some_iff.1 h
      dsimp only at h
      obtain rfl := Sum.inl.inj (Option.some.inj h); exact q_gramuntilapiProdn_1_0 n x1_0 x1_1 x1_2 x1_3 x1_4 x1_5 hy1_1 y1_2_0 y1_2_1 hy1_2
    · rw [if_neg hy1_1] at h
      cases h)
    (fun s r h => by
    obtain ⟨x1_0, x1_5⟩ := s
    unfold B_gramuntilapiProdn_1 at h
    dsimp only at h
    by_cases hy1_1 : x1_5 = true
    · rw [if_pos hy1_1] at h
      obtain ⟨⟨y1_2_0, y1_2_1⟩, hy1_2, h⟩ := Option.bind_eq_some_iff.1 h
      dsimp only at h
      cases h
    · rw [if_neg hy1_1] at h
      obtain rfl := Sum.inr.inj (Option.some.inj h); exact q_gramuntilapiProdn_1_1 n x1_0 x1_1 x1_2 x1_3 x1_4 x1_5 hy1_1)
    (fun r => by intro hx; cases hx) h
noncomputable def A_gramuntilapiProdn (sn : Nat) (gT : Int) (gN : Int) (gK : Int) (L : List (Bool)) : List Value := [(Value.slice (some ⟨0, 0, some 1⟩) (Args.G).length Args.cG), (Value.func (.func 49) #[] #[(Value.pointer (some ⟨0, 0, none⟩)), (Value.pointer (some ⟨1, 0, none⟩)), (Value.pointer (some ⟨2, 0, none⟩))])]
noncomputable def H_gramuntilapiProdn (sn : Nat) (gT : Int) (gN : Int) (gK : Int) (L : List (Bool)) : AH := ⟨sB [(0, (some (.cells (layT [(Value.slice (some ⟨3, 0, none⟩) sn sn)]) 35))), (1, (some (.cells (layT [(Value.int .i64 gT), (Value.int .i64 gN), (Value.int .i64 gK), (Value.slice (some ⟨0, 0, some 1⟩) (Args.G).length Args.cG)]) 24))), (2, (some (.cells (layT [(Value.func (.func 36) #[] #[])]) 48))), (3, (some (.cells (layT (rows rw_b L)) 4)))], 4, 4⟩
noncomputable def V_gramuntilapiProdn (sn : Nat) (gT : Int) (gN : Int) (gK : Int) (L : List (Bool)) (r : List (Bool)) : Value := match r with
  | o0 => (Value.tuple #[])
noncomputable def R_gramuntilapiProdn (sn : Nat) (gT : Int) (gN : Int) (gK : Int) (L : List (Bool)) (r : List (Bool)) : AH := match r with
  | o0 => ⟨sB [(3, (some (.cells (layT (rows rw_b o0)) 4)))], 4, 3⟩
def m_gramuntilapiProdn (n : Nat) (sn : Nat) (gT : Int) (gN : Int) (gK : Int) (L : List (Bool)) : Option (List (Bool)) :=
  (m_gramuntilapiProdn_1 n sn gT gN gK (L, true)).bind fun c1_ =>
  some c1_
set_option maxRecDepth 100000 in
theorem p_gramuntilapiProdn_0 (n : Nat) (sn : Nat) (gT : Int) (gN : Int) (gK : Int) (L : List (Bool)) (c1_ : List (Bool)) (hc1 : m_gramuntilapiProdn_1 n sn gT gN gK (L, true) = some c1_) : Gv P (.func 39) (A_gramuntilapiProdn sn gT gN gK L) (H_gramuntilapiProdn sn gT gN gK L) (V_gramuntilapiProdn sn gT gN gK L c1_) (R_gramuntilapiProdn sn gT gN gK L c1_) :=
  runF_ok hm (A := aT []) (L := lT [(3, ⟨⟨[0, 1, 4], [(0, 0, false), (1, 1, false), (2, 2, false), (3, 3, true)], 4, 3⟩, (X_gramuntilapiProdn_1 sn gT gN gK c1_).1, (X_gramuntilapiProdn_1 sn gT gN gK c1_).2⟩)]) (wk := ⟨[], [(3, 3, true)], 4, 3⟩)
    (ps := [CG P none (fnN P 39) 4 (codeOf P 39 [false, true]) (S_gramuntilapiProdn_1 sn gT gN gK (L, true)) (X_gramuntilapiProdn_1 sn gT gN gK c1_),
    FlatB (.cells (layT (rows rw_b L)) 4),
    FlatB (.cells (layT (rows rw_b c1_)) 4)]) (by kernel_rfl) ⟨(m_gramuntilapiProdn_1_ok n sn gT gN gK (L, true) c1_ hc1), (rows_flat rwf_b _ _), (rows_flat rwf_b _ _), trivial⟩
theorem m_gramuntilapiProdn_ok (n : Nat) (sn : Nat) (gT : Int) (gN : Int) (gK : Int) (L : List (Bool)) (r : List (Bool)) (h : m_gramuntilapiProdn n sn gT gN gK L = some r) : Gv P (.func 39) (A_gramuntilapiProdn sn gT gN gK L) (H_gramuntilapiProdn sn gT gN gK L) (V_gramuntilapiProdn sn gT gN gK L r) (R_gramuntilapiProdn sn gT gN gK L r) := by
  unfold m_gramuntilapiProdn at h
  obtain ⟨c1_, hc1, h⟩ := Option.bind_eq_some_iff.1 h
  obtain rfl := Option.some.inj h; exact p_gramuntilapiProdn_0 n sn gT gN gK L c1_ hc1

noncomputable def A_gramderivingn (gT : Int) (gN : Int) (gK : Int) : List Value := [(Value.agg #[(Value.int .i64 gT), (Value.int .i64 gN), (Value.int .i64 gK), (Value.slice (some ⟨0, 0, some 1⟩) (Args.G).length Args.cG)]), (Value.func (.func 36) #[] #[])]
noncomputable def H_gramderivingn (gT : Int) (gN : Int) (gK : Int) : AH := ⟨sB [], 0, 0⟩
noncomputable def V_gramderivingn (gT : Int) (gN : Int) (gK : Int) (r : List (Bool)) : Value := match r with
  | o0 => (Value.slice (some ⟨0, 0, none⟩) (gN).toNat (gN).toNat)
noncomputable def R_gramderivingn (gT : Int) (gN : Int) (gK : Int) (r : List (Bool)) : AH := match r with
  | o0 => ⟨sB [(0, (some (.cells (layT (rows rw_b o0)) 4)))], 1, 0⟩
def m_gramderivingn (n : Nat) (gT : Int) (gN : Int) (gK : Int) : Option (List (Bool)) :=
  (m_gramCheck n gT gN gK).bind fun c1_ =>
  if c1_ = (0 : Int) then
    if 0 ≤ gN then
      if (gN).toNat * 1 ≤ 140737488355328 then
        (m_gramuntilapiProdn n ((gN).toNat) gT gN gK (List.replicate (gN).toNat (false))).bind fun c5_ =>
        some c5_
      else none
    else none
  else
    none
set_option maxRecDepth 100000 in
theorem p_gramderivingn_0 (n : Nat) (gT : Int) (gN : Int) (gK : Int) (c1_ : Int) (hc1 : m_gramCheck n gT gN gK = some c1_) (hc2 : c1_ = (0 : Int)) (hc3 : 0 ≤ gN) (hc4 : (gN).toNat * 1 ≤ 140737488355328) (c5_ : List (Bool)) (hc5 : m_gramuntilapiProdn n ((gN).toNat) gT gN gK (List.replicate (gN).toNat (false)) = some c5_) : Gv P (.func 35) (A_gramderivingn gT gN gK) (H_gramderivingn gT gN gK) (V_gramderivingn gT gN gK c5_) (R_gramderivingn gT gN gK c5_) :=
  runF_ok hm (A := aT [(7, .call ⟨0, [], (V_gramCheck gT gN gK c1_), (R_gramCheck gT gN gK c1_), []⟩), (8, .val (.bool false)), (13, .mk (gN).toNat (rows rw_b (List.replicate (gN).toNat (false)))), (20, .call ⟨4, [(0, 3, false), (1, 0, false), (2, 1, false), (3, 2, true)], (V_gramuntilapiProdn ((gN).toNat) gT gN gK (List.replicate (gN).toNat (false)) c5_), (R_gramuntilapiProdn ((gN).toNat) gT gN gK (List.replicate (gN).toNat (false)) c5_), [(2, 3, true)]⟩)]) (L := lT []) (wk := ⟨[4], [(0, 2, true)], 1, 0⟩)
    (ps := [Gv P (.func 14) (A_gramCheck gT gN gK) (H_gramCheck gT gN gK) (V_gramCheck gT gN gK c1_) (R_gramCheck gT gN gK c1_),
    (Value.bool (c1_ != (0 : Int))) = (Value.bool false),
    natOf (Value.int .i64 gN) = some (gN).toNat,
    natOf (Value.int .i64 gN) = some (gN).toNat,
    fits (gN).toNat 1 = true,
    isZ8 [(Value.bool false)] = false,
    reps [(Value.bool false)] (gN).toNat = (rows rw_b (List.replicate (gN).toNat (false))),
    Gv P (.func 39) (A_gramuntilapiProdn ((gN).toNat) gT gN gK (List.replicate (gN).toNat (false))) (H_gramuntilapiProdn ((gN).toNat) gT gN gK (List.replicate (gN).toNat (false))) (V_gramuntilapiProdn ((gN).toNat) gT gN gK (List.replicate (gN).toNat (false)) c5_) (R_gramuntilapiProdn ((gN).toNat) gT gN gK (List.replicate (gN).toNat (false)) c5_),
    FlatB (.cells (layT (rows rw_b (List.replicate (gN).toNat (false)))) 4),
    FlatB (.cells (layT (rows rw_b c5_)) 4),
    FlatB (.cells (layT (rows rw_b c5_)) 4)]) (by kernel_rfl) ⟨(m_gramCheck_ok n gT gN gK c1_ hc1), (vnF hc2), (natOf_toNat hc3), (natOf_toNat hc3), (fits_ok hc4 (by omega)), (rfl), (reps_rows rw_b (false) _ rfl _), (m_gramuntilapiProdn_ok n ((gN).toNat) gT gN gK (List.replicate (gN).toNat (false)) c5_ hc5), (rows_flat rwf_b _ _), (rows_flat rwf_b _ _), (rows_flat rwf_b _ _), trivial⟩
theorem m_gramderivingn_ok (n : Nat) (gT : Int) (gN : Int) (gK : Int) (r : List (Bool)) (h : m_gramderivingn n gT gN gK = some r) : Gv P (.func 35) (A_gramderivingn gT gN gK) (H_gramderivingn gT gN gK) (V_gramderivingn gT gN gK r) (R_gramderivingn gT gN gK r) := by
  unfold m_gramderivingn at h
  obtain ⟨c1_, hc1, h⟩ := Option.bind_eq_some_iff.1 h
  by_cases hc2 : c1_ = (0 : Int)
  · rw [if_pos hc2] at h
    by_cases hc3 : 0 ≤ gN
    · rw [if_pos hc3] at h
      by_cases hc4 : (gN).toNat * 1 ≤ 140737488355328
      · rw [if_pos hc4] at h
        obtain ⟨c5_, hc5, h⟩ := Option.bind_eq_some_iff.1 h
        obtain rfl := Option.some.inj h; exact p_gramderivingn_0 n gT gN gK c1_ hc1 hc2 hc3 hc4 c5_ hc5
      · rw [if_neg hc4] at h; cases h
    · rw [if_neg hc3] at h; cases h
  · rw [if_neg hc2] at h
    cases h

noncomputable def A_gramProductive1 (x : Int) : List Value := [(Value.int .i64 x)]
noncomputable def H_gramProductive1 (x : Int) : AH := ⟨sB [], 0, 0⟩
noncomputable def V_gramProductive1 (x : Int) (r : Unit) : Value := match r with
  | _ => (Value.bool true)
noncomputable def R_gramProductive1 (x : Int) (r : Unit) : AH := match r with
  | _ => ⟨sB [], 0, 0⟩
def m_gramProductive1 (n : Nat) (x : Int) : Option (Unit) :=
  some ()
set_option maxRecDepth 100000 in
theorem p_gramProductive1_0 (n : Nat) (x : Int) : Gv P (.func 38) (A_gramProductive1 x) (H_gramProductive1 x) (V_gramProductive1 x ()) (R_gramProductive1 x ()) :=
  runF_ok hm (A := aT []) (L := lT []) (wk := ⟨[2], [], 0, 0⟩)
    (ps := []) (by kernel_rfl) trivial
theorem m_gramProductive1_ok (n : Nat) (x : Int) (r : Unit) (h : m_gramProductive1 n x = some r) : Gv P (.func 38) (A_gramProductive1 x) (H_gramProductive1 x) (V_gramProductive1 x r) (R_gramProductive1 x r) := by
  unfold m_gramProductive1 at h
  obtain rfl := Option.some.inj h; exact p_gramProductive1_0 n x

noncomputable def S_gramderiving1p_1 (x1_0 : List (Bool)) (x1_1 : Nat) (x1_2 : Int) (x1_3 : Int) (x1_4 : Int) (x1_5 : Int) (x1_6 : NL) (x1_7 : Int) (st : Int) : XSt := match st with
  | x1_8 => (sT 48 [(1, (Value.pointer (some ⟨0, 0, none⟩))), (2, (Value.pointer (some ⟨1, 0, none⟩))), (3, (Value.pointer (some ⟨2, 0, none⟩))), (4, (Value.pointer (some ⟨4, 0, none⟩))), (14, (nlV x1_6)), (15, (Value.int .i64 x1_7)), (16, (Value.int .i64 x1_8))], [], ⟨sB [(0, (some (.cells (layT [(Value.slice (some ⟨3, 0, none⟩) x1_1 x1_1)]) 35))), (1, (some (.cells (layT [(Value.int .i64 x1_2), (Value.int .i64 x1_3), (Value.int .i64 x1_4), (Value.slice (some ⟨0, 0, some 1⟩) (Args.G).length Args.cG)]) 24))), (2, (some (.cells (layT [(Value.func (.func 38) #[] #[])]) 48))), (3, (some (.cells (layT (rows rw_b x1_0)) 4))), (4, (some (.cells (layT [(Value.int .i64 x1_5), (nlV x1_6)]) 41)))], 5, 4⟩)
noncomputable def X_gramderiving1p_1 (x1_0 : List (Bool)) (x1_1 : Nat) (x1_2 : Int) (x1_3 : Int) (x1_4 : Int) (x1_5 : Int) (x1_6 : NL) (x1_7 : Int) (r : (Unit) ⊕ (Unit)) : Ex × XSt := match r with
  | .inl _ => (.ret, (sT 48 [(5, (Value.bool false))], [], ⟨sB [(0, (some (.cells (layT [(Value.slice (some ⟨3, 0, none⟩) x1_1 x1_1)]) 35))), (1, (some (.cells (layT [(Value.int .i64 x1_2), (Value.int .i64 x1_3), (Value.int .i64 x1_4), (Value.slice (some ⟨0, 0, some 1⟩) (Args.G).length Args.cG)]) 24))), (2, (some (.cells (layT [(Value.func (.func 38) #[] #[])]) 48))), (3, (some (.cells (layT (rows rw_b x1_0)) 4)))], 4, 4⟩))
  | .inr _ => (.exit 0, (sT 48 [(1, (Value.pointer (some ⟨0, 0, none⟩))), (4, (Value.pointer (some ⟨4, 0, none⟩)))], [], ⟨sB [(0, (some (.cells (layT [(Value.slice (some ⟨3, 0, none⟩) x1_1 x1_1)]) 35))), (1, (some (.cells (layT [(Value.int .i64 x1_2), (Value.int .i64 x1_3), (Value.int .i64 x1_4), (Value.slice (some ⟨0, 0, some 1⟩) (Args.G).length Args.cG)]) 24))), (2, (some (.cells (layT [(Value.func (.func 38) #[] #[])]) 48))), (3, (some (.cells (layT (rows rw_b x1_0)) 4))), (4, (some (.cells (layT [(Value.int .i64 x1_5), (nlV x1_6)]) 41)))], 5, 4⟩))
def B_gramderiving1p_1 (n : Nat) (x1_0 : List (Bool)) (x1_1 : Nat) (x1_2 : Int) (x1_3 : Int) (x1_4 : Int) (x1_5 : Int) (x1_6 : NL) (x1_7 : Int) (st : Int) : Option ((Int) ⊕ ((Unit) ⊕ (Unit))) := match st with
  | x1_8 =>
    if x1_8 < x1_7 then
      if 0 ≤ x1_8 ∧ x1_8 < (((x1_6).l.length : Nat) : Int) then
        if (x1_8).toNat < ((x1_6).l).length then
          if (((x1_6).l).getD (x1_8).toNat 0) < x1_2 then
            (m_gramProductive1 n (((x1_6).l).getD (x1_8).toNat 0)).bind fun _ =>
            some (.inl (w64 (x1_8 + (1 : Int))))
          else
            if (((x1_6).l).getD (x1_8).toNat 0) ≥ x1_2 then
              if 0 ≤ (w64 ((((x1_6).l).getD (x1_8).toNat 0) - x1_2)) ∧ (w64 ((((x1_6).l).getD (x1_8).toNat 0) - x1_2)) < ((x1_1 : Nat) : Int) then
                if ((w64 ((((x1_6).l).getD (x1_8).toNat 0) - x1_2))).toNat < (x1_0).length then
                  if ((x1_0).getD ((w64 ((((x1_6).l).getD (x1_8).toNat 0) - x1_2))).toNat (false)) = true then
                    some (.inl (w64 (x1_8 + (1 : Int))))
                  else
                    some (.inr (.inl ()))
                else none
              else none
            else
              some (.inr (.inl ()))
        else none
      else none
    else
      some (.inr (.inr ()))
def m_gramderiving1p_1 (n : Nat) (x1_0 : List (Bool)) (x1_1 : Nat) (x1_2 : Int) (x1_3 : Int) (x1_4 : Int) (x1_5 : Int) (x1_6 : NL) (x1_7 : Int) (st : Int) : Option ((Unit) ⊕ (Unit)) := iterM (B_gramderiving1p_1 n x1_0 x1_1 x1_2 x1_3 x1_4 x1_5 x1_6 x1_7) n st
set_option maxRecDepth 100000 in
theorem q_gramderiving1p_1_0 (n : Nat) (x1_0 : List (Bool)) (x1_1 : Nat) (x1_2 : Int) (x1_3 : Int) (x1_4 : Int) (x1_5 : Int) (x1_6 : NL) (x1_7 : Int) (x1_8 : Int) (hy1_1 : x1_8 < x1_7) (hy1_2 : 0 ≤ x1_8 ∧ x1_8 < (((x1_6).l.length : Nat) : Int)) (hy1_3 : (x1_8).toNat < ((x1_6).l).length) (hy1_4 : (((x1_6).l).getD (x1_8).toNat 0) < x1_2) (hy1_5 : m_gramProductive1 n (((x1_6).l).getD (x1_8).toNat 0) = some ()) : CG P none (fnN P 49) 4 (codeOf P 49 [false, false, true, false, true, true, false, true]) (S_gramderiving1p_1 x1_0 x1_1 x1_2 x1_3 x1_4 x1_5 x1_6 x1_7 x1_8) (.normal, S_gramderiving1p_1 x1_0 x1_1 x1_2 x1_3 x1_4 x1_5 x1_6 x1_7 (w64 (x1_8 + (1 : Int)))) :=
  runC_ok hm (A := aT [(1, .val (.bool true)), (7, .pur (Value.pointer (some ⟨(Nat.add (x1_6).num 64), (x1_8).toNat, some 1⟩))), (8, .ld (Value.int .i64 (((x1_6).l).getD (x1_8).toNat 0))), (17, .val (.bool true)), (21, .call ⟨0, [], (V_gramProductive1 (((x1_6).l).getD (x1_8).toNat 0) ()), (R_gramProductive1 (((x1_6).l).getD (x1_8).toNat 0) ()), []⟩)]) (L := lT []) (wk := ⟨[1, 2, 3, 4, 14, 15, 16], [(0, 0, false), (1, 1, false), (2, 2, false), (3, 3, true), (4, 4, false)], 5, 4⟩)
    (ps := [(Value.bool (decide (x1_8 < x1_7))) = (Value.bool true),
    opIndexAddr P 32 (nlV x1_6) (Value.int .i64 x1_8) Ax.h0 = some ((Value.pointer (some ⟨(Nat.add (x1_6).num 64), (x1_8).toNat, some 1⟩)), Ax.h0),
    loadG P 3 (Value.pointer (some ⟨(Nat.add (x1_6).num 64), (x1_8).toNat, some 1⟩)) Ax.h0 = some ((Value.int .i64 (((x1_6).l).getD (x1_8).toNat 0)), Ax.h0),
    (Value.bool (decide ((((x1_6).l).getD (x1_8).toNat 0) < x1_2))) = (Value.bool true),
    Gv P (.func 38) (A_gramProductive1 (((x1_6).l).getD (x1_8).toNat 0)) (H_gramProductive1 (((x1_6).l).getD (x1_8).toNat 0)) (V_gramProductive1 (((x1_6).l).getD (x1_8).toNat 0) ()) (R_gramProductive1 (((x1_6).l).getD (x1_8).toNat 0) ()),
    FlatB (.cells (layT (rows rw_b x1_0)) 4)]) (by kernel_rfl) ⟨(vbT hy1_1), (ixW1 (e := 3) (by kernel_rfl) (by kernel_rfl) hy1_2), (ldN x1_6 (by kernel_rfl) hy1_3), (vbT hy1_4), (m_gramProductive1_ok n (((x1_6).l).getD (x1_8).toNat 0) () hy1_5), (rows_flat rwf_b _ _), trivial⟩
set_option maxRecDepth 100000 in
theorem q_gramderiving1p_1_1 (n : Nat) (x1_0 : List (Bool)) (x1_1 : Nat) (x1_2 : Int) (x1_3 : Int) (x1_4 : Int) (x1_5 : Int) (x1_6 : NL) (x1_7 : Int) (x1_8 : Int) (hy1_1 : x1_8 < x1_7) (hy1_2 : 0 ≤ x1_8 ∧ x1_8 < (((x1_6).l.length : Nat) : Int)) (hy1_3 : (x1_8).toNat < ((x1_6).l).length) (hy1_4 : ¬ ((((x1_6).l).getD (x1_8).toNat 0) < x1_2)) (hy1_5 : (((x1_6).l).getD (x1_8).toNat 0) ≥ x1_2) (hy1_6 : 0 ≤ (w64 ((((x1_6).l).getD (x1_8).toNat 0) - x1_2)) ∧ (w64 ((((x1_6).l).getD (x1_8).toNat 0) - x1_2)) < ((x1_1 : Nat) : Int)) (hy1_7 : ((w64 ((((x1_6).l).getD (x1_8).toNat 0) - x1_2))).toNat < (x1_0).length) (hy1_8 : ((x1_0).getD ((w64 ((((x1_6).l).getD (x1_8).toNat 0) - x1_2))).toNat (false)) = true) : CG P none (fnN P 49) 4 (codeOf P 49 [false, false, true, false, true, true, false, true]) (S_gramderiving1p_1 x1_0 x1_1 x1_2 x1_3 x1_4 x1_5 x1_6 x1_7 x1_8) (.normal, S_gramderiving1p_1 x1_0 x1_1 x1_2 x1_3 x1_4 x1_5 x1_6 x1_7 (w64 (x1_8 + (1 : Int)))) :=
  runC_ok hm (A := aT [(1, .val (.bool true)), (7, .pur (Value.pointer (some ⟨(Nat.add (x1_6).num 64), (x1_8).toNat, some 1⟩))), (8, .ld (Value.int .i64 (((x1_6).l).getD (x1_8).toNat 0))), (17, .val (.bool false)), (28, .val (.bool true)), (35, .pur (Value.pointer (some ⟨3, (((w64 ((((x1_6).l).getD (x1_8).toNat 0) - x1_2))).toNat * 1), none⟩))), (36, .ld (Value.bool ((x1_0).getD ((w64 ((((x1_6).l).getD (x1_8).toNat 0) - x1_2))).toNat (false)))), (39, .val (.bool true))]) (L := lT []) (wk := ⟨[1, 2, 3, 4, 14, 15, 16], [(0, 0, false), (1, 1, false), (2, 2, false), (3, 3, true), (4, 4, false)], 5, 4⟩)
    (ps := [(Value.bool (decide (x1_8 < x1_7))) = (Value.bool true),
    opIndexAddr P 32 (nlV x1_6) (Value.int .i64 x1_8) Ax.h0 = some ((Value.pointer (some ⟨(Nat.add (x1_6).num 64), (x1_8).toNat, some 1⟩)), Ax.h0),
    loadG P 3 (Value.pointer (some ⟨(Nat.add (x1_6).num 64), (x1_8).toNat, some 1⟩)) Ax.h0 = some ((Value.int .i64 (((x1_6).l).getD (x1_8).toNat 0)), Ax.h0),
    (Value.bool (decide ((((x1_6).l).getD (x1_8).toNat 0) < x1_2))) = (Value.bool false),
    (Value.bool (decide ((((x1_6).l).getD (x1_8).toNat 0) ≥ x1_2))) = (Value.bool true),
    opIndexAddr P 35 (Value.slice (some ⟨3, 0, none⟩) x1_1 x1_1) (Value.int .i64 (w64 ((((x1_6).l).getD (x1_8).toNat 0) - x1_2))) Ax.h0 = some ((Value.pointer (some ⟨3, (((w64 ((((x1_6).l).getD (x1_8).toNat 0) - x1_2))).toNat * 1), none⟩)), Ax.h0),
    (layT (rows rw_b x1_0)).get (((w64 ((((x1_6).l).getD (x1_8).toNat 0) - x1_2))).toNat * 1) = some (Value.bool ((x1_0).getD ((w64 ((((x1_6).l).getD (x1_8).toNat 0) - x1_2))).toNat (false))),
    (Value.bool ((x1_0).getD ((w64 ((((x1_6).l).getD (x1_8).toNat 0) - x1_2))).toNat (false))) = (Value.bool true),
    FlatB (.cells (layT (rows rw_b x1_0)) 4)]) (by kernel_rfl) ⟨(vbT hy1_1), (ixW1 (e := 3) (by kernel_rfl) (by kernel_rfl) hy1_2), (ldN x1_6 (by kernel_rfl) hy1_3), (vbF hy1_4), (vbT hy1_5), (ixS (e := 4) (by kernel_rfl) (by kernel_rfl) (hy1_6).1 (hy1_6).2), (rows_ld rwf_b (false) (i := ((w64 ((((x1_6).l).getD (x1_8).toNat 0) - x1_2))).toNat) (j := 0) (((w64 ((((x1_6).l).getD (x1_8).toNat 0) - x1_2))).toNat * 1) rfl (hy1_7) (by decide) rfl), (vB hy1_8), (rows_flat rwf_b _ _), trivial⟩
set_option maxRecDepth 100000 in
theorem q_gramderiving1p_1_2 (n : Nat) (x1_0 : List (Bool)) (x1_1 : Nat) (x1_2 : Int) (x1_3 : Int) (x1_4 : Int) (x1_5 : Int) (x1_6 : NL) (x1_7 : Int) (x1_8 : Int) (hy1_1 : x1_8 < x1_7) (hy1_2 : 0 ≤ x1_8 ∧ x1_8 < (((x1_6).l.length : Nat) : Int)) (hy1_3 : (x1_8).toNat < ((x1_6).l).length) (hy1_4 : ¬ ((((x1_6).l).getD (x1_8).toNat 0) < x1_2)) (hy1_5 : (((x1_6).l).getD (x1_8).toNat 0) ≥ x1_2) (hy1_6 : 0 ≤ (w64 ((((x1_6).l).getD (x1_8).toNat 0) - x1_2)) ∧ (w64 ((((x1_6).l).getD (x1_8).toNat 0) - x1_2)) < ((x1_1 : Nat) : Int)) (hy1_7 : ((w64 ((((x1_6).l).getD (x1_8).toNat 0) - x1_2))).toNat < (x1_0).length) (hy1_8 : ¬ (((x1_0).getD ((w64 ((((x1_6).l).getD (x1_8).toNat 0) - x1_2))).toNat (false)) = true)) : CG P none (fnN P 49) 4 (codeOf P 49 [false, false, true, false, true, true, false, true]) (S_gramderiving1p_1 x1_0 x1_1 x1_2 x1_3 x1_4 x1_5 x1_6 x1_7 x1_8) (X_gramderiving1p_1 x1_0 x1_1 x1_2 x1_3 x1_4 x1_5 x1_6 x1_7 (.inl ())) :=
  runC_ok hm (A := aT [(1, .val (.bool true)), (7, .pur (Value.pointer (some ⟨(Nat.add (x1_6).num 64), (x1_8).toNat, some 1⟩))), (8, .ld (Value.int .i64 (((x1_6).l).getD (x1_8).toNat 0))), (17, .val (.bool false)), (28, .val (.bool true)), (35, .pur (Value.pointer (some ⟨3, (((w64 ((((x1_6).l).getD (x1_8).toNat 0) - x1_2))).toNat * 1), none⟩))), (36, .ld (Value.bool ((x1_0).getD ((w64 ((((x1_6).l).getD (x1_8).toNat 0) - x1_2))).toNat (false)))), (39, .val (.bool false))]) (L := lT []) (wk := ⟨[5], [(0, 0, false), (1, 1, false), (2, 2, false), (3, 3, true)], 4, 4⟩)
    (ps := [(Value.bool (decide (x1_8 < x1_7))) = (Value.bool true),
    opIndexAddr P 32 (nlV x1_6) (Value.int .i64 x1_8) Ax.h0 = some ((Value.pointer (some ⟨(Nat.add (x1_6).num 64), (x1_8).toNat, some 1⟩)), Ax.h0),
    loadG P 3 (Value.pointer (some ⟨(Nat.add (x1_6).num 64), (x1_8).toNat, some 1⟩)) Ax.h0 = some ((Value.int .i64 (((x1_6).l).getD (x1_8).toNat 0)), Ax.h0),
    (Value.bool (decide ((((x1_6).l).getD (x1_8).toNat 0) < x1_2))) = (Value.bool false),
    (Value.bool (decide ((((x1_6).l).getD (x1_8).toNat 0) ≥ x1_2))) = (Value.bool true),
    opIndexAddr P 35 (Value.slice (some ⟨3, 0, none⟩) x1_1 x1_1) (Value.int .i64 (w64 ((((x1_6).l).getD (x1_8).toNat 0) - x1_2))) Ax.h0 = some ((Value.pointer (some ⟨3, (((w64 ((((x1_6).l).getD (x1_8).toNat 0) - x1_2))).toNat * 1), none⟩)), Ax.h0),
    (layT (rows rw_b x1_0)).get (((w64 ((((x1_6).l).getD (x1_8).toNat 0) - x1_2))).toNat * 1) = some (Value.bool ((x1_0).getD ((w64 ((((x1_6).l).getD (x1_8).toNat 0) - x1_2))).toNat (false))),
    (Value.bool ((x1_0).getD ((w64 ((((x1_6).l).getD (x1_8).toNat 0) - x1_2))).toNat (false))) = (Value.bool false),
    FlatB (.cells (layT (rows rw_b x1_0)) 4)]) (by kernel_rfl) ⟨(vbT hy1_1), (ixW1 (e := 3) (by kernel_rfl) (by kernel_rfl) hy1_2), (ldN x1_6 (by kernel_rfl) hy1_3), (vbF hy1_4), (vbT hy1_5), (ixS (e := 4) (by kernel_rfl) (by kernel_rfl) (hy1_6).1 (hy1_6).2), (rows_ld rwf_b (false) (i := ((w64 ((((x1_6).l).getD (x1_8).toNat 0) - x1_2))).toNat) (j := 0) (((w64 ((((x1_6).l).getD (x1_8).toNat 0) - x1_2))).toNat * 1) rfl (hy1_7) (by decide) rfl), (vB (Bool.eq_false_iff.2 hy1_8)), (rows_flat rwf_b _ _), trivial⟩
set_option maxRecDepth 100000 in
theorem q_gramderiving1p_1_3 (n : Nat) (x1_0 : List (Bool)) (x1_1 : Nat) (x1_2 : Int) (x1_3 : Int) (x1_4 : Int) (x1_5 : Int) (x1_6 : NL) (x1_7 : Int) (x1_8 : Int) (hy1_1 : x1_8 < x1_7) (hy1_2 : 0 ≤ x1_8 ∧ x1_8 < (((x1_6).l.length : Nat) : Int)) (hy1_3 : (x1_8).toNat < ((x1_6).l).length) (hy1_4 : ¬ ((((x1_6).l).getD (x1_8).toNat 0) < x1_2)) (hy1_5 : ¬ ((((x1_6).l).getD (x1_8).toNat 0) ≥ x1_2)) : CG P none (fnN P 49) 4 (codeOf P 49 [false, false, true, false, true, true, false, true]) (S_gramderiving1p_1 x1_0 x1_1 x1_2 x1_3 x1_4 x1_5 x1_6 x1_7 x1_8) (X_gramderiving1p_1 x1_0 x1_1 x1_2 x1_3 x1_4 x1_5 x1_6 x1_7 (.inl ())) :=
  runC_ok hm (A := aT [(1, .val (.bool true)), (7, .pur (Value.pointer (some ⟨(Nat.add (x1_6).num 64), (x1_8).toNat, some 1⟩))), (8, .ld (Value.int .i64 (((x1_6).l).getD (x1_8).toNat 0))), (17, .val (.bool false)), (28, .val (.bool false))]) (L := lT []) (wk := ⟨[5], [(0, 0, false), (1, 1, false), (2, 2, false), (3, 3, true)], 4, 4⟩)
    (ps := [(Value.bool (decide (x1_8 < x1_7))) = (Value.bool true),
    opIndexAddr P 32 (nlV x1_6) (Value.int .i64 x1_8) Ax.h0 = some ((Value.pointer (some ⟨(Nat.add (x1_6).num 64), (x1_8).toNat, some 1⟩)), Ax.h0),
    loadG P 3 (Value.pointer (some ⟨(Nat.add (x1_6).num 64), (x1_8).toNat, some 1⟩)) Ax.h0 = some ((Value.int .i64 (((x1_6).l).getD (x1_8).toNat 0)), Ax.h0),
    (Value.bool (decide ((((x1_6).l).getD (x1_8).toNat 0) < x1_2))) = (Value.bool false),
    (Value.bool (decide ((((x1_6).l).getD (x1_8).toNat 0) ≥ x1_2))) = (Value.bool false),
    FlatB (.cells (layT (rows rw_b x1_0)) 4)]) (by kernel_rfl) ⟨(vbT hy1_1), (ixW1 (e := 3) (by kernel_rfl) (by kernel_rfl) hy1_2), (ldN x1_6 (by kernel_rfl) hy1_3), (vbF hy1_4), (vbF hy1_5), (rows_flat rwf_b _ _), trivial⟩
set_option maxRecDepth 100000 in
theorem q_gramderiving1p_1_4 (n : Nat) (x1_0 : List (Bool)) (x1_1 : Nat) (x1_2 : Int) (x1_3 : Int) (x1_4 : Int) (x1_5 : Int) (x1_6 : NL) (x1_7 : Int) (x1_8 : Int) (hy1_1 : ¬ (x1_8 < x1_7)) : CG P none (fnN P 49) 4 (codeOf P 49 [false, false, true, false, true, true, false, true]) (S_gramderiving1p_1 x1_0 x1_1 x1_2 x1_3 x1_4 x1_5 x1_6 x1_7 x1_8) (X_gramderiving1p_1 x1_0 x1_1 x1_2 x1_3 x1_4 x1_5 x1_6 x1_7 (.inr ())) :=
  runC_ok hm (A := aT [(1, .val (.bool false))]) (L := lT []) (wk := ⟨[1, 4], [(0, 0, false), (1, 1, false), (2, 2, false), (3, 3, true), (4, 4, false)], 5, 4⟩)
    (ps := [(Value.bool (decide (x1_8 < x1_7))) = (Value.bool false),
    FlatB (.cells (layT (rows rw_b x1_0)) 4)]) (by kernel_rfl) ⟨(vbF hy1_1), (rows_flat rwf_b _ _), trivial⟩
theorem m_gramderiving1p_1_ok (n : Nat) (x1_0 : List (Bool)) (x1_1 : Nat) (x1_2 : Int) (x1_3 : Int) (x1_4 : Int) (x1_5 : Int) (x1_6 : NL) (x1_7 : Int) (st : Int) (r : (Unit) ⊕ (Unit)) (h : m_gramderiving1p_1 n x1_0 x1_1 x1_2 x1_3 x1_4 x1_5 x1_6 x1_7 st = some r) : CG P none (fnN P 49) 4 (codeOf P 49 [false, true, false, true, true, false, true]) (S_gramderiving1p_1 x1_0 x1_1 x1_2 x1_3 x1_4 x1_5 x1_6 x1_7 st) (X_gramderiving1p_1 x1_0 x1_1 x1_2 x1_3 x1_4 x1_5 x1_6 x1_7 r) :=
  CG.iter (b := codeOf P 49 [false, false, true, false, true, true, false, true]) (by kernel_rfl) (body := B_gramderiving1p_1 n x1_0 x1_1 x1_2 x1_3 x1_4 x1_5 x1_6 x1_7) (S := S_gramderiving1p_1 x1_0 x1_1 x1_2 x1_3 x1_4 x1_5 x1_6 x1_7) (X := X_gramderiving1p_1 x1_0 x1_1 x1_2 x1_3 x1_4 x1_5 x1_6 x1_7)
    (fun x1_8 s' h => by
    unfold B_gramderiving1p_1 at h
    dsimp only at h
    by_cases hy1_1 : x1_8 < x1_7
    · rw [if_pos hy1_1] at h
      by_cases hy1_2 : 0 ≤ x1_8 ∧ x1_8 < (((x1_6).l.length : Nat) : Int)
      · rw [if_pos hy1_2] at h
        by_cases hy1_3 : (x1_8).toNat < ((x1_6).l).length
        · rw [if_pos hy1_3] at h
          by_cases hy1_4 : (((x1_6).l).getD (x1_8).toNat 0) < x1_2
          · rw [if_pos hy1_4] at h
            obtain ⟨_, hy1_5, h⟩ := Option.bind_eq_some_iff.1 h
            obtain rfl := Sum.inl.inj (Option.some.inj h); exact q_gramderiving1p_1_0 n x1_0 x1_1 x1_2 x1_3 x1_4 x1_5 x1_6 x1_7 x1_8 hy1_1 hy1_2 hy1_3 hy1_4 hy1_5
          · rw [if_neg hy1_4] at h
            by_cases hy1_5 : (((x1_6).l).getD (x1_8).toNat 0) ≥ x1_2
            · rw [if_pos hy1_5] at h
              by_cases hy1_6 : 0 ≤ (w64 ((((x1_6).l).getD (x1_8).toNat 0) - x1_2)) ∧ (w64 ((((x1_6).l).getD (x1_8).toNat 0) - x1_2)) < ((x1_1 : Nat) : Int)
              · rw [if_pos hy1_6] at h
                by_cases hy1_7 : ((w64 ((((x1_6).l).getD (x1_8).toNat 0) - x1_2))).toNat < (x1_0).length
                · rw [if_pos hy1_7] at h
                  by_cases hy1_8 : ((x1_0).getD ((w64 ((((x1_6).l).getD (x1_8).toNat 0) - x1_2))).toNat (false)) = true
                  · rw [if_pos hy1_8] at h
                    obtain rfl := Sum.inl.inj (Option.some.inj h); exact q_gramderiving1p_1_1 n x1_0 x1_1 x1_2 x1_3 x1_4 x1_5 x1_6 x1_7 x1_8 hy1_1 hy1_2 hy1_3 hy1_4 hy1_5 hy1_6 hy1_7 hy1_8
                  · rw [if_neg hy1_8] at h
                    cases h
                · rw [if_neg hy1_7] at h; cases h
              · rw [if_neg hy1_6] at h; cases h
            · rw [if_neg hy1_5] at h
              cases h
        · rw [if_neg hy1_3] at h; cases h
      · rw [if_neg hy1_2] at h; cases h
    · rw [if_neg hy1_1] at h
      cases h)
    (fun x1_8 r h => by
    unfold B_gramderiving1p_1 at h
    dsimp only at h
    by_cases hy1_1 : x1_8 < x1_7
    · rw [if_pos hy1_1] at h
      by_cases hy1_2 : 0 ≤ x1_8 ∧ x1_8 < (((x1_6).l.length : Nat) : Int)
      · rw [if_pos hy1_2] at h
        by_cases hy1_3 : (x1_8).toNat < ((x1_6).l).length
        · rw [if_pos hy1_3] at h
          by_cases hy1_4 : (((x1_6).l).getD (x1_8).toNat 0) < x1_2
          · rw [if_pos hy1_4] at h
            obtain ⟨_, hy1_5, h⟩ := Option.bind_eq_some_iff.1 h
            cases h
          · rw [if_neg hy1_4] at h
            by_cases hy1_5 : (((x1_6).l).getD (x1_8).toNat 0) ≥ x1_2
            · rw [if_pos hy1_5] at h
              by_cases hy1_6 : 0 ≤ (w64 ((((x1_6).l).getD (x1_8).toNat 0) - x1_2)) ∧ (w64 ((((x1_6).l).getD (x1_8).toNat 0) - x1_2)) < ((x1_1 : Nat) : Int)
              · rw [if_pos hy1_6] at h
                by_cases hy1_7 : ((w64 ((((x1_6).l).getD (x1_8).toNat 0) - x1_2))).toNat < (x1_0).length
                · rw [if_pos hy1_7] at h
                  by_cases hy1_8 : ((x1_0).getD ((w64 ((((x1_6).l).getD (x1_8).toNat 0) - x1_2))).toNat (false)) = true
                  · rw [if_pos hy1_8] at h
                    cases h
                  · rw [if_neg hy1_8] at h
                    obtain rfl := Sum.inr.inj (Option.some.inj h); exact q_gramderiving1p_1_2 n x1_0 x1_1 x1_2 x1_3 x1_4 x1_5 x1_6 x1_7 x1_8 hy1_1 hy1_2 hy1_3 hy1_4 hy1_5 hy1_6 hy1_7 hy1_8
                · rw [if_neg hy1_7] at h; cases h
              · rw [if_neg hy1_6] at h; cases h
            · rw [if_neg hy1_5] at h
              obtain rfl := Sum.inr.inj (Option.some.inj h); exact q_gramderiving1p_1_3 n x1_0 x1_1 x1_2 x1_3 x1_4 x1_5 x1_6 x1_7 x1_8 hy1_1 hy1_2 hy1_3 hy1_4 hy1_5
        · rw [if_neg hy1_3] at h; cases h
      · rw [if_neg hy1_2] at h; cases h
    · rw [if_neg hy1_1] at h
      obtain rfl := Sum.inr.inj (Option.some.inj h); exact q_gramderiving1p_1_4 n x1_0 x1_1 x1_2 x1_3 x1_4 x1_5 x1_6 x1_7 x1_8 hy1_1)
    (fun r => by intro hx; rcases r with _ | _ <;> cases hx) h
noncomputable def A_gramderiving1p (pl : Int) (pr : NL) (sn : Nat) (gT : Int) (gN : Int) (gK : Int) (L : List (Bool)) : List Value := [(Value.agg #[(Value.int .i64 pl), (nlV pr)]), (Value.pointer (some ⟨0, 0, none⟩)), (Value.pointer (some ⟨1, 0, none⟩)), (Value.pointer (some ⟨2, 0, none⟩))]
noncomputable def H_gramderiving1p (pl : Int) (pr : NL) (sn : Nat) (gT : Int) (gN : Int) (gK : Int) (L : List (Bool)) : AH := ⟨sB [(0, (some (.cells (layT [(Value.slice (some ⟨3, 0, none⟩) sn sn)]) 35))), (1, (some (.cells (layT [(Value.int .i64 gT), (Value.int .i64 gN), (Value.int .i64 gK), (Value.slice (some ⟨0, 0, some 1⟩) (Args.G).length Args.cG)]) 24))), (2, (some (.cells (layT [(Value.func (.func 38) #[] #[])]) 48))), (3, (some (.cells (layT (rows rw_b L)) 4)))], 4, 4⟩
noncomputable def V_gramderiving1p (pl : Int) (pr : NL) (sn : Nat) (gT : Int) (gN : Int) (gK : Int) (L : List (Bool)) (r : List (Bool) × Bool) : Value := match r with
  | (o0, o1) => (Value.bool o1)
noncomputable def R_gramderiving1p (pl : Int) (pr : NL) (sn : Nat) (gT : Int) (gN : Int) (gK : Int) (L : List (Bool)) (r : List (Bool) × Bool) : AH := match r with
  | (o0, o1) => ⟨sB [(3, (some (.cells (layT (rows rw_b o0)) 4)))], 4, 3⟩
def m_gramderiving1p (n : Nat) (pl : Int) (pr : NL) (sn : Nat) (gT : Int) (gN : Int) (gK : Int) (L : List (Bool)) : Option (List (Bool) × Bool) :=
  if 0 ≤ pl ∧ pl < ((sn : Nat) : Int) then
    if (pl).toNat < (L).length then
      if ((L).getD (pl).toNat (false)) = true then
        some (L, false)
      else
        match m_gramderiving1p_1 n L sn gT gN gK pl pr (((pr).l.length : Nat) : Int) 0 with
        | none => none
        | some (.inl _) =>
          some (L, false)
        | some (.inr _) =>
          some (((L).set (pl).toNat true), true)
    else none
  else none
set_option maxRecDepth 100000 in
theorem p_gramderiving1p_0 (n : Nat) (pl : Int) (pr : NL) (sn : Nat) (gT : Int) (gN : Int) (gK : Int) (L : List (Bool)) (hc1 : 0 ≤ pl ∧ pl < ((sn : Nat) : Int)) (hc2 : (pl).toNat < (L).length) (hc3 : ((L).getD (pl).toNat (false)) = true) : Gv P (.func 49) (A_gramderiving1p pl pr sn gT gN gK L) (H_gramderiving1p pl pr sn gT gN gK L) (V_gramderiving1p pl pr sn gT gN gK L (L, false)) (R_gramderiving1p pl pr sn gT gN gK L (L, false)) :=
  runF_ok hm (A := aT [(8, .pur (Value.pointer (some ⟨3, ((pl).toNat * 1), none⟩))), (9, .ld (Value.bool ((L).getD (pl).toNat (false)))), (10, .val (.bool true))]) (L := lT []) (wk := ⟨[5], [(3, 3, true)], 4, 3⟩)
    (ps := [opIndexAddr P 35 (Value.slice (some ⟨3, 0, none⟩) sn sn) (Value.int .i64 pl) Ax.h0 = some ((Value.pointer (some ⟨3, ((pl).toNat * 1), none⟩)), Ax.h0),
    (layT (rows rw_b L)).get ((pl).toNat * 1) = some (Value.bool ((L).getD (pl).toNat (false))),
    (Value.bool ((L).getD (pl).toNat (false))) = (Value.bool true),
    FlatB (.cells (layT (rows rw_b L)) 4)]) (by kernel_rfl) ⟨(ixS (e := 4) (by kernel_rfl) (by kernel_rfl) (hc1).1 (hc1).2), (rows_ld rwf_b (false) (i := (pl).toNat) (j := 0) ((pl).toNat * 1) rfl (hc2) (by decide) rfl), (vB hc3), (rows_flat rwf_b _ _), trivial⟩
set_option maxRecDepth 100000 in
theorem p_gramderiving1p_1 (n : Nat) (pl : Int) (pr : NL) (sn : Nat) (gT : Int) (gN : Int) (gK : Int) (L : List (Bool)) (hc1 : 0 ≤ pl ∧ pl < ((sn : Nat) : Int)) (hc2 : (pl).toNat < (L).length) (hc3 : ¬ (((L).getD (pl).toNat (false)) = true)) (hc4 : m_gramderiving1p_1 n L sn gT gN gK pl pr (((pr).l.length : Nat) : Int) 0 = some (.inl ())) : Gv P (.func 49) (A_gramderiving1p pl pr sn gT gN gK L) (H_gramderiving1p pl pr sn gT gN gK L) (V_gramderiving1p pl pr sn gT gN gK L (L, false)) (R_gramderiving1p pl pr sn gT gN gK L (L, false)) :=
  runF_ok hm (A := aT [(8, .pur (Value.pointer (some ⟨3, ((pl).toNat * 1), none⟩))), (9, .ld (Value.bool ((L).getD (pl).toNat (false)))), (10, .val (.bool false))]) (L := lT [(19, ⟨⟨[1, 2, 3, 4, 14, 15, 16], [(0, 0, false), (1, 1, false), (2, 2, false), (3, 3, true), (4, 4, false)], 5, 4⟩, (X_gramderiving1p_1 L sn gT gN gK pl pr (((pr).l.length : Nat) : Int) (.inl ())).1, (X_gramderiving1p_1 L sn gT gN gK pl pr (((pr).l.length : Nat) : Int) (.inl ())).2⟩)]) (wk := ⟨[5], [(3, 3, true)], 4, 3⟩)
    (ps := [opIndexAddr P 35 (Value.slice (some ⟨3, 0, none⟩) sn sn) (Value.int .i64 pl) Ax.h0 = some ((Value.pointer (some ⟨3, ((pl).toNat * 1), none⟩)), Ax.h0),
    (layT (rows rw_b L)).get ((pl).toNat * 1) = some (Value.bool ((L).getD (pl).toNat (false))),
    (Value.bool ((L).getD (pl).toNat (false))) = (Value.bool false),
    CG P none (fnN P 49) 4 (codeOf P 49 [false, true, false, true, true, false, true]) (S_gramderiving1p_1 L sn gT gN gK pl pr (((pr).l.length : Nat) : Int) 0) (X_gramderiving1p_1 L sn gT gN gK pl pr (((pr).l.length : Nat) : Int) (.inl ())),
    FlatB (.cells (layT (rows rw_b L)) 4),
    FlatB (.cells (layT (rows rw_b L)) 4)]) (by kernel_rfl) ⟨(ixS (e := 4) (by kernel_rfl) (by kernel_rfl) (hc1).1 (hc1).2), (rows_ld rwf_b (false) (i := (pl).toNat) (j := 0) ((pl).toNat * 1) rfl (hc2) (by decide) rfl), (vB (Bool.eq_false_iff.2 hc3)), (m_gramderiving1p_1_ok n L sn gT gN gK pl pr (((pr).l.length : Nat) : Int) 0 (.inl ()) hc4), (rows_flat rwf_b _ _), (rows_flat rwf_b _ _), trivial⟩
set_option maxRecDepth 100000 in
theorem p_gramderiving1p_2 (n : Nat) (pl : Int) (pr : NL) (sn : Nat) (gT : Int) (gN : Int) (gK : Int) (L : List (Bool)) (hc1 : 0 ≤ pl ∧ pl < ((sn : Nat) : Int)) (hc2 : (pl).toNat < (L).length) (hc3 : ¬ (((L).getD (pl).toNat (false)) = true)) (hc4 : m_gramderiving1p_1 n L sn gT gN gK pl pr (((pr).l.length : Nat) : Int) 0 = some (.inr ())) : Gv P (.func 49) (A_gramderiving1p pl pr sn gT gN gK L) (H_gramderiving1p pl pr sn gT gN gK L) (V_gramderiving1p pl pr sn gT gN gK L (((L).set (pl).toNat true), true)) (R_gramderiving1p pl pr sn gT gN gK L (((L).set (pl).toNat true), true)) :=
  runF_ok hm (A := aT [(8, .pur (Value.pointer (some ⟨3, ((pl).toNat * 1), none⟩))), (9, .ld (Value.bool ((L).getD (pl).toNat (false)))), (10, .val (.bool false)), (24, .pur (Value.pointer (some ⟨3, ((pl).toNat * 1), none⟩))), (25, .sto (layT (rows rw_b ((L).set (pl).toNat true))))]) (L := lT [(19, ⟨⟨[1, 2, 3, 4, 14, 15, 16], [(0, 0, false), (1, 1, false), (2, 2, false), (3, 3, true), (4, 4, false)], 5, 4⟩, (X_gramderiving1p_1 L sn gT gN gK pl pr (((pr).l.length : Nat) : Int) (.inr ())).1, (X_gramderiving1p_1 L sn gT gN gK pl pr (((pr).l.length : Nat) : Int) (.inr ())).2⟩)]) (wk := ⟨[5], [(3, 3, true)], 4, 3⟩)
    (ps := [opIndexAddr P 35 (Value.slice (some ⟨3, 0, none⟩) sn sn) (Value.int .i64 pl) Ax.h0 = some ((Value.pointer (some ⟨3, ((pl).toNat * 1), none⟩)), Ax.h0),
    (layT (rows rw_b L)).get ((pl).toNat * 1) = some (Value.bool ((L).getD (pl).toNat (false))),
    (Value.bool ((L).getD (pl).toNat (false))) = (Value.bool false),
    CG P none (fnN P 49) 4 (codeOf P 49 [false, true, false, true, true, false, true]) (S_gramderiving1p_1 L sn gT gN gK pl pr (((pr).l.length : Nat) : Int) 0) (X_gramderiving1p_1 L sn gT gN gK pl pr (((pr).l.length : Nat) : Int) (.inr ())),
    FlatB (.cells (layT (rows rw_b L)) 4),
    opIndexAddr P 35 (Value.slice (some ⟨3, 0, none⟩) sn sn) (Value.int .i64 pl) Ax.h0 = some ((Value.pointer (some ⟨3, ((pl).toNat * 1), none⟩)), Ax.h0),
    ∃ old, rdT (layT (rows rw_b L)) 1 ((pl).toNat * 1) = some old,
    layL [(Value.bool true)] ((pl).toNat * 1) (layT (rows rw_b L)) = layT (rows rw_b ((L).set (pl).toNat true)),
    FlatB (.cells (layT (rows rw_b ((L).set (pl).toNat true))) 4)]) (by kernel_rfl) ⟨(ixS (e := 4) (by kernel_rfl) (by kernel_rfl) (hc1).1 (hc1).2), (rows_ld rwf_b (false) (i := (pl).toNat) (j := 0) ((pl).toNat * 1) rfl (hc2) (by decide) rfl), (vB (Bool.eq_false_iff.2 hc3)), (m_gramderiving1p_1_ok n L sn gT gN gK pl pr (((pr).l.length : Nat) : Int) 0 (.inr ()) hc4), (rows_flat rwf_b _ _), (ixS (e := 4) (by kernel_rfl) (by kernel_rfl) (hc1).1 (hc1).2), (Exists.elim (rows_st rwf_b (false) (i := (pl).toNat) (j := 0) (l := [(Value.bool true)]) true ((pl).toNat * 1) rfl (hc2) (Nat.le_of_ble_eq_true rfl) rfl) fun o h => ⟨o, h.1⟩), (Exists.elim (rows_st rwf_b (false) (i := (pl).toNat) (j := 0) (l := [(Value.bool true)]) true ((pl).toNat * 1) rfl (hc2) (Nat.le_of_ble_eq_true rfl) rfl) fun o h => h.2), (rows_flat rwf_b _ _), trivial⟩
theorem m_gramderiving1p_ok (n : Nat) (pl : Int) (pr : NL) (sn : Nat) (gT : Int) (gN : Int) (gK : Int) (L : List (Bool)) (r : List (Bool) × Bool) (h : m_gramderiving1p n pl pr sn gT gN gK L = some r) : Gv P (.func 49) (A_gramderiving1p pl pr sn gT gN gK L) (H_gramderiving1p pl pr sn gT gN gK L) (V_gramderiving1p pl pr sn gT gN gK L r) (R_gramderiving1p pl pr sn gT gN gK L r) := by
  unfold m_gramderiving1p at h
  by_cases hc1 : 0 ≤ pl ∧ pl < ((sn : Nat) : Int)
  · rw [if_pos hc1] at h
    by_cases hc2 : (pl).toNat < (L).length
    · rw [if_pos hc2] at h
      by_cases hc3 : ((L).getD (pl).toNat (false)) = true
      · rw [if_pos hc3] at h
        obtain rfl := Option.some.inj h; exact p_gramderiving1p_0 n pl pr sn gT gN gK L hc1 hc2 hc3
      · rw [if_neg hc3] at h
        rcases hc4 : m_gramderiving1p_1 n L sn gT gN gK pl pr (((pr).l.length : Nat) : Int) 0 with _ | (⟨⟩ | ⟨⟩)
        · rw [hc4] at h; cases h
        · rw [hc4] at h
          dsimp only at h
          obtain rfl := Option.some.inj h; exact p_gramderiving1p_1 n pl pr sn gT gN gK L hc1 hc2 hc3 hc4
        · rw [hc4] at h
          dsimp only at h
          obtain rfl := Option.some.inj h; exact p_gramderiving1p_2 n pl pr sn gT gN gK L hc1 hc2 hc3 hc4
    · rw [if_neg hc2] at h; cases h
  · rw [if_neg hc1] at h; cases h

noncomputable def S_gramuntilapiProdp_2 (x2_1 : Nat) (x2_2 : Int) (x2_3 : Int) (x2_4 : Int) (x2_6 : Int) (st : List (Bool) × Bool × Int) : XSt := match st with
  | (x2_0, x2_5, x2_7) => (sT 18 [(0, (Value.slice (some ⟨0, 0, some 1⟩) (Args.G).length Args.cG)), (1, (Value.func (.func 49) #[] #[(Value.pointer (some ⟨0, 0, none⟩)), (Value.pointer (some ⟨1, 0, none⟩)), (Value.pointer (some ⟨2, 0, none⟩))])), (4, (Value.bool x2_5)), (8, (Value.slice (some ⟨0, 0, some 1⟩) (Args.G).length Args.cG)), (9, (Value.int .i64 x2_6)), (10, (Value.int .i64 x2_7))], [], ⟨sB [(0, (some (.cells (layT [(Value.slice (some ⟨3, 0, none⟩) x2_1 x2_1)]) 35))), (1, (some (.cells (layT [(Value.int .i64 x2_2), (Value.int .i64 x2_3), (Value.int .i64 x2_4), (Value.slice (some ⟨0, 0, some 1⟩) (Args.G).length Args.cG)]) 24))), (2, (some (.cells (layT [(Value.func (.func 38) #[] #[])]) 48))), (3, (some (.cells (layT (rows rw_b x2_0)) 4)))], 4, 3⟩)
noncomputable def X_gramuntilapiProdp_2 (x2_1 : Nat) (x2_2 : Int) (x2_3 : Int) (x2_4 : Int) (x2_6 : Int) (r : List (Bool) × Bool) : Ex × XSt := match r with
  | (z2_0, z2_1) => (.exit 2, (sT 18 [(0, (Value.slice (some ⟨0, 0, some 1⟩) (Args.G).length Args.cG)), (1, (Value.func (.func 49) #[] #[(Value.pointer (some ⟨0, 0, none⟩)), (Value.pointer (some ⟨1, 0, none⟩)), (Value.pointer (some ⟨2, 0, none⟩))])), (4, (Value.bool z2_1))], [], ⟨sB [(0, (some (.cells (layT [(Value.slice (some ⟨3, 0, none⟩) x2_1 x2_1)]) 35))), (1, (some (.cells (layT [(Value.int .i64 x2_2), (Value.int .i64 x2_3), (Value.int .i64 x2_4), (Value.slice (some ⟨0, 0, some 1⟩) (Args.G).length Args.cG)]) 24))), (2, (some (.cells (layT [(Value.func (.func 38) #[] #[])]) 48))), (3, (some (.cells (layT (rows rw_b z2_0)) 4)))], 4, 3⟩))
def B_gramuntilapiProdp_2 (n : Nat) (x2_1 : Nat) (x2_2 : Int) (x2_3 : Int) (x2_4 : Int) (x2_6 : Int) (st : List (Bool) × Bool × Int) : Option ((List (Bool) × Bool × Int) ⊕ (List (Bool) × Bool)) := match st with
  | (x2_0, x2_5, x2_7) =>
    if x2_7 < x2_6 then
      if 0 ≤ x2_7 ∧ x2_7 < (((Args.G).length : Nat) : Int) then
        (m_gramderiving1p n (((Args.G).getD (x2_7).toNat (0, nl0)).1) (((Args.G).getD (x2_7).toNat (0, nl0)).2) x2_1 x2_2 x2_3 x2_4 x2_0).bind fun t => match t with
        | (y2_3_0, y2_3_1) =>
          if y2_3_1 = true then
            some (.inl (y2_3_0, true, (w64 (x2_7 + (1 : Int)))))
          else
            some (.inl (y2_3_0, x2_5, (w64 (x2_7 + (1 : Int)))))
      else none
    else
      some (.inr (x2_0, x2_5))
def m_gramuntilapiProdp_2 (n : Nat) (x2_1 : Nat) (x2_2 : Int) (x2_3 : Int) (x2_4 : Int) (x2_6 : Int) (st : List (Bool) × Bool × Int) : Option (List (Bool) × Bool) := iterM (B_gramuntilapiProdp_2 n x2_1 x2_2 x2_3 x2_4 x2_6) n st
set_option maxRecDepth 100000 in
theorem q_gramuntilapiProdp_2_0 (n : Nat) (x2_0 : List (Bool)) (x2_1 : Nat) (x2_2 : Int) (x2_3 : Int) (x2_4 : Int) (x2_5 : Bool) (x2_6 : Int) (x2_7 : Int) (hy2_1 : x2_7 < x2_6) (hy2_2 : 0 ≤ x2_7 ∧ x2_7 < (((Args.G).length : Nat) : Int)) (y2_3_0 : List (Bool)) (y2_3_1 : Bool) (hy2_3 : m_gramderiving1p n (((Args.G).getD (x2_7).toNat (0, nl0)).1) (((Args.G).getD (x2_7).toNat (0, nl0)).2) x2_1 x2_2 x2_3 x2_4 x2_0 = some (y2_3_0, y2_3_1)) (hy2_4 : y2_3_1 = true) : CG P none (fnN P 39) 4 (codeOf P 39 [false, false, true, true, false, true, false, false, true]) (S_gramuntilapiProdp_2 x2_1 x2_2 x2_3 x2_4 x2_6 (x2_0, x2_5, x2_7)) (.normal, S_gramuntilapiProdp_2 x2_1 x2_2 x2_3 x2_4 x2_6 (y2_3_0, true, (w64 (x2_7 + (1 : Int))))) :=
  runC_ok hm (A := aT [(1, .val (.bool true)), (7, .pur (Value.pointer (some ⟨0, ((x2_7).toNat * 2), some 1⟩))), (8, .ld (Value.agg #[(Value.int .i64 (((Args.G).getD (x2_7).toNat (0, nl0)).1)), (nlV (((Args.G).getD (x2_7).toNat (0, nl0)).2))])), (14, .call ⟨4, [(0, 0, false), (1, 1, false), (2, 2, false), (3, 3, true)], (V_gramderiving1p (((Args.G).getD (x2_7).toNat (0, nl0)).1) (((Args.G).getD (x2_7).toNat (0, nl0)).2) x2_1 x2_2 x2_3 x2_4 x2_0 (y2_3_0, y2_3_1)), (R_gramderiving1p (((Args.G).getD (x2_7).toNat (0, nl0)).1) (((Args.G).getD (x2_7).toNat (0, nl0)).2) x2_1 x2_2 x2_3 x2_4 x2_0 (y2_3_0, y2_3_1)), [(3, 3, true)]⟩), (15, .val (.bool true))]) (L := lT []) (wk := ⟨[0, 1, 4, 8, 9, 10], [(0, 0, false), (1, 1, false), (2, 2, false), (3, 3, true)], 4, 3⟩)
    (ps := [(Value.bool (decide (x2_7 < x2_6))) = (Value.bool true),
    opIndexAddr P 22 (Value.slice (some ⟨0, 0, some 1⟩) (Args.G).length Args.cG) (Value.int .i64 x2_7) Ax.h0 = some ((Value.pointer (some ⟨0, ((x2_7).toNat * 2), some 1⟩)), Ax.h0),
    loadG P 41 (Value.pointer (some ⟨0, ((x2_7).toNat * 2), some 1⟩)) Ax.h0 = some ((Value.agg #[(Value.int .i64 (((Args.G).getD (x2_7).toNat (0, nl0)).1)), (nlV (((Args.G).getD (x2_7).toNat (0, nl0)).2))]), Ax.h0),
    Gv P (.func 49) (A_gramderiving1p (((Args.G).getD (x2_7).toNat (0, nl0)).1) (((Args.G).getD (x2_7).toNat (0, nl0)).2) x2_1 x2_2 x2_3 x2_4 x2_0) (H_gramderiving1p (((Args.G).getD (x2_7).toNat (0, nl0)).1) (((Args.G).getD (x2_7).toNat (0, nl0)).2) x2_1 x2_2 x2_3 x2_4 x2_0) (V_gramderiving1p (((Args.G).getD (x2_7).toNat (0, nl0)).1) (((Args.G).getD (x2_7).toNat (0, nl0)).2) x2_1 x2_2 x2_3 x2_4 x2_0 (y2_3_0, y2_3_1)) (R_gramderiving1p (((Args.G).getD (x2_7).toNat (0, nl0)).1) (((Args.G).getD (x2_7).toNat (0, nl0)).2) x2_1 x2_2 x2_3 x2_4 x2_0 (y2_3_0, y2_3_1)),
    FlatB (.cells (layT (rows rw_b x2_0)) 4),
    FlatB (.cells (layT (rows rw_b y2_3_0)) 4),
    (Value.bool y2_3_1) = (Value.bool true),
    FlatB (.cells (layT (rows rw_b y2_3_0)) 4)]) (by kernel_rfl) ⟨(vbT hy2_1), (ixW (e := 41) (by kernel_rfl) (by kernel_rfl) (hy2_2).1 (hy2_2).2), (ldWA rwf_iL (0, nl0) (i := (x2_7).toNat) (q := 0) (L := Args.G) (n := 2) ((x2_7).toNat * 2) rfl rfl (by kernel_rfl) (by kernel_rfl) (toNatLt hy2_2) (by decide) rfl), (m_gramderiving1p_ok n (((Args.G).getD (x2_7).toNat (0, nl0)).1) (((Args.G).getD (x2_7).toNat (0, nl0)).2) x2_1 x2_2 x2_3 x2_4 x2_0 (y2_3_0, y2_3_1) hy2_3), (rows_flat rwf_b _ _), (rows_flat rwf_b _ _), (vB hy2_4), (rows_flat rwf_b _ _), trivial⟩
set_option maxRecDepth 100000 in
theorem q_gramuntilapiProdp_2_1 (n : Nat) (x2_0 : List (Bool)) (x2_1 : Nat) (x2_2 : Int) (x2_3 : Int) (x2_4 : Int) (x2_5 : Bool) (x2_6 : Int) (x2_7 : Int) (hy2_1 : x2_7 < x2_6) (hy2_2 : 0 ≤ x2_7 ∧ x2_7 < (((Args.G).length : Nat) : Int)) (y2_3_0 : List (Bool)) (y2_3_1 : Bool) (hy2_3 : m_gramderiving1p n (((Args.G).getD (x2_7).toNat (0, nl0)).1) (((Args.G).getD (x2_7).toNat (0, nl0)).2) x2_1 x2_2 x2_3 x2_4 x2_0 = some (y2_3_0, y2_3_1)) (hy2_4 : ¬ (y2_3_1 = true)) : CG P none (fnN P 39) 4 (codeOf P 39 [false, false, true, true, false, true, false, false, true]) (S_gramuntilapiProdp_2 x2_1 x2_2 x2_3 x2_4 x2_6 (x2_0, x2_5, x2_7)) (.normal, S_gramuntilapiProdp_2 x2_1 x2_2 x2_3 x2_4 x2_6 (y2_3_0, x2_5, (w64 (x2_7 + (1 : Int))))) :=
  runC_ok hm (A := aT [(1, .val (.bool true)), (7, .pur (Value.pointer (some ⟨0, ((x2_7).toNat * 2), some 1⟩))), (8, .ld (Value.agg #[(Value.int .i64 (((Args.G).getD (x2_7).toNat (0, nl0)).1)), (nlV (((Args.G).getD (x2_7).toNat (0, nl0)).2))])), (14, .call ⟨4, [(0, 0, false), (1, 1, false), (2, 2, false), (3, 3, true)], (V_gramderiving1p (((Args.G).getD (x2_7).toNat (0, nl0)).1) (((Args.G).getD (x2_7).toNat (0, nl0)).2) x2_1 x2_2 x2_3 x2_4 x2_0 (y2_3_0, y2_3_1)), (R_gramderiving1p (((Args.G).getD (x2_7).toNat (0, nl0)).1) (((Args.G).getD (x2_7).toNat (0, nl0)).2) x2_1 x2_2 x2_3 x2_4 x2_0 (y2_3_0, y2_3_1)), [(3, 3, true)]⟩), (15, .val (.bool false))]) (L := lT []) (wk := ⟨[0, 1, 4, 8, 9, 10], [(0, 0, false), (1, 1, false), (2, 2, false), (3, 3, true)], 4, 3⟩)
    (ps := [(Value.bool (decide (x2_7 < x2_6))) = (Value.bool true),
    opIndexAddr P 22 (Value.slice (some ⟨0, 0, some 1⟩) (Args.G).length Args.cG) (Value.int .i64 x2_7) Ax.h0 = some ((Value.pointer (some ⟨0, ((x2_7).toNat * 2), some 1⟩)), Ax.h0),
    loadG P 41 (Value.pointer (some ⟨0, ((x2_7).toNat * 2), some 1⟩)) Ax.h0 = some ((Value.agg #[(Value.int .i64 (((Args.G).getD (x2_7).toNat (0, nl0)).1)), (nlV (((Args.G).getD (x2_7).toNat (0, nl0)).2))]), Ax.h0),
    Gv P (.func 49) (A_gramderiving1p (((Args.G).getD (x2_7).toNat (0, nl0)).1) (((Args.G).getD (x2_7).toNat (0, nl0)).2) x2_1 x2_2 x2_3 x2_4 x2_0) (H_gramderiving1p (((Args.G).getD (x2_7).toNat (0, nl0)).1) (((Args.G).getD (x2_7).toNat (0, nl0)).2) x2_1 x2_2 x2_3 x2_4 x2_0) (V_gramderiving1p (((Args.G).getD (x2_7).toNat (0, nl0)).1) (((Args.G).getD (x2_7).toNat (0, nl0)).2) x2_1 x2_2 x2_3 x2_4 x2_0 (y2_3_0, y2_3_1)) (R_gramderiving1p (((Args.G).getD (x2_7).toNat (0, nl0)).1) (((Args.G).getD (x2_7).toNat (0, nl0)).2) x2_1 x2_2 x2_3 x2_4 x2_0 (y2_3_0, y2_3_1)),
    FlatB (.cells (layT (rows rw_b x2_0)) 4),
    FlatB (.cells (layT (rows rw_b y2_3_0)) 4),
    (Value.bool y2_3_1) = (Value.bool false),
    FlatB (.cells (layT (rows rw_b y2_3_0)) 4)]) (by kernel_rfl) ⟨(vbT hy2_1), (ixW (e := 41) (by kernel_rfl) (by kernel_rfl) (hy2_2).1 (hy2_2).2), (ldWA rwf_iL (0, nl0) (i := (x2_7).toNat) (q := 0) (L := Args.G) (n := 2) ((x2_7).toNat * 2) rfl rfl (by kernel_rfl) (by kernel_rfl) (toNatLt hy2_2) (by decide) rfl), (m_gramderiving1p_ok n (((Args.G).getD (x2_7).toNat (0, nl0)).1) (((Args.G).getD (x2_7).toNat (0, nl0)).2) x2_1 x2_2 x2_3 x2_4 x2_0 (y2_3_0, y2_3_1) hy2_3), (rows_flat rwf_b _ _), (rows_flat rwf_b _ _), (vB (Bool.eq_false_iff.2 hy2_4)), (rows_flat rwf_b _ _), trivial⟩
set_option maxRecDepth 100000 in
theorem q_gramuntilapiProdp_2_2 (n : Nat) (x2_0 : List (Bool)) (x2_1 : Nat) (x2_2 : Int) (x2_3 : Int) (x2_4 : Int) (x2_5 : Bool) (x2_6 : Int) (x2_7 : Int) (hy2_1 : ¬ (x2_7 < x2_6)) : CG P none (fnN P 39) 4 (codeOf P 39 [false, false, true, true, false, true, false, false, true]) (S_gramuntilapiProdp_2 x2_1 x2_2 x2_3 x2_4 x2_6 (x2_0, x2_5, x2_7)) (X_gramuntilapiProdp_2 x2_1 x2_2 x2_3 x2_4 x2_6 (x2_0, x2_5)) :=
  runC_ok hm (A := aT [(1, .val (.bool false))]) (L := lT []) (wk := ⟨[0, 1, 4], [(0, 0, false), (1, 1, false), (2, 2, false), (3, 3, true)], 4, 3⟩)
    (ps := [(Value.bool (decide (x2_7 < x2_6))) = (Value.bool false),
    FlatB (.cells (layT (rows rw_b x2_0)) 4)]) (by kernel_rfl) ⟨(vbF hy2_1), (rows_flat rwf_b _ _), trivial⟩
theorem m_gramuntilapiProdp_2_ok (n : Nat) (x2_1 : Nat) (x2_2 : Int) (x2_3 : Int) (x2_4 : Int) (x2_6 : Int) (st : List (Bool) × Bool × Int) (r : List (Bool) × Bool) (h : m_gramuntilapiProdp_2 n x2_1 x2_2 x2_3 x2_4 x2_6 st = some r) : CG P none (fnN P 39) 4 (codeOf P 39 [false, true, true, false, true, false, false, true]) (S_gramuntilapiProdp_2 x2_1 x2_2 x2_3 x2_4 x2_6 st) (X_gramuntilapiProdp_2 x2_1 x2_2 x2_3 x2_4 x2_6 r) :=
  CG.iter (b := codeOf P 39 [false, false, true, true, false, true, false, false, true]) (by kernel_rfl) (body := B_gramuntilapiProdp_2 n x2_1 x2_2 x2_3 x2_4 x2_6) (S := S_gramuntilapiProdp_2 x2_1 x2_2 x2_3 x2_4 x2_6) (X := X_gramuntilapiProdp_2 x2_1 x2_2 x2_3 x2_4 x2_6)
    (fun s s' h => by
    obtain ⟨x2_0, x2_5, x2_7⟩ := s
    unfold B_gramuntilapiProdp_2 at h
    dsimp only at h
    by_cases hy2_1 : x2_7 < x2_6
    · rw [if_pos hy2_1] at h
      by_cases hy2_2 : 0 ≤ x2_7 ∧ x2_7 < (((Args.G).length : Nat) : Int)
      · rw [if_pos hy2_2] at h
        obtain ⟨⟨y2_3_0, y2_3_1⟩, hy2_3, h⟩ := Option.bind_eq_some_iff.1 h
        dsimp only at h
        by_cases hy2_4 : y2_3_1 = true
        · rw [if_pos hy2_4] at h
          obtain rfl := Sum.inl.inj (Option.some.inj h); exact q_gramuntilapiProdp_2_0 n x2_0 x2_1 x2_2 x2_3 x2_4 x2_5 x2_6 x2_7 hy2_1 hy2_2 y2_3_0 y2_3_1 hy2_3 hy2_4
        · rw [if_neg hy2_4] at h
          obtain rfl := Sum.inl.inj (Option.some.inj h); exact q_gramuntilapiProdp_2_1 n x2_0 x2_1 x2_2 x2_3 x2_4 x2_5 x2_6 x2_7 hy2_1 hy2_2 y2_3_0 y2_3_1 hy2_3 hy2_4
      · rw [if_neg hy2_2] at h; cases h
    · rw [if_neg hy2_1] at h
      cases h)
    (fun s r h => by
    obtain ⟨x2_0, x2_5, x2_7⟩ := s
    unfold B_gramuntilapiProdp_2 at h
    dsimp only at h
    by_cases hy2_1 : x2_7 < x2_6
    · rw [if_pos hy2_1] at h
      by_cases hy2_2 : 0 ≤ x2_7 ∧ x2_7 < (((Args.G).length : Nat) : Int)
      · rw [if_pos hy2_2] at h
        obtain ⟨⟨y2_3_0, y2_3_1⟩, hy2_3, h⟩ := Option.bind_eq_some_iff.1 h
        dsimp only at h
        by_cases hy2_4 : y2_3_1 = true
        · rw [if_pos hy2_4] at h
          cases h
        · rw [if_neg hy2_4] at h
          cases h
      · rw [if_neg hy2_2] at h; cases h
    · rw [if_neg hy2_1] at h
      obtain rfl := Sum.inr.inj (Option.some.inj h); exact q_gramuntilapiProdp_2_2 n x2_0 x2_1 x2_2 x2_3 x2_4 x2_5 x2_6 x2_7 hy2_1)
    (fun r => by intro hx; cases hx) h
noncomputable def S_gramuntilapiProdp_1 (x1_1 : Nat) (x1_2 : Int) (x1_3 : Int) (x1_4 : Int) (st : List (Bool) × Bool) : XSt := match st with
  | (x1_0, x1_5) => (sT 18 [(0, (Value.slice (some ⟨0, 0, some 1⟩) (Args.G).length Args.cG)), (1, (Value.func (.func 49) #[] #[(Value.pointer (some ⟨0, 0, none⟩)), (Value.pointer (some ⟨1, 0, none⟩)), (Value.pointer (some ⟨2, 0, none⟩))])), (4, (Value.bool x1_5))], [], ⟨sB [(0, (some (.cells (layT [(Value.slice (some ⟨3, 0, none⟩) x1_1 x1_1)]) 35))), (1, (some (.cells (layT [(Value.int .i64 x1_2), (Value.int .i64 x1_3), (Value.int .i64 x1_4), (Value.slice (some ⟨0, 0, some 1⟩) (Args.G).length Args.cG)]) 24))), (2, (some (.cells (layT [(Value.func (.func 38) #[] #[])]) 48))), (3, (some (.cells (layT (rows rw_b x1_0)) 4)))], 4, 3⟩)
noncomputable def X_gramuntilapiProdp_1 (x1_1 : Nat) (x1_2 : Int) (x1_3 : Int) (x1_4 : Int) (r : List (Bool)) : Ex × XSt := match r with
  | z1_0 => (.exit 0, (sT 18 [], [], ⟨sB [(0, (some (.cells (layT [(Value.slice (some ⟨3, 0, none⟩) x1_1 x1_1)]) 35))), (1, (some (.cells (layT [(Value.int .i64 x1_2), (Value.int .i64 x1_3), (Value.int .i64 x1_4), (Value.slice (some ⟨0, 0, some 1⟩) (Args.G).length Args.cG)]) 24))), (2, (some (.cells (layT [(Value.func (.func 38) #[] #[])]) 48))), (3, (some (.cells (layT (rows rw_b z1_0)) 4)))], 4, 3⟩))
def B_gramuntilapiProdp_1 (n : Nat) (x1_1 : Nat) (x1_2 : Int) (x1_3 : Int) (x1_4 : Int) (st : List (Bool) × Bool) : Option ((List (Bool) × Bool) ⊕ (List (Bool))) := match st with
  | (x1_0, x1_5) =>
    if x1_5 = true then
      (m_gramuntilapiProdp_2 n x1_1 x1_2 x1_3 x1_4 (((Args.G).length : Nat) : Int) (x1_0, false, 0)).bind fun t => match t with
      | (y1_2_0, y1_2_1) =>
        some (.inl (y1_2_0, y1_2_1))
    else
      some (.inr x1_0)
def m_gramuntilapiProdp_1 (n : Nat) (x1_1 : Nat) (x1_2 : Int) (x1_3 : Int) (x1_4 : Int) (st : List (Bool) × Bool) : Option (List (Bool)) := iterM (B_gramuntilapiProdp_1 n x1_1 x1_2 x1_3 x1_4) n st
set_option maxRecDepth 100000 in
theorem q_gramuntilapiProdp_1_0 (n : Nat) (x1_0 : List (Bool)) (x1_1 : Nat) (x1_2 : Int) (x1_3 : Int) (x1_4 : Int) (x1_5 : Bool) (hy1_1 : x1_5 = true) (y1_2_0 : List (Bool)) (y1_2_1 : Bool) (hy1_2 : m_gramuntilapiProdp_2 n x1_1 x1_2 x1_3 x1_4 (((Args.G).length : Nat) : Int) (x1_0, false, 0) = some (y1_2_0, y1_2_1)) : CG P none (fnN P 39) 4 (codeOf P 39 [false, false, true]) (S_gramuntilapiProdp_1 x1_1 x1_2 x1_3 x1_4 (x1_0, x1_5)) (.normal, S_gramuntilapiProdp_1 x1_1 x1_2 x1_3 x1_4 (y1_2_0, y1_2_1)) :=
  runC_ok hm (A := aT [(3, .val (.bool true))]) (L := lT [(12, ⟨⟨[0, 1, 4, 8, 9, 10], [(0, 0, false), (1, 1, false), (2, 2, false), (3, 3, true)], 4, 3⟩, (X_gramuntilapiProdp_2 x1_1 x1_2 x1_3 x1_4 (((Args.G).length : Nat) : Int) (y1_2_0, y1_2_1)).1, (X_gramuntilapiProdp_2 x1_1 x1_2 x1_3 x1_4 (((Args.G).length : Nat) : Int) (y1_2_0, y1_2_1)).2⟩)]) (wk := ⟨[0, 1, 4], [(0, 0, false), (1, 1, false), (2, 2, false), (3, 3, true)], 4, 3⟩)
    (ps := [(Value.bool x1_5) = (Value.bool true),
    CG P none (fnN P 39) 4 (codeOf P 39 [false, true, true, false, true, false, false, true]) (S_gramuntilapiProdp_2 x1_1 x1_2 x1_3 x1_4 (((Args.G).length : Nat) : Int) (x1_0, false, 0)) (X_gramuntilapiProdp_2 x1_1 x1_2 x1_3 x1_4 (((Args.G).length : Nat) : Int) (y1_2_0, y1_2_1)),
    FlatB (.cells (layT (rows rw_b x1_0)) 4),
    FlatB (.cells (layT (rows rw_b y1_2_0)) 4)]) (by kernel_rfl) ⟨(vB hy1_1), (m_gramuntilapiProdp_2_ok n x1_1 x1_2 x1_3 x1_4 (((Args.G).length : Nat) : Int) (x1_0, false, 0) (y1_2_0, y1_2_1) hy1_2), (rows_flat rwf_b _ _), (rows_flat rwf_b _ _), trivial⟩
set_option maxRecDepth 100000 in
theorem q_gramuntilapiProdp_1_1 (n : Nat) (x1_0 : List (Bool)) (x1_1 : Nat) (x1_2 : Int) (x1_3 : Int) (x1_4 : Int) (x1_5 : Bool) (hy1_1 : ¬ (x1_5 = true)) : CG P none (fnN P 39) 4 (codeOf P 39 [false, false, true]) (S_gramuntilapiProdp_1 x1_1 x1_2 x1_3 x1_4 (x1_0, x1_5)) (X_gramuntilapiProdp_1 x1_1 x1_2 x1_3 x1_4 x1_0) :=
  runC_ok hm (A := aT [(3, .val (.bool false))]) (L := lT []) (wk := ⟨[], [(0, 0, false), (1, 1, false), (2, 2, false), (3, 3, true)], 4, 3⟩)
    (ps := [(Value.bool x1_5) = (Value.bool false),
    FlatB (.cells (layT (rows rw_b x1_0)) 4)]) (by kernel_rfl) ⟨(vB (Bool.eq_false_iff.2 hy1_1)), (rows_flat rwf_b _ _), trivial⟩
theorem m_gramuntilapiProdp_1_ok (n : Nat) (x1_1 : Nat) (x1_2 : Int) (x1_3 : Int) (x1_4 : Int) (st : List (Bool) × Bool) (r : List (Bool)) (h : m_gramuntilapiProdp_1 n x1_1 x1_2 x1_3 x1_4 st = some r) : CG P none (fnN P 39) 4 (codeOf P 39 [false, true]) (S_gramuntilapiProdp_1 x1_1 x1_2 x1_3 x1_4 st) (X_gramuntilapiProdp_1 x1_1 x1_2 x1_3 x1_4 r) :=
  CG.iter (b := codeOf P 39 [false, false, true]) (by kernel_rfl) (body := B_gramuntilapiProdp_1 n x1_1 x1_2 x1_3 x1_4) (S := S_gramuntilapiProdp_1 x1_1 x1_2 x1_3 x1_4) (X := X_gramuntilapiProdp_1 x1_1 x1_2 x1_3 x1_4)
    (fun s s' h => by
    obtain ⟨x1_0, x1_5⟩ := s
    unfold B_gramuntilapiProdp_1 at h
    dsimp only at h
    by_cases hy1_1 : x1_5 = true
    · rw [if_pos hy1_1] at h
      obtain ⟨⟨y1_2_0, y1_2_1⟩, hy1_2, h⟩ := Option.bind_eq_some_iff.1 h
      dsimp only at h
      obtain rfl := Sum.inl.inj (Option.some.inj h); exact q_gramuntilapiProdp_1_0 n x1_0 x1_1 x1_2 x1_3 x1_4 x1_5 hy1_1 y1_2_0 y1_2_1 hy1_2
    · rw [if_neg hy1_1] at h
      cases h)
    (fun s r h => by
    obtain ⟨x1_0, x1_5⟩ := s
    unfold B_gramuntilapiProdp_1 at h
    dsimp only at h
    by_cases hy1_1 : x1_5 = true
    · rw [if_pos hy1_1] at h
      obtain ⟨⟨y1_2_0, y1_2_1⟩, hy1_2, h⟩ := Option.bind_eq_some_iff.1 h
      dsimp only at h
      cases h
    · rw [if_neg hy1_1] at h
      obtain rfl := Sum.inr.inj (Option.some.inj h); exact q_gramuntilapiProdp_1_1 n x1_0 x1_1 x1_2 x1_3 x1_4 x1_5 hy1_1)
    (fun r => by intro hx; cases hx) h
noncomputable def A_gramuntilapiProdp (sn : Nat) (gT : Int) (gN : Int) (gK : Int) (L : List (Bool)) : List Value := [(Value.slice (some ⟨0, 0, some 1⟩) (Args.G).length Args.cG), (Value.func (.func 49) #[] #[(Value.pointer (some ⟨0, 0, none⟩)), (Value.pointer (some ⟨1, 0, none⟩)), (Value.pointer (some ⟨2, 0, none⟩))])]
noncomputable def H_gramuntilapiProdp (sn : Nat) (gT : Int) (gN : Int) (gK : Int) (L : List (Bool)) : AH := ⟨sB [(0, (some (.cells (layT [(Value.slice (some ⟨3, 0, none⟩) sn sn)]) 35))), (1, (some (.cells (layT [(Value.int .i64 gT), (Value.int .i64 gN), (Value.int .i64 gK), (Value.slice (some ⟨0, 0, some 1⟩) (Args.G).length Args.cG)]) 24))), (2, (some (.cells (layT [(Value.func (.func 38) #[] #[])]) 48))), (3, (some (.cells (layT (rows rw_b L)) 4)))], 4, 4⟩
noncomputable def V_gramuntilapiProdp (sn : Nat) (gT : Int) (gN : Int) (gK : Int) (L : List (Bool)) (r : List (Bool)) : Value := match r with
  | o0 => (Value.tuple #[])
noncomputable def R_gramuntilapiProdp (sn : Nat) (gT : Int) (gN : Int) (gK : Int) (L : List (Bool)) (r : List (Bool)) : AH := match r with
  | o0 => ⟨sB [(3, (some (.cells (layT (rows rw_b o0)) 4)))], 4, 3⟩
def m_gramuntilapiProdp (n : Nat) (sn : Nat) (gT : Int) (gN : Int) (gK : Int) (L : List (Bool)) : Option (List (Bool)) :=
  (m_gramuntilapiProdp_1 n sn gT gN gK (L, true)).bind fun c1_ =>
  some c1_
set_option maxRecDepth 100000 in
theorem p_gramuntilapiProdp_0 (n : Nat) (sn : Nat) (gT : Int) (gN : Int) (gK : Int) (L : List (Bool)) (c1_ : List (Bool)) (hc1 : m_gramuntilapiProdp_1 n sn gT gN gK (L, true) = some c1_) : Gv P (.func 39) (A_gramuntilapiProdp sn gT gN gK L) (H_gramuntilapiProdp sn gT gN gK L) (V_gramuntilapiProdp sn gT gN gK L c1_) (R_gramuntilapiProdp sn gT gN gK L c1_) :=
  runF_ok hm (A := aT []) (L := lT [(3, ⟨⟨[0, 1, 4], [(0, 0, false), (1, 1, false), (2, 2, false), (3, 3, true)], 4, 3⟩, (X_gramuntilapiProdp_1 sn gT gN gK c1_).1, (X_gramuntilapiProdp_1 sn gT gN gK c1_).2⟩)]) (wk := ⟨[], [(3, 3, true)], 4, 3⟩)
    (ps := [CG P none (fnN P 39) 4 (codeOf P 39 [false, true]) (S_gramuntilapiProdp_1 sn gT gN gK (L, true)) (X_gramuntilapiProdp_1 sn gT gN gK c1_),
    FlatB (.cells (layT (rows rw_b L)) 4),
    FlatB (.cells (layT (rows rw_b c1_)) 4)]) (by kernel_rfl) ⟨(m_gramuntilapiProdp_1_ok n sn gT gN gK (L, true) c1_ hc1), (rows_flat rwf_b _ _), (rows_flat rwf_b _ _), trivial⟩
theorem m_gramuntilapiProdp_ok (n : Nat) (sn : Nat) (gT : Int) (gN : Int) (gK : Int) (L : List (Bool)) (r : List (Bool)) (h : m_gramuntilapiProdp n sn gT gN gK L = some r) : Gv P (.func 39) (A_gramuntilapiProdp sn gT gN gK L) (H_gramuntilapiProdp sn gT gN gK L) (V_gramuntilapiProdp sn gT gN gK L r) (R_gramuntilapiProdp sn gT gN gK L r) := by
  unfold m_gramuntilapiProdp at h
  obtain ⟨c1_, hc1, h⟩ := Option.bind_eq_some_iff.1 h
  obtain rfl := Option.some.inj h; exact p_gramuntilapiProdp_0 n sn gT gN gK L c1_ hc1

noncomputable def A_gramderivingp (gT : Int) (gN : Int) (gK : Int) : List Value := [(Value.agg #[(Value.int .i64 gT), (Value.int .i64 gN), (Value.int .i64 gK), (Value.slice (some ⟨0, 0, some 1⟩) (Args.G).length Args.cG)]), (Value.func (.func 38) #[] #[])]
noncomputable def H_gramderivingp (gT : Int) (gN : Int) (gK : Int) : AH := ⟨sB [], 0, 0⟩
noncomputable def V_gramderivingp (gT : Int) (gN : Int) (gK : Int) (r : List (Bool)) : Value := match r with
  | o0 => (Value.slice (some ⟨0, 0, none⟩) (gN).toNat (gN).toNat)
noncomputable def R_gramderivingp (gT : Int) (gN : Int) (gK : Int) (r : List (Bool)) : AH := match r with
  | o0 => ⟨sB [(0, (some (.cells (layT (rows rw_b o0)) 4)))], 1, 0⟩
def m_gramderivingp (n : Nat) (gT : Int) (gN : Int) (gK : Int) : Option (List (Bool)) :=
  (m_gramCheck n gT gN gK).bind fun c1_ =>
  if c1_ = (0 : Int) then
    if 0 ≤ gN then
      if (gN).toNat * 1 ≤ 140737488355328 then
        (m_gramuntilapiProdp n ((gN).toNat) gT gN gK (List.replicate (gN).toNat (false))).bind fun c5_ =>
        some c5_
      else none
    else none
  else
    none
set_option maxRecDepth 100000 in
theorem p_gramderivingp_0 (n : Nat) (gT : Int) (gN : Int) (gK : Int) (c1_ : Int) (hc1 : m_gramCheck n gT gN gK = some c1_) (hc2 : c1_ = (0 : Int)) (hc3 : 0 ≤ gN) (hc4 : (gN).toNat * 1 ≤ 140737488355328) (c5_ : List (Bool)) (hc5 : m_gramuntilapiProdp n ((gN).toNat) gT gN gK (List.replicate (gN).toNat (false)) = some c5_) : Gv P (.func 35) (A_gramderivingp gT gN gK) (H_gramderivingp gT gN gK) (V_gramderivingp gT gN gK c5_) (R_gramderivingp gT gN gK c5_) :=
  runF_ok hm (A := aT [(7, .call ⟨0, [], (V_gramCheck gT gN gK c1_), (R_gramCheck gT gN gK c1_), []⟩), (8, .val (.bool false)), (13, .mk (gN).toNat (rows rw_b (List.replicate (gN).toNat (false)))), (20, .call ⟨4, [(0, 3, false), (1, 0, false), (2, 1, false), (3, 2, true)], (V_gramuntilapiProdp ((gN).toNat) gT gN gK (List.replicate (gN).toNat (false)) c5_), (R_gramuntilapiProdp ((gN).toNat) gT gN gK (List.replicate (gN).toNat (false)) c5_), [(2, 3, true)]⟩)]) (L := lT []) (wk := ⟨[4], [(0, 2, true)], 1, 0⟩)
    (ps := [Gv P (.func 14) (A_gramCheck gT gN gK) (H_gramCheck gT gN gK) (V_gramCheck gT gN gK c1_) (R_gramCheck gT gN gK c1_),
    (Value.bool (c1_ != (0 : Int))) = (Value.bool false),
    natOf (Value.int .i64 gN) = some (gN).toNat,
    natOf (Value.int .i64 gN) = some (gN).toNat,
    fits (gN).toNat 1 = true,
    isZ8 [(Value.bool false)] = false,
    reps [(Value.bool false)] (gN).toNat = (rows rw_b (List.replicate (gN).toNat (false))),
    Gv P (.func 39) (A_gramuntilapiProdp ((gN).toNat) gT gN gK (List.replicate (gN).toNat (false))) (H_gramuntilapiProdp ((gN).toNat) gT gN gK (List.replicate (gN).toNat (false))) (V_gramuntilapiProdp ((gN).toNat) gT gN gK (List.replicate (gN).toNat (false)) c5_) (R_gramuntilapiProdp ((gN).toNat) gT gN gK (List.replicate (gN).toNat (false)) c5_),
    FlatB (.cells (layT (rows rw_b (List.replicate (gN).toNat (false)))) 4),
    FlatB (.cells (layT (rows rw_b c5_)) 4),
    FlatB (.cells (layT (rows rw_b c5_)) 4)]) (by kernel_rfl) ⟨(m_gramCheck_ok n gT gN gK c1_ hc1), (vnF hc2), (natOf_toNat hc3), (natOf_toNat hc3), (fits_ok hc4 (by omega)), (rfl), (reps_rows rw_b (false) _ rfl _), (m_gramuntilapiProdp_ok n ((gN).toNat) gT gN gK (List.replicate (gN).toNat (false)) c5_ hc5), (rows_flat rwf_b _ _), (rows_flat rwf_b _ _), (rows_flat rwf_b _ _), trivial⟩
theorem m_gramderivingp_ok (n : Nat) (gT : Int) (gN : Int) (gK : Int) (r : List (Bool)) (h : m_gramderivingp n gT gN gK = some r) : Gv P (.func 35) (A_gramderivingp gT gN gK) (H_gramderivingp gT gN gK) (V_gramderivingp gT gN gK r) (R_gramderivingp gT gN gK r) := by
  unfold m_gramderivingp at h
  obtain ⟨c1_, hc1, h⟩ := Option.bind_eq_some_iff.1 h
  by_cases hc2 : c1_ = (0 : Int)
  · rw [if_pos hc2] at h
    by_cases hc3 : 0 ≤ gN
    · rw [if_pos hc3] at h
      by_cases hc4 : (gN).toNat * 1 ≤ 140737488355328
      · rw [if_pos hc4] at h
        obtain ⟨c5_, hc5, h⟩ := Option.bind_eq_some_iff.1 h
        obtain rfl := Option.some.inj h; exact p_gramderivingp_0 n gT gN gK c1_ hc1 hc2 hc3 hc4 c5_ hc5
      · rw [if_neg hc4] at h; cases h
    · rw [if_neg hc3] at h; cases h
  · rw [if_neg hc2] at h
    cases h

noncomputable def A_gramNullable (gT : Int) (gN : Int) (gK : Int) : List Value := [(Value.agg #[(Value.int .i64 gT), (Value.int .i64 gN), (Value.int .i64 gK), (Value.slice (some ⟨0, 0, some 1⟩) (Args.G).length Args.cG)])]
noncomputable def H_gramNullable (gT : Int) (gN : Int) (gK : Int) : AH := ⟨sB [], 0, 0⟩
noncomputable def V_gramNullable (gT : Int) (gN : Int) (gK : Int) (r : List (Bool)) : Value := match r with
  | o0 => (Value.slice (some ⟨0, 0, none⟩) (gN).toNat (gN).toNat)
noncomputable def R_gramNullable (gT : Int) (gN : Int) (gK : Int) (r : List (Bool)) : AH := match r with
  | o0 => ⟨sB [(0, (some (.cells (layT (rows rw_b o0)) 4)))], 1, 0⟩
def m_gramNullable (n : Nat) (gT : Int) (gN : Int) (gK : Int) : Option (List (Bool)) :=
  (m_gramderivingn n gT gN gK).bind fun c1_ =>
  some c1_
set_option maxRecDepth 100000 in
theorem p_gramNullable_0 (n : Nat) (gT : Int) (gN : Int) (gK : Int) (c1_ : List (Bool)) (hc1 : m_gramderivingn n gT gN gK = some c1_) : Gv P (.func 20) (A_gramNullable gT gN gK) (H_gramNullable gT gN gK) (V_gramNullable gT gN gK c1_) (R_gramNullable gT gN gK c1_) :=
  runF_ok hm (A := aT [(5, .call ⟨0, [], (V_gramderivingn gT gN gK c1_), (R_gramderivingn gT gN gK c1_), [(1, 0, true)]⟩)]) (L := lT []) (wk := ⟨[2], [(0, 1, true)], 1, 0⟩)
    (ps := [Gv P (.func 35) (A_gramderivingn gT gN gK) (H_gramderivingn gT gN gK) (V_gramderivingn gT gN gK c1_) (R_gramderivingn gT gN gK c1_),
    FlatB (.cells (layT (rows rw_b c1_)) 4),
    FlatB (.cells (layT (rows rw_b c1_)) 4)]) (by kernel_rfl) ⟨(m_gramderivingn_ok n gT gN gK c1_ hc1), (rows_flat rwf_b _ _), (rows_flat rwf_b _ _), trivial⟩
theorem m_gramNullable_ok (n : Nat) (gT : Int) (gN : Int) (gK : Int) (r : List (Bool)) (h : m_gramNullable n gT gN gK = some r) : Gv P (.func 20) (A_gramNullable gT gN gK) (H_gramNullable gT gN gK) (V_gramNullable gT gN gK r) (R_gramNullable gT gN gK r) := by
  unfold m_gramNullable at h
  obtain ⟨c1_, hc1, h⟩ := Option.bind_eq_some_iff.1 h
  obtain rfl := Option.some.inj h; exact p_gramNullable_0 n gT gN gK c1_ hc1

noncomputable def A_gramProductive (gT : Int) (gN : Int) (gK : Int) : List Value := [(Value.agg #[(Value.int .i64 gT), (Value.int .i64 gN), (Value.int .i64 gK), (Value.slice (some ⟨0, 0, some 1⟩) (Args.G).length Args.cG)])]
noncomputable def H_gramProductive (gT : Int) (gN : Int) (gK : Int) : AH := ⟨sB [], 0, 0⟩
noncomputable def V_gramProductive (gT : Int) (gN : Int) (gK : Int) (r : List (Bool)) : Value := match r with
  | o0 => (Value.slice (some ⟨0, 0, none⟩) (gN).toNat (gN).toNat)
noncomputable def R_gramProductive (gT : Int) (gN : Int) (gK : Int) (r : List (Bool)) : AH := match r with
  | o0 => ⟨sB [(0, (some (.cells (layT (rows rw_b o0)) 4)))], 1, 0⟩
def m_gramProductive (n : Nat) (gT : Int) (gN : Int) (gK : Int) : Option (List (Bool)) :=
  (m_gramderivingp n gT gN gK).bind fun c1_ =>
  some c1_
set_option maxRecDepth 100000 in
theorem p_gramProductive_0 (n : Nat) (gT : Int) (gN : Int) (gK : Int) (c1_ : List (Bool)) (hc1 : m_gramderivingp n gT gN gK = some c1_) : Gv P (.func 22) (A_gramProductive gT gN gK) (H_gramProductive gT gN gK) (V_gramProductive gT gN gK c1_) (R_gramProductive gT gN gK c1_) :=
  runF_ok hm (A := aT [(5, .call ⟨0, [], (V_gramderivingp gT gN gK c1_), (R_gramderivingp gT gN gK c1_), [(1, 0, true)]⟩)]) (L := lT []) (wk := ⟨[2], [(0, 1, true)], 1, 0⟩)
    (ps := [Gv P (.func 35) (A_gramderivingp gT gN gK) (H_gramderivingp gT gN gK) (V_gramderivingp gT gN gK c1_) (R_gramderivingp gT gN gK c1_),
    FlatB (.cells (layT (rows rw_b c1_)) 4),
    FlatB (.cells (layT (rows rw_b c1_)) 4)]) (by kernel_rfl) ⟨(m_gramderivingp_ok n gT gN gK c1_ hc1), (rows_flat rwf_b _ _), (rows_flat rwf_b _ _), trivial⟩
theorem m_gramProductive_ok (n : Nat) (gT : Int) (gN : Int) (gK : Int) (r : List (Bool)) (h : m_gramProductive n gT gN gK = some r) : Gv P (.func 22) (A_gramProductive gT gN gK) (H_gramProductive gT gN gK) (V_gramProductive gT gN gK r) (R_gramProductive gT gN gK r) := by
  unfold m_gramProductive at h
  obtain ⟨c1_, hc1, h⟩ := Option.bind_eq_some_iff.1 h
  obtain rfl := Option.some.inj h; exact p_gramProductive_0 n gT gN gK c1_ hc1

noncomputable def S_gramReachable1_1 (x1_0 : Int) (x1_1 : Int) (x1_2 : Int) (x1_4 : Nat) (x1_5 : Int) (x1_6 : NL) (x1_8 : Int) (st : List (Bool) × Bool × Int) : XSt := match st with
  | (x1_3, x1_7, x1_9) => (sT 44 [(1, (Value.pointer (some ⟨0, 0, none⟩))), (2, (Value.pointer (some ⟨1, 0, none⟩))), (3, (Value.pointer (some ⟨3, 0, none⟩))), (5, (Value.bool x1_7)), (9, (nlV x1_6)), (10, (Value.int .i64 x1_8)), (11, (Value.int .i64 x1_9))], [], ⟨sB [(0, (some (.cells (layT [(Value.int .i64 x1_0), (Value.int .i64 x1_1), (Value.int .i64 x1_2), (Value.slice (some ⟨0, 0, some 1⟩) (Args.G).length Args.cG)]) 24))), (1, (some (.cells (layT [(Value.slice (some ⟨2, 0, none⟩) x1_4 x1_4)]) 35))), (2, (some (.cells (layT (rows rw_b x1_3)) 4))), (3, (some (.cells (layT [(Value.int .i64 x1_5), (nlV x1_6)]) 41)))], 4, 2⟩)
noncomputable def X_gramReachable1_1 (x1_0 : Int) (x1_1 : Int) (x1_2 : Int) (x1_4 : Nat) (x1_5 : Int) (x1_6 : NL) (x1_8 : Int) (r : List (Bool) × Bool) : Ex × XSt := match r with
  | (z1_0, z1_1) => (.exit 0, (sT 44 [(5, (Value.bool z1_1))], [], ⟨sB [(0, (some (.cells (layT [(Value.int .i64 x1_0), (Value.int .i64 x1_1), (Value.int .i64 x1_2), (Value.slice (some ⟨0, 0, some 1⟩) (Args.G).length Args.cG)]) 24))), (1, (some (.cells (layT [(Value.slice (some ⟨2, 0, none⟩) x1_4 x1_4)]) 35))), (2, (some (.cells (layT (rows rw_b z1_0)) 4)))], 3, 2⟩))
def B_gramReachable1_1 (n : Nat) (x1_0 : Int) (x1_1 : Int) (x1_2 : Int) (x1_4 : Nat) (x1_5 : Int) (x1_6 : NL) (x1_8 : Int) (st : List (Bool) × Bool × Int) : Option ((List (Bool) × Bool × Int) ⊕ (List (Bool) × Bool)) := match st with
  | (x1_3, x1_7, x1_9) =>
    if x1_9 < x1_8 then
      if 0 ≤ x1_9 ∧ x1_9 < (((x1_6).l.length : Nat) : Int) then
        if (x1_9).toNat < ((x1_6).l).length then
          if (((x1_6).l).getD (x1_9).toNat 0) ≥ x1_0 then
            if 0 ≤ x1_5 ∧ x1_5 < ((x1_4 : Nat) : Int) then
              if (x1_5).toNat < (x1_3).length then
                if ((x1_3).getD (x1_5).toNat (false)) = true then
                  if 0 ≤ (w64 ((((x1_6).l).getD (x1_9).toNat 0) - x1_0)) ∧ (w64 ((((x1_6).l).getD (x1_9).toNat 0) - x1_0)) < ((x1_4 : Nat) : Int) then
                    if ((w64 ((((x1_6).l).getD (x1_9).toNat 0) - x1_0))).toNat < (x1_3).length then
                      if ((x1_3).getD ((w64 ((((x1_6).l).getD (x1_9).toNat 0) - x1_0))).toNat (false)) = true then
                        some (.inl (x1_3, x1_7, (w64 (x1_9 + (1 : Int)))))
                      else
                        some (.inl (((x1_3).set ((w64 ((((x1_6).l).getD (x1_9).toNat 0) - x1_0))).toNat true), true, (w64 (x1_9 + (1 : Int)))))
                    else none
                  else none
                else
                  some (.inl (x1_3, x1_7, (w64 (x1_9 + (1 : Int)))))
              else none
            else none
          else
            some (.inl (x1_3, x1_7, (w64 (x1_9 + (1 : Int)))))
        else none
      else none
    else
      some (.inr (x1_3, x1_7))
def m_gramReachable1_1 (n : Nat) (x1_0 : Int) (x1_1 : Int) (x1_2 : Int) (x1_4 : Nat) (x1_5 : Int) (x1_6 : NL) (x1_8 : Int) (st : List (Bool) × Bool × Int) : Option (List (Bool) × Bool) := iterM (B_gramReachable1_1 n x1_0 x1_1 x1_2 x1_4 x1_5 x1_6 x1_8) n st
set_option maxRecDepth 100000 in
theorem q_gramReachable1_1_0 (n : Nat) (x1_0 : Int) (x1_1 : Int) (x1_2 : Int) (x1_3 : List (Bool)) (x1_4 : Nat) (x1_5 : Int) (x1_6 : NL) (x1_7 : Bool) (x1_8 : Int) (x1_9 : Int) (hy1_1 : x1_9 < x1_8) (hy1_2 : 0 ≤ x1_9 ∧ x1_9 < (((x1_6).l.length : Nat) : Int)) (hy1_3 : (x1_9).toNat < ((x1_6).l).length) (hy1_4 : (((x1_6).l).getD (x1_9).toNat 0) ≥ x1_0) (hy1_5 : 0 ≤ x1_5 ∧ x1_5 < ((x1_4 : Nat) : Int)) (hy1_6 : (x1_5).toNat < (x1_3).length) (hy1_7 : ((x1_3).getD (x1_5).toNat (false)) = true) (hy1_8 : 0 ≤ (w64 ((((x1_6).l).getD (x1_9).toNat 0) - x1_0)) ∧ (w64 ((((x1_6).l).getD (x1_9).toNat 0) - x1_0)) < ((x1_4 : Nat) : Int)) (hy1_9 : ((w64 ((((x1_6).l).getD (x1_9).toNat 0) - x1_0))).toNat < (x1_3).length) (hy1_10 : ((x1_3).getD ((w64 ((((x1_6).l).getD (x1_9).toNat 0) - x1_0))).toNat (false)) = true) : CG P none (fnN P 40) 3 (codeOf P 40 [false, false, true, false, true, true]) (S_gramReachable1_1 x1_0 x1_1 x1_2 x1_4 x1_5 x1_6 x1_8 (x1_3, x1_7, x1_9)) (.normal, S_gramReachable1_1 x1_0 x1_1 x1_2 x1_4 x1_5 x1_6 x1_8 (x1_3, x1_7, (w64 (x1_9 + (1 : Int))))) :=
  runC_ok hm (A := aT [(1, .val (.bool true)), (7, .pur (Value.pointer (some ⟨(Nat.add (x1_6).num 64), (x1_9).toNat, some 1⟩))), (8, .ld (Value.int .i64 (((x1_6).l).getD (x1_9).toNat 0))), (14, .val (.bool true)), (19, .pur (Value.pointer (some ⟨2, ((x1_5).toNat * 1), none⟩))), (20, .ld (Value.bool ((x1_3).getD (x1_5).toNat (false)))), (22, .val (.bool true)), (28, .pur (Value.pointer (some ⟨2, (((w64 ((((x1_6).l).getD (x1_9).toNat 0) - x1_0))).toNat * 1), none⟩))), (29, .ld (Value.bool ((x1_3).getD ((w64 ((((x1_6).l).getD (x1_9).toNat 0) - x1_0))).toNat (false)))), (30, .val (.bool false))]) (L := lT []) (wk := ⟨[1, 2, 3, 5, 9, 10, 11], [(0, 0, false), (1, 1, false), (2, 2, true), (3, 3, false)], 4, 2⟩)
    (ps := [(Value.bool (decide (x1_9 < x1_8))) = (Value.bool true),
    opIndexAddr P 32 (nlV x1_6) (Value.int .i64 x1_9) Ax.h0 = some ((Value.pointer (some ⟨(Nat.add (x1_6).num 64), (x1_9).toNat, some 1⟩)), Ax.h0),
    loadG P 3 (Value.pointer (some ⟨(Nat.add (x1_6).num 64), (x1_9).toNat, some 1⟩)) Ax.h0 = some ((Value.int .i64 (((x1_6).l).getD (x1_9).toNat 0)), Ax.h0),
    (Value.bool (decide ((((x1_6).l).getD (x1_9).toNat 0) ≥ x1_0))) = (Value.bool true),
    opIndexAddr P 35 (Value.slice (some ⟨2, 0, none⟩) x1_4 x1_4) (Value.int .i64 x1_5) Ax.h0 = some ((Value.pointer (some ⟨2, ((x1_5).toNat * 1), none⟩)), Ax.h0),
    (layT (rows rw_b x1_3)).get ((x1_5).toNat * 1) = some (Value.bool ((x1_3).getD (x1_5).toNat (false))),
    (Value.bool ((x1_3).getD (x1_5).toNat (false))) = (Value.bool true),
    opIndexAddr P 35 (Value.slice (some ⟨2, 0, none⟩) x1_4 x1_4) (Value.int .i64 (w64 ((((x1_6).l).getD (x1_9).toNat 0) - x1_0))) Ax.h0 = some ((Value.pointer (some ⟨2, (((w64 ((((x1_6).l).getD (x1_9).toNat 0) - x1_0))).toNat * 1), none⟩)), Ax.h0),
    (layT (rows rw_b x1_3)).get (((w64 ((((x1_6).l).getD (x1_9).toNat 0) - x1_0))).toNat * 1) = some (Value.bool ((x1_3).getD ((w64 ((((x1_6).l).getD (x1_9).toNat 0) - x1_0))).toNat (false))),
    (Value.bool (!((x1_3).getD ((w64 ((((x1_6).l).getD (x1_9).toNat 0) - x1_0))).toNat (false)))) = (Value.bool false),
    FlatB (.cells (layT (rows rw_b x1_3)) 4)]) (by kernel_rfl) ⟨(vbT hy1_1), (ixW1 (e := 3) (by kernel_rfl) (by kernel_rfl) hy1_2), (ldN x1_6 (by kernel_rfl) hy1_3), (vbT hy1_4), (ixS (e := 4) (by kernel_rfl) (by kernel_rfl) (hy1_5).1 (hy1_5).2), (rows_ld rwf_b (false) (i := (x1_5).toNat) (j := 0) ((x1_5).toNat * 1) rfl (hy1_6) (by decide) rfl), (vB hy1_7), (ixS (e := 4) (by kernel_rfl) (by kernel_rfl) (hy1_8).1 (hy1_8).2), (rows_ld rwf_b (false) (i := ((w64 ((((x1_6).l).getD (x1_9).toNat 0) - x1_0))).toNat) (j := 0) (((w64 ((((x1_6).l).getD (x1_9).toNat 0) - x1_0))).toNat * 1) rfl (hy1_9) (by decide) rfl), (vBn hy1_10), (rows_flat rwf_b _ _), trivial⟩
set_option maxRecDepth 100000 in
theorem q_gramReachable1_1_1 (n : Nat) (x1_0 : Int) (x1_1 : Int) (x1_2 : Int) (x1_3 : List (Bool)) (x1_4 : Nat) (x1_5 : Int) (x1_6 : NL) (x1_7 : Bool) (x1_8 : Int) (x1_9 : Int) (hy1_1 : x1_9 < x1_8) (hy1_2 : 0 ≤ x1_9 ∧ x1_9 < (((x1_6).l.length : Nat) : Int)) (hy1_3 : (x1_9).toNat < ((x1_6).l).length) (hy1_4 : (((x1_6).l).getD (x1_9).toNat 0) ≥ x1_0) (hy1_5 : 0 ≤ x1_5 ∧ x1_5 < ((x1_4 : Nat) : Int)) (hy1_6 : (x1_5).toNat < (x1_3).length) (hy1_7 : ((x1_3).getD (x1_5).toNat (false)) = true) (hy1_8 : 0 ≤ (w64 ((((x1_6).l).getD (x1_9).toNat 0) - x1_0)) ∧ (w64 ((((x1_6).l).getD (x1_9).toNat 0) - x1_0)) < ((x1_4 : Nat) : Int)) (hy1_9 : ((w64 ((((x1_6).l).getD (x1_9).toNat 0) - x1_0))).toNat < (x1_3).length) (hy1_10 : ¬ (((x1_3).getD ((w64 ((((x1_6).l).getD (x1_9).toNat 0) - x1_0))).toNat (false)) = true)) : CG P none (fnN P 40) 3 (codeOf P 40 [false, false, true, false, true, true]) (S_gramReachable1_1 x1_0 x1_1 x1_2 x1_4 x1_5 x1_6 x1_8 (x1_3, x1_7, x1_9)) (.normal, S_gramReachable1_1 x1_0 x1_1 x1_2 x1_4 x1_5 x1_6 x1_8 (((x1_3).set ((w64 ((((x1_6).l).getD (x1_9).toNat 0) - x1_0))).toNat true), true, (w64 (x1_9 + (1 : Int))))) :=
  runC_ok hm (A := aT [(1, .val (.bool true)), (7, .pur (Value.pointer (some ⟨(Nat.add (x1_6).num 64), (x1_9).toNat, some 1⟩))), (8, .ld (Value.int .i64 (((x1_6).l).getD (x1_9).toNat 0))), (14, .val (.bool true)), (19, .pur (Value.pointer (some ⟨2, ((x1_5).toNat * 1), none⟩))), (20, .ld (Value.bool ((x1_3).getD (x1_5).toNat (false)))), (22, .val (.bool true)), (28, .pur (Value.pointer (some ⟨2, (((w64 ((((x1_6).l).getD (x1_9).toNat 0) - x1_0))).toNat * 1), none⟩))), (29, .ld (Value.bool ((x1_3).getD ((w64 ((((x1_6).l).getD (x1_9).toNat 0) - x1_0))).toNat (false)))), (30, .val (.bool true)), (38, .pur (Value.pointer (some ⟨2, (((w64 ((((x1_6).l).getD (x1_9).toNat 0) - x1_0))).toNat * 1), none⟩))), (39, .sto (layT (rows rw_b ((x1_3).set ((w64 ((((x1_6).l).getD (x1_9).toNat 0) - x1_0))).toNat true))))]) (L := lT []) (wk := ⟨[1, 2, 3, 5, 9, 10, 11], [(0, 0, false), (1, 1, false), (2, 2, true), (3, 3, false)], 4, 2⟩)
    (ps := [(Value.bool (decide (x1_9 < x1_8))) = (Value.bool true),
    opIndexAddr P 32 (nlV x1_6) (Value.int .i64 x1_9) Ax.h0 = some ((Value.pointer (some ⟨(Nat.add (x1_6).num 64), (x1_9).toNat, some 1⟩)), Ax.h0),
    loadG P 3 (Value.pointer (some ⟨(Nat.add (x1_6).num 64), (x1_9).toNat, some 1⟩)) Ax.h0 = some ((Value.int .i64 (((x1_6).l).getD (x1_9).toNat 0)), Ax.h0),
    (Value.bool (decide ((((x1_6).l).getD (x1_9).toNat 0) ≥ x1_0))) = (Value.bool true),
    opIndexAddr P 35 (Value.slice (some ⟨2, 0, none⟩) x1_4 x1_4) (Value.int .i64 x1_5) Ax.h0 = some ((Value.pointer (some ⟨2, ((x1_5).toNat * 1), none⟩)), Ax.h0),
    (layT (rows rw_b x1_3)).get ((x1_5).toNat * 1) = some (Value.bool ((x1_3).getD (x1_5).toNat (false))),
    (Value.bool ((x1_3).getD (x1_5).toNat (false))) = (Value.bool true),
    opIndexAddr P 35 (Value.slice (some ⟨2, 0, none⟩) x1_4 x1_4) (Value.int .i64 (w64 ((((x1_6).l).getD (x1_9).toNat 0) - x1_0))) Ax.h0 = some ((Value.pointer (some ⟨2, (((w64 ((((x1_6).l).getD (x1_9).toNat 0) - x1_0))).toNat * 1), none⟩)), Ax.h0),
    (layT (rows rw_b x1_3)).get (((w64 ((((x1_6).l).getD (x1_9).toNat 0) - x1_0))).toNat * 1) = some (Value.bool ((x1_3).getD ((w64 ((((x1_6).l).getD (x1_9).toNat 0) - x1_0))).toNat (false))),
    (Value.bool (!((x1_3).getD ((w64 ((((x1_6).l).getD (x1_9).toNat 0) - x1_0))).toNat (false)))) = (Value.bool true),
    opIndexAddr P 35 (Value.slice (some ⟨2, 0, none⟩) x1_4 x1_4) (Value.int .i64 (w64 ((((x1_6).l).getD (x1_9).toNat 0) - x1_0))) Ax.h0 = some ((Value.pointer (some ⟨2, (((w64 ((((x1_6).l).getD (x1_9).toNat 0) - x1_0))).toNat * 1), none⟩)), Ax.h0),
    ∃ old, rdT (layT (rows rw_b x1_3)) 1 (((w64 ((((x1_6).l).getD (x1_9).toNat 0) - x1_0))).toNat * 1) = some old,
    layL [(Value.bool true)] (((w64 ((((x1_6).l).getD (x1_9).toNat 0) - x1_0))).toNat * 1) (layT (rows rw_b x1_3)) = layT (rows rw_b ((x1_3).set ((w64 ((((x1_6).l).getD (x1_9).toNat 0) - x1_0))).toNat true)),
    FlatB (.cells (layT (rows rw_b ((x1_3).set ((w64 ((((x1_6).l).getD (x1_9).toNat 0) - x1_0))).toNat true))) 4)]) (by kernel_rfl) ⟨(vbT hy1_1), (ixW1 (e := 3) (by kernel_rfl) (by kernel_rfl) hy1_2), (ldN x1_6 (by kernel_rfl) hy1_3), (vbT hy1_4), (ixS (e := 4) (by kernel_rfl) (by kernel_rfl) (hy1_5).1 (hy1_5).2), (rows_ld rwf_b (false) (i := (x1_5).toNat) (j := 0) ((x1_5).toNat * 1) rfl (hy1_6) (by decide) rfl), (vB hy1_7), (ixS (e := 4) (by kernel_rfl) (by kernel_rfl) (hy1_8).1 (hy1_8).2), (rows_ld rwf_b (false) (i := ((w64 ((((x1_6).l).getD (x1_9).toNat 0) - x1_0))).toNat) (j := 0) (((w64 ((((x1_6).l).getD (x1_9).toNat 0) - x1_0))).toNat * 1) rfl (hy1_9) (by decide) rfl), (vBn (Bool.eq_false_iff.2 hy1_10)), (ixS (e := 4) (by kernel_rfl) (by kernel_rfl) (hy1_8).1 (hy1_8).2), (Exists.elim (rows_st rwf_b (false) (i := ((w64 ((((x1_6).l).getD (x1_9).toNat 0) - x1_0))).toNat) (j := 0) (l := [(Value.bool true)]) true (((w64 ((((x1_6).l).getD (x1_9).toNat 0) - x1_0))).toNat * 1) rfl (hy1_9) (Nat.le_of_ble_eq_true rfl) rfl) fun o h => ⟨o, h.1⟩), (Exists.elim (rows_st rwf_b (false) (i := ((w64 ((((x1_6).l).getD (x1_9).toNat 0) - x1_0))).toNat) (j := 0) (l := [(Value.bool true)]) true (((w64 ((((x1_6).l).getD (x1_9).toNat 0) - x1_0))).toNat * 1) rfl (hy1_9) (Nat.le_of_ble_eq_true rfl) rfl) fun o h => h.2), (rows_flat rwf_b _ _), trivial⟩
set_option maxRecDepth 100000 in
theorem q_gramReachable1_1_2 (n : Nat) (x1_0 : Int) (x1_1 : Int) (x1_2 : Int) (x1_3 : List (Bool)) (x1_4 : Nat) (x1_5 : Int) (x1_6 : NL) (x1_7 : Bool) (x1_8 : Int) (x1_9 : Int) (hy1_1 : x1_9 < x1_8) (hy1_2 : 0 ≤ x1_9 ∧ x1_9 < (((x1_6).l.length : Nat) : Int)) (hy1_3 : (x1_9).toNat < ((x1_6).l).length) (hy1_4 : (((x1_6).l).getD (x1_9).toNat 0) ≥ x1_0) (hy1_5 : 0 ≤ x1_5 ∧ x1_5 < ((x1_4 : Nat) : Int)) (hy1_6 : (x1_5).toNat < (x1_3).length) (hy1_7 : ¬ (((x1_3).getD (x1_5).toNat (false)) = true)) : CG P none (fnN P 40) 3 (codeOf P 40 [false, false, true, false, true, true]) (S_gramReachable1_1 x1_0 x1_1 x1_2 x1_4 x1_5 x1_6 x1_8 (x1_3, x1_7, x1_9)) (.normal, S_gramReachable1_1 x1_0 x1_1 x1_2 x1_4 x1_5 x1_6 x1_8 (x1_3, x1_7, (w64 (x1_9 + (1 : Int))))) :=
  runC_ok hm (A := aT [(1, .val (.bool true)), (7, .pur (Value.pointer (some ⟨(Nat.add (x1_6).num 64), (x1_9).toNat, some 1⟩))), (8, .ld (Value.int .i64 (((x1_6).l).getD (x1_9).toNat 0))), (14, .val (.bool true)), (19, .pur (Value.pointer (some ⟨2, ((x1_5).toNat * 1), none⟩))), (20, .ld (Value.bool ((x1_3).getD (x1_5).toNat (false)))), (22, .val (.bool false))]) (L := lT []) (wk := ⟨[1, 2, 3, 5, 9, 10, 11], [(0, 0, false), (1, 1, false), (2, 2, true), (3, 3, false)], 4, 2⟩)
    (ps := [(Value.bool (decide (x1_9 < x1_8))) = (Value.bool true),
    opIndexAddr P 32 (nlV x1_6) (Value.int .i64 x1_9) Ax.h0 = some ((Value.pointer (some ⟨(Nat.add (x1_6).num 64), (x1_9).toNat, some 1⟩)), Ax.h0),
    loadG P 3 (Value.pointer (some ⟨(Nat.add (x1_6).num 64), (x1_9).toNat, some 1⟩)) Ax.h0 = some ((Value.int .i64 (((x1_6).l).getD (x1_9).toNat 0)), Ax.h0),
    (Value.bool (decide ((((x1_6).l).getD (x1_9).toNat 0) ≥ x1_0))) = (Value.bool true),
    opIndexAddr P 35 (Value.slice (some ⟨2, 0, none⟩) x1_4 x1_4) (Value.int .i64 x1_5) Ax.h0 = some ((Value.pointer (some ⟨2, ((x1_5).toNat * 1), none⟩)), Ax.h0),
    (layT (rows rw_b x1_3)).get ((x1_5).toNat * 1) = some (Value.bool ((x1_3).getD (x1_5).toNat (false))),
    (Value.bool ((x1_3).getD (x1_5).toNat (false))) = (Value.bool false),
    FlatB (.cells (layT (rows rw_b x1_3)) 4)]) (by kernel_rfl) ⟨(vbT hy1_1), (ixW1 (e := 3) (by kernel_rfl) (by kernel_rfl) hy1_2), (ldN x1_6 (by kernel_rfl) hy1_3), (vbT hy1_4), (ixS (e := 4) (by kernel_rfl) (by kernel_rfl) (hy1_5).1 (hy1_5).2), (rows_ld rwf_b (false) (i := (x1_5).toNat) (j := 0) ((x1_5).toNat * 1) rfl (hy1_6) (by decide) rfl), (vB (Bool.eq_false_iff.2 hy1_7)), (rows_flat rwf_b _ _), trivial⟩
set_option maxRecDepth 100000 in
theorem q_gramReachable1_1_3 (n : Nat) (x1_0 : Int) (x1_1 : Int) (x1_2 : Int) (x1_3 : List (Bool)) (x1_4 : Nat) (x1_5 : Int) (x1_6 : NL) (x1_7 : Bool) (x1_8 : Int) (x1_9 : Int) (hy1_1 : x1_9 < x1_8) (hy1_2 : 0 ≤ x1_9 ∧ x1_9 < (((x1_6).l.length : Nat) : Int)) (hy1_3 : (x1_9).toNat < ((x1_6).l).length) (hy1_4 : ¬ ((((x1_6).l).getD (x1_9).toNat 0) ≥ x1_0)) : CG P none (fnN P 40) 3 (codeOf P 40 [false, false, true, false, true, true]) (S_gramReachable1_1 x1_0 x1_1 x1_2 x1_4 x1_5 x1_6 x1_8 (x1_3, x1_7, x1_9)) (.normal, S_gramReachable1_1 x1_0 x1_1 x1_2 x1_4 x1_5 x1_6 x1_8 (x1_3, x1_7, (w64 (x1_9 + (1 : Int))))) :=
  runC_ok hm (A := aT [(1, .val (.bool true)), (7, .pur (Value.pointer (some ⟨(Nat.add (x1_6).num 64), (x1_9).toNat, some 1⟩))), (8, .ld (Value.int .i64 (((x1_6).l).getD (x1_9).toNat 0))), (14, .val (.bool false))]) (L := lT []) (wk := ⟨[1, 2, 3, 5, 9, 10, 11], [(0, 0, false), (1, 1, false), (2, 2, true), (3, 3, false)], 4, 2⟩)
    (ps := [(Value.bool (decide (x1_9 < x1_8))) = (Value.bool true),
    opIndexAddr P 32 (nlV x1_6) (Value.int .i64 x1_9) Ax.h0 = some ((Value.pointer (some ⟨(Nat.add (x1_6).num 64), (x1_9).toNat, some 1⟩)), Ax.h0),
    loadG P 3 (Value.pointer (some ⟨(Nat.add (x1_6).num 64), (x1_9).toNat, some 1⟩)) Ax.h0 = some ((Value.int .i64 (((x1_6).l).getD (x1_9).toNat 0)), Ax.h0),
    (Value.bool (decide ((((x1_6).l).getD (x1_9).toNat 0) ≥ x1_0))) = (Value.bool false),
    FlatB (.cells (layT (rows rw_b x1_3)) 4)]) (by kernel_rfl) ⟨(vbT hy1_1), (ixW1 (e := 3) (by kernel_rfl) (by kernel_rfl) hy1_2), (ldN x1_6 (by kernel_rfl) hy1_3), (vbF hy1_4), (rows_flat rwf_b _ _), trivial⟩
set_option maxRecDepth 100000 in
theorem q_gramReachable1_1_4 (n : Nat) (x1_0 : Int) (x1_1 : Int) (x1_2 : Int) (x1_3 : List (Bool)) (x1_4 : Nat) (x1_5 : Int) (x1_6 : NL) (x1_7 : Bool) (x1_8 : Int) (x1_9 : Int) (hy1_1 : ¬ (x1_9 < x1_8)) : CG P none (fnN P 40) 3 (codeOf P 40 [false, false, true, false, true, true]) (S_gramReachable1_1 x1_0 x1_1 x1_2 x1_4 x1_5 x1_6 x1_8 (x1_3, x1_7, x1_9)) (X_gramReachable1_1 x1_0 x1_1 x1_2 x1_4 x1_5 x1_6 x1_8 (x1_3, x1_7)) :=
  runC_ok hm (A := aT [(1, .val (.bool false))]) (L := lT []) (wk := ⟨[5], [(0, 0, false), (1, 1, false), (2, 2, true)], 3, 2⟩)
    (ps := [(Value.bool (decide (x1_9 < x1_8))) = (Value.bool false),
    FlatB (.cells (layT (rows rw_b x1_3)) 4)]) (by kernel_rfl) ⟨(vbF hy1_1), (rows_flat rwf_b _ _), trivial⟩
theorem m_gramReachable1_1_ok (n : Nat) (x1_0 : Int) (x1_1 : Int) (x1_2 : Int) (x1_4 : Nat) (x1_5 : Int) (x1_6 : NL) (x1_8 : Int) (st : List (Bool) × Bool × Int) (r : List (Bool) × Bool) (h : m_gramReachable1_1 n x1_0 x1_1 x1_2 x1_4 x1_5 x1_6 x1_8 st = some r) : CG P none (fnN P 40) 3 (codeOf P 40 [false, true, false, true, true]) (S_gramReachable1_1 x1_0 x1_1 x1_2 x1_4 x1_5 x1_6 x1_8 st) (X_gramReachable1_1 x1_0 x1_1 x1_2 x1_4 x1_5 x1_6 x1_8 r) :=
  CG.iter (b := codeOf P 40 [false, false, true, false, true, true]) (by kernel_rfl) (body := B_gramReachable1_1 n x1_0 x1_1 x1_2 x1_4 x1_5 x1_6 x1_8) (S := S_gramReachable1_1 x1_0 x1_1 x1_2 x1_4 x1_5 x1_6 x1_8) (X := X_gramReachable1_1 x1_0 x1_1 x1_2 x1_4 x1_5 x1_6 x1_8)
    (fun s s' h => by
    obtain ⟨x1_3, x1_7, x1_9⟩ := s
    unfold B_gramReachable1_1 at h
    dsimp only at h
    by_cases hy1_1 : x1_9 < x1_8
    · rw [if_pos hy1_1] at h
      by_cases hy1_2 : 0 ≤ x1_9 ∧ x1_9 < (((x1_6).l.length : Nat) : Int)
      · rw [if_pos hy1_2] at h
        by_cases hy1_3 : (x1_9).toNat < ((x1_6).l).length
        · rw [if_pos hy1_3] at h
          by_cases hy1_4 : (((x1_6).l).getD (x1_9).toNat 0) ≥ x1_0
          · rw [if_pos hy1_4] at h
            by_cases hy1_5 : 0 ≤ x1_5 ∧ x1_5 < ((x1_4 : Nat) : Int)
            · rw [if_pos hy1_5] at h
              by_cases hy1_6 : (x1_5).toNat < (x1_3).length
              · rw [if_pos hy1_6] at h
                by_cases hy1_7 : ((x1_3).getD (x1_5).toNat (false)) = true
                · rw [if_pos hy1_7] at h
                  by_cases hy1_8 : 0 ≤ (w64 ((((x1_6).l).getD (x1_9).toNat 0) - x1_0)) ∧ (w64 ((((x1_6).l).getD (x1_9).toNat 0) - x1_0)) < ((x1_4 : Nat) : Int)
                  · rw [if_pos hy1_8] at h
                    by_cases hy1_9 : ((w64 ((((x1_6).l).getD (x1_9).toNat 0) - x1_0))).toNat < (x1_3).length
                    · rw [if_pos hy1_9] at h
                      by_cases hy1_10 : ((x1_3).getD ((w64 ((((x1_6).l).getD (x1_9).toNat 0) - x1_0))).toNat (false)) = true
                      · rw [if_pos hy1_10] at h
                        obtain rfl := Sum.inl.inj (Option.some.inj h); exact q_gramReachable1_1_0 n x1_0 x1_1 x1_2 x1_3 x1_4 x1_5 x1_6 x1_7 x1_8 x1_9 hy1_1 hy1_2 hy1_3 hy1_4 hy1_5 hy1_6 hy1_7 hy1_8 hy1_9 hy1_10
                      · rw [if_neg hy1_10] at h
                        obtain rfl := Sum.inl.inj (Option.some.inj h); exact q_gramReachable1_1_1 n x1_0 x1_1 x1_2 x1_3 x1_4 x1_5 x1_6 x1_7 x1_8 x1_9 hy1_1 hy1_2 hy1_3 hy1_4 hy1_5 hy1_6 hy1_7 hy1_8 hy1_9 hy1_10
                    · rw [if_neg hy1_9] at h; cases h
                  · rw [if_neg hy1_8] at h; cases h
                · rw [if_neg hy1_7] at h
                  obtain rfl := Sum.inl.inj (Option.some.inj h); exact q_gramReachable1_1_2 n x1_0 x1_1 x1_2 x1_3 x1_4 x1_5 x1_6 x1_7 x1_8 x1_9 hy1_1 hy1_2 hy1_3 hy1_4 hy1_5 hy1_6 hy1_7
              · rw [if_neg hy1_6] at h; cases h
            · rw [if_neg hy1_5] at h; cases h
          · rw [if_neg hy1_4] at h
            obtain rfl := Sum.inl.inj (Option.some.inj h); exact q_gramReachable1_1_3 n x1_0 x1_1 x1_2 x1_3 x1_4 x1_5 x1_6 x1_7 x1_8 x1_9 hy1_1 hy1_2 hy1_3 hy1_4
        · rw [if_neg hy1_3] at h; cases h
      · rw [if_neg hy1_2] at h; cases h
    · rw [if_neg hy1_1] at h
      cases h)
    (fun s r h => by
    obtain ⟨x1_3, x1_7, x1_9⟩ := s
    unfold B_gramReachable1_1 at h
    dsimp only at h
    by_cases hy1_1 : x1_9 < x1_8
    · rw [if_pos hy1_1] at h
      by_cases hy1_2 : 0 ≤ x1_9 ∧ x1_9 < (((x1_6).l.length : Nat) : Int)
      · rw [if_pos hy1_2] at h
        by_cases hy1_3 : (x1_9).toNat < ((x1_6).l).length
        · rw [if_pos hy1_3] at h
          by_cases hy1_4 : (((x1_6).l).getD (x1_9).toNat 0) ≥ x1_0
          · rw [if_pos hy1_4] at h
            by_cases hy1_5 : 0 ≤ x1_5 ∧ x1_5 < ((x1_4 : Nat) : Int)
            · rw [if_pos hy1_5] at h
              by_cases hy1_6 : (x1_5).toNat < (x1_3).length
              · rw [if_pos hy1_6] at h
                by_cases hy1_7 : ((x1_3).getD (x1_5).toNat (false)) = true
                · rw [if_pos hy1_7] at h
                  by_cases hy1_8 : 0 ≤ (w64 ((((x1_6).l).getD (x1_9).toNat 0) - x1_0)) ∧ (w64 ((((x1_6).l).getD (x1_9).toNat 0) - x1_0)) < ((x1_4 : Nat) : Int)
                  · rw [if_pos hy1_8] at h
                    by_cases hy1_9 : ((w64 ((((x1_6).l).getD (x1_9).toNat 0) - x1_0))).toNat < (x1_3).length
                    · rw [if_pos hy1_9] at h
                      by_cases hy1_10 : ((x1_3).getD ((w64 ((((x1_6).l).getD (x1_9).toNat 0) - x1_0))).toNat (false)) = true
                      · rw [if_pos hy1_10] at h
                        cases h
                      · rw [if_neg hy1_10] at h
                        cases h
                    · rw [if_neg hy1_9] at h; cases h
                  · rw [if_neg hy1_8] at h; cases h
                · rw [if_neg hy1_7] at h
                  cases h
              · rw [if_neg hy1_6] at h; cases h
            · rw [if_neg hy1_5] at h; cases h
          · rw [if_neg hy1_4] at h
            cases h
        · rw [if_neg hy1_3] at h; cases h
      · rw [if_neg hy1_2] at h; cases h
    · rw [if_neg hy1_1] at h
      obtain rfl := Sum.inr.inj (Option.some.inj h); exact q_gramReachable1_1_4 n x1_0 x1_1 x1_2 x1_3 x1_4 x1_5 x1_6 x1_7 x1_8 x1_9 hy1_1)
    (fun r => by intro hx; cases hx) h
noncomputable def A_gramReachable1 (pl : Int) (pr : NL) (sn : Nat) (gT : Int) (gN : Int) (gK : Int) (L : List (Bool)) : List Value := [(Value.agg #[(Value.int .i64 pl), (nlV pr)]), (Value.pointer (some ⟨0, 0, none⟩)), (Value.pointer (some ⟨1, 0, none⟩))]
noncomputable def H_gramReachable1 (pl : Int) (pr : NL) (sn : Nat) (gT : Int) (gN : Int) (gK : Int) (L : List (Bool)) : AH := ⟨sB [(0, (some (.cells (layT [(Value.int .i64 gT), (Value.int .i64 gN), (Value.int .i64 gK), (Value.slice (some ⟨0, 0, some 1⟩) (Args.G).length Args.cG)]) 24))), (1, (some (.cells (layT [(Value.slice (some ⟨2, 0, none⟩) sn sn)]) 35))), (2, (some (.cells (layT (rows rw_b L)) 4)))], 3, 3⟩
noncomputable def V_gramReachable1 (pl : Int) (pr : NL) (sn : Nat) (gT : Int) (gN : Int) (gK : Int) (L : List (Bool)) (r : List (Bool) × Bool) : Value := match r with
  | (o0, o1) => (Value.bool o1)
noncomputable def R_gramReachable1 (pl : Int) (pr : NL) (sn : Nat) (gT : Int) (gN : Int) (gK : Int) (L : List (Bool)) (r : List (Bool) × Bool) : AH := match r with
  | (o0, o1) => ⟨sB [(2, (some (.cells (layT (rows rw_b o0)) 4)))], 3, 2⟩
def m_gramReachable1 (n : Nat) (pl : Int) (pr : NL) (sn : Nat) (gT : Int) (gN : Int) (gK : Int) (L : List (Bool)) : Option (List (Bool) × Bool) :=
  (m_gramReachable1_1 n gT gN gK sn pl pr (((pr).l.length : Nat) : Int) (L, false, 0)).bind fun t => match t with
  | (c1_0, c1_1) =>
    some (c1_0, c1_1)
set_option maxRecDepth 100000 in
theorem p_gramReachable1_0 (n : Nat) (pl : Int) (pr : NL) (sn : Nat) (gT : Int) (gN : Int) (gK : Int) (L : List (Bool)) (c1_0 : List (Bool)) (c1_1 : Bool) (hc1 : m_gramReachable1_1 n gT gN gK sn pl pr (((pr).l.length : Nat) : Int) (L, false, 0) = some (c1_0, c1_1)) : Gv P (.func 40) (A_gramReachable1 pl pr sn gT gN gK L) (H_gramReachable1 pl pr sn gT gN gK L) (V_gramReachable1 pl pr sn gT gN gK L (c1_0, c1_1)) (R_gramReachable1 pl pr sn gT gN gK L (c1_0, c1_1)) :=
  runF_ok hm (A := aT []) (L := lT [(12, ⟨⟨[1, 2, 3, 5, 9, 10, 11], [(0, 0, false), (1, 1, false), (2, 2, true), (3, 3, false)], 4, 2⟩, (X_gramReachable1_1 gT gN gK sn pl pr (((pr).l.length : Nat) : Int) (c1_0, c1_1)).1, (X_gramReachable1_1 gT gN gK sn pl pr (((pr).l.length : Nat) : Int) (c1_0, c1_1)).2⟩)]) (wk := ⟨[4], [(2, 2, true)], 3, 2⟩)
    (ps := [CG P none (fnN P 40) 3 (codeOf P 40 [false, true, false, true, true]) (S_gramReachable1_1 gT gN gK sn pl pr (((pr).l.length : Nat) : Int) (L, false, 0)) (X_gramReachable1_1 gT gN gK sn pl pr (((pr).l.length : Nat) : Int) (c1_0, c1_1)),
    FlatB (.cells (layT (rows rw_b L)) 4),
    FlatB (.cells (layT (rows rw_b c1_0)) 4)]) (by kernel_rfl) ⟨(m_gramReachable1_1_ok n gT gN gK sn pl pr (((pr).l.length : Nat) : Int) (L, false, 0) (c1_0, c1_1) hc1), (rows_flat rwf_b _ _), (rows_flat rwf_b _ _), trivial⟩
theorem m_gramReachable1_ok (n : Nat) (pl : Int) (pr : NL) (sn : Nat) (gT : Int) (gN : Int) (gK : Int) (L : List (Bool)) (r : List (Bool) × Bool) (h : m_gramReachable1 n pl pr sn gT gN gK L = some r) : Gv P (.func 40) (A_gramReachable1 pl pr sn gT gN gK L) (H_gramReachable1 pl pr sn gT gN gK L) (V_gramReachable1 pl pr sn gT gN gK L r) (R_gramReachable1 pl pr sn gT gN gK L r) := by
  unfold m_gramReachable1 at h
  obtain ⟨⟨c1_0, c1_1⟩, hc1, h⟩ := Option.bind_eq_some_iff.1 h
  dsimp only at h
  obtain rfl := Option.some.inj h; exact p_gramReachable1_0 n pl pr sn gT gN gK L c1_0 c1_1 hc1

noncomputable def S_gramuntilapiProdr_2 (x2_0 : Int) (x2_1 : Int) (x2_2 : Int) (x2_4 : Nat) (x2_6 : Int) (st : List (Bool) × Bool × Int) : XSt := match st with
  | (x2_3, x2_5, x2_7) => (sT 18 [(0, (Value.slice (some ⟨0, 0, some 1⟩) (Args.G).length Args.cG)), (1, (Value.func (.func 40) #[] #[(Value.pointer (some ⟨0, 0, none⟩)), (Value.pointer (some ⟨1, 0, none⟩))])), (4, (Value.bool x2_5)), (8, (Value.slice (some ⟨0, 0, some 1⟩) (Args.G).length Args.cG)), (9, (Value.int .i64 x2_6)), (10, (Value.int .i64 x2_7))], [], ⟨sB [(0, (some (.cells (layT [(Value.int .i64 x2_0), (Value.int .i64 x2_1), (Value.int .i64 x2_2), (Value.slice (some ⟨0, 0, some 1⟩) (Args.G).length Args.cG)]) 24))), (1, (some (.cells (layT [(Value.slice (some ⟨2, 0, none⟩) x2_4 x2_4)]) 35))), (2, (some (.cells (layT (rows rw_b x2_3)) 4)))], 3, 2⟩)
noncomputable def X_gramuntilapiProdr_2 (x2_0 : Int) (x2_1 : Int) (x2_2 : Int) (x2_4 : Nat) (x2_6 : Int) (r : List (Bool) × Bool) : Ex × XSt := match r with
  | (z2_0, z2_1) => (.exit 2, (sT 18 [(0, (Value.slice (some ⟨0, 0, some 1⟩) (Args.G).length Args.cG)), (1, (Value.func (.func 40) #[] #[(Value.pointer (some ⟨0, 0, none⟩)), (Value.pointer (some ⟨1, 0, none⟩))])), (4, (Value.bool z2_1))], [], ⟨sB [(0, (some (.cells (layT [(Value.int .i64 x2_0), (Value.int .i64 x2_1), (Value.int .i64 x2_2), (Value.slice (some ⟨0, 0, some 1⟩) (Args.G).length Args.cG)]) 24))), (1, (some (.cells (layT [(Value.slice (some ⟨2, 0, none⟩) x2_4 x2_4)]) 35))), (2, (some (.cells (layT (rows rw_b z2_0)) 4)))], 3, 2⟩))
def B_gramuntilapiProdr_2 (n : Nat) (x2_0 : Int) (x2_1 : Int) (x2_2 : Int) (x2_4 : Nat) (x2_6 : Int) (st : List (Bool) × Bool × Int) : Option ((List (Bool) × Bool × Int) ⊕ (List (Bool) × Bool)) := match st with
  | (x2_3, x2_5, x2_7) =>
    if x2_7 < x2_6 then
      if 0 ≤ x2_7 ∧ x2_7 < (((Args.G).length : Nat) : Int) then
        (m_gramReachable1 n (((Args.G).getD (x2_7).toNat (0, nl0)).1) (((Args.G).getD (x2_7).toNat (0, nl0)).2) x2_4 x2_0 x2_1 x2_2 x2_3).bind fun t => match t with
        | (y2_3_0, y2_3_1) =>
          if y2_3_1 = true then
            some (.inl (y2_3_0, true, (w64 (x2_7 + (1 : Int)))))
          else
            some (.inl (y2_3_0, x2_5, (w64 (x2_7 + (1 : Int)))))
      else none
    else
      some (.inr (x2_3, x2_5))
def m_gramuntilapiProdr_2 (n : Nat) (x2_0 : Int) (x2_1 : Int) (x2_2 : Int) (x2_4 : Nat) (x2_6 : Int) (st : List (Bool) × Bool × Int) : Option (List (Bool) × Bool) := iterM (B_gramuntilapiProdr_2 n x2_0 x2_1 x2_2 x2_4 x2_6) n st
set_option maxRecDepth 100000 in
theorem q_gramuntilapiProdr_2_0 (n : Nat) (x2_0 : Int) (x2_1 : Int) (x2_2 : Int) (x2_3 : List (Bool)) (x2_4 : Nat) (x2_5 : Bool) (x2_6 : Int) (x2_7 : Int) (hy2_1 : x2_7 < x2_6) (hy2_2 : 0 ≤ x2_7 ∧ x2_7 < (((Args.G).length : Nat) : Int)) (y2_3_0 : List (Bool)) (y2_3_1 : Bool) (hy2_3 : m_gramReachable1 n (((Args.G).getD (x2_7).toNat (0, nl0)).1) (((Args.G).getD (x2_7).toNat (0, nl0)).2) x2_4 x2_0 x2_1 x2_2 x2_3 = some (y2_3_0, y2_3_1)) (hy2_4 : y2_3_1 = true) : CG P none (fnN P 39) 3 (codeOf P 39 [false, false, true, true, false, true, false, false, true]) (S_gramuntilapiProdr_2 x2_0 x2_1 x2_2 x2_4 x2_6 (x2_3, x2_5, x2_7)) (.normal, S_gramuntilapiProdr_2 x2_0 x2_1 x2_2 x2_4 x2_6 (y2_3_0, true, (w64 (x2_7 + (1 : Int))))) :=
  runC_ok hm (A := aT [(1, .val (.bool true)), (7, .pur (Value.pointer (some ⟨0, ((x2_7).toNat * 2), some 1⟩))), (8, .ld (Value.agg #[(Value.int .i64 (((Args.G).getD (x2_7).toNat (0, nl0)).1)), (nlV (((Args.G).getD (x2_7).toNat (0, nl0)).2))])), (14, .call ⟨3, [(0, 0, false), (1, 1, false), (2, 2, true)], (V_gramReachable1 (((Args.G).getD (x2_7).toNat (0, nl0)).1) (((Args.G).getD (x2_7).toNat (0, nl0)).2) x2_4 x2_0 x2_1 x2_2 x2_3 (y2_3_0, y2_3_1)), (R_gramReachable1 (((Args.G).getD (x2_7).toNat (0, nl0)).1) (((Args.G).getD (x2_7).toNat (0, nl0)).2) x2_4 x2_0 x2_1 x2_2 x2_3 (y2_3_0, y2_3_1)), [(2, 2, true)]⟩), (15, .val (.bool true))]) (L := lT []) (wk := ⟨[0, 1, 4, 8, 9, 10], [(0, 0, false), (1, 1, false), (2, 2, true)], 3, 2⟩)
    (ps := [(Value.bool (decide (x2_7 < x2_6))) = (Value.bool true),
    opIndexAddr P 22 (Value.slice (some ⟨0, 0, some 1⟩) (Args.G).length Args.cG) (Value.int .i64 x2_7) Ax.h0 = some ((Value.pointer (some ⟨0, ((x2_7).toNat * 2), some 1⟩)), Ax.h0),
    loadG P 41 (Value.pointer (some ⟨0, ((x2_7).toNat * 2), some 1⟩)) Ax.h0 = some ((Value.agg #[(Value.int .i64 (((Args.G).getD (x2_7).toNat (0, nl0)).1)), (nlV (((Args.G).getD (x2_7).toNat (0, nl0)).2))]), Ax.h0),
    Gv P (.func 40) (A_gramReachable1 (((Args.G).getD (x2_7).toNat (0, nl0)).1) (((Args.G).getD (x2_7).toNat (0, nl0)).2) x2_4 x2_0 x2_1 x2_2 x2_3) (H_gramReachable1 (((Args.G).getD (x2_7).toNat (0, nl0)).1) (((Args.G).getD (x2_7).toNat (0, nl0)).2) x2_4 x2_0 x2_1 x2_2 x2_3) (V_gramReachable1 (((Args.G).getD (x2_7).toNat (0, nl0)).1) (((Args.G).getD (x2_7).toNat (0, nl0)).2) x2_4 x2_0 x2_1 x2_2 x2_3 (y2_3_0, y2_3_1)) (R_gramReachable1 (((Args.G).getD (x2_7).toNat (0, nl0)).1) (((Args.G).getD (x2_7).toNat (0, nl0)).2) x2_4 x2_0 x2_1 x2_2 x2_3 (y2_3_0, y2_3_1)),
    FlatB (.cells (layT (rows rw_b x2_3)) 4),
    FlatB (.cells (layT (rows rw_b y2_3_0)) 4),
    (Value.bool y2_3_1) = (Value.bool true),
    FlatB (.cells (layT (rows rw_b y2_3_0)) 4)]) (by kernel_rfl) ⟨(vbT hy2_1), (ixW (e := 41) (by kernel_rfl) (by kernel_rfl) (hy2_2).1 (hy2_2).2), (ldWA rwf_iL (0, nl0) (i := (x2_7).toNat) (q := 0) (L := Args.G) (n := 2) ((x2_7).toNat * 2) rfl rfl (by kernel_rfl) (by kernel_rfl) (toNatLt hy2_2) (by decide) rfl), (m_gramReachable1_ok n (((Args.G).getD (x2_7).toNat (0, nl0)).1) (((Args.G).getD (x2_7).toNat (0, nl0)).2) x2_4 x2_0 x2_1 x2_2 x2_3 (y2_3_0, y2_3_1) hy2_3), (rows_flat rwf_b _ _), (rows_flat rwf_b _ _), (vB hy2_4), (rows_flat rwf_b _ _), trivial⟩
set_option maxRecDepth 100000 in
theorem q_gramuntilapiProdr_2_1 (n : Nat) (x2_0 : Int) (x2_1 : Int) (x2_2 : Int) (x2_3 : List (Bool)) (x2_4 : Nat) (x2_5 : Bool) (x2_6 : Int) (x2_7 : Int) (hy2_1 : x2_7 < x2_6) (hy2_2 : 0 ≤ x2_7 ∧ x2_7 < (((Args.G).length : Nat) : Int)) (y2_3_0 : List (Bool)) (y2_3_1 : Bool) (hy2_3 : m_gramReachable1 n (((Args.G).getD (x2_7).toNat (0, nl0)).1) (((Args.G).getD (x2_7).toNat (0, nl0)).2) x2_4 x2_0 x2_1 x2_2 x2_3 = some (y2_3_0, y2_3_1)) (hy2_4 : ¬ (y2_3_1 = true)) : CG P none (fnN P 39) 3 (codeOf P 39 [false, false, true, true, false, true, false, false, true]) (S_gramuntilapiProdr_2 x2_0 x2_1 x2_2 x2_4 x2_6 (x2_3, x2_5, x2_7)) (.normal, S_gramuntilapiProdr_2 x2_0 x2_1 x2_2 x2_4 x2_6 (y2_3_0, x2_5, (w64 (x2_7 + (1 : Int))))) :=
  runC_ok hm (A := aT [(1, .val (.bool true)), (7, .pur (Value.pointer (some ⟨0, ((x2_7).toNat * 2), some 1⟩))), (8, .ld (Value.agg #[(Value.int .i64 (((Args.G).getD (x2_7).toNat (0, nl0)).1)), (nlV (((Args.G).getD (x2_7).toNat (0, nl0)).2))])), (14, .call ⟨3, [(0, 0, false), (1, 1, false), (2, 2, true)], (V_gramReachable1 (((Args.G).getD (x2_7).toNat (0, nl0)).1) (((Args.G).getD (x2_7).toNat (0, nl0)).2) x2_4 x2_0 x2_1 x2_2 x2_3 (y2_3_0, y2_3_1)), (R_gramReachable1 (((Args.G).getD (x2_7).toNat (0, nl0)).1) (((Args.G).getD (x2_7).toNat (0, nl0)).2) x2_4 x2_0 x2_1 x2_2 x2_3 (y2_3_0, y2_3_1)), [(2, 2, true)]⟩), (15, .val (.bool false))]) (L := lT []) (wk := ⟨[0, 1, 4, 8, 9, 10], [(0, 0, false), (1, 1, false), (2, 2, true)], 3, 2⟩)
    (ps := [(Value.bool (decide (x2_7 < x2_6))) = (Value.bool true),
    opIndexAddr P 22 (Value.slice (some ⟨0, 0, some 1⟩) (Args.G).length Args.cG) (Value.int .i64 x2_7) Ax.h0 = some ((Value.pointer (some ⟨0, ((x2_7).toNat * 2), some 1⟩)), Ax.h0),
    loadG P 41 (Value.pointer (some ⟨0, ((x2_7).toNat * 2), some 1⟩)) Ax.h0 = some ((Value.agg #[(Value.int .i64 (((Args.G).getD (x2_7).toNat (0, nl0)).1)), (nlV (((Args.G).getD (x2_7).toNat (0, nl0)).2))]), Ax.h0),
    Gv P (.func 40) (A_gramReachable1 (((Args.G).getD (x2_7).toNat (0, nl0)).1) (((Args.G).getD (x2_7).toNat (0, nl0)).2) x2_4 x2_0 x2_1 x2_2 x2_3) (H_gramReachable1 (((Args.G).getD (x2_7).toNat (0, nl0)).1) (((Args.G).getD (x2_7).toNat (0, nl0)).2) x2_4 x2_0 x2_1 x2_2 x2_3) (V_gramReachable1 (((Args.G).getD (x2_7).toNat (0, nl0)).1) (((Args.G).getD (x2_7).toNat (0, nl0)).2) x2_4 x2_0 x2_1 x2_2 x2_3 (y2_3_0, y2_3_1)) (R_gramReachable1 (((Args.G).getD (x2_7).toNat (0, nl0)).1) (((Args.G).getD (x2_7).toNat (0, nl0)).2) x2_4 x2_0 x2_1 x2_2 x2_3 (y2_3_0, y2_3_1)),
    FlatB (.cells (layT (rows rw_b x2_3)) 4),
    FlatB (.cells (layT (rows rw_b y2_3_0)) 4),
    (Value.bool y2_3_1) = (Value.bool false),
    FlatB (.cells (layT (rows rw_b y2_3_0)) 4)]) (by kernel_rfl) ⟨(vbT hy2_1), (ixW (e := 41) (by kernel_rfl) (by kernel_rfl) (hy2_2).1 (hy2_2).2), (ldWA rwf_iL (0, nl0) (i := (x2_7).toNat) (q := 0) (L := Args.G) (n := 2) ((x2_7).toNat * 2) rfl rfl (by kernel_rfl) (by kernel_rfl) (toNatLt hy2_2) (by decide) rfl), (m_gramReachable1_ok n (((Args.G).getD (x2_7).toNat (0, nl0)).1) (((Args.G).getD (x2_7).toNat (0, nl0)).2) x2_4 x2_0 x2_1 x2_2 x2_3 (y2_3_0, y2_3_1) hy2_3), (rows_flat rwf_b _ _), (rows_flat rwf_b _ _), (vB (Bool.eq_false_iff.2 hy2_4)), (rows_flat rwf_b _ _), trivial⟩
set_option maxRecDepth 100000 in
theorem q_gramuntilapiProdr_2_2 (n : Nat) (x2_0 : Int) (x2_1 : Int) (x2_2 : Int) (x2_3 : List (Bool)) (x2_4 : Nat) (x2_5 : Bool) (x2_6 : Int) (x2_7 : Int) (hy2_1 : ¬ (x2_7 < x2_6)) : CG P none (fnN P 39) 3 (codeOf P 39 [false, false, true, true, false, true, false, false, true]) (S_gramuntilapiProdr_2 x2_0 x2_1 x2_2 x2_4 x2_6 (x2_3, x2_5, x2_7)) (X_gramuntilapiProdr_2 x2_0 x2_1 x2_2 x2_4 x2_6 (x2_3, x2_5)) :=
  runC_ok hm (A := aT [(1, .val (.bool false))]) (L := lT []) (wk := ⟨[0, 1, 4], [(0, 0, false), (1, 1, false), (2, 2, true)], 3, 2⟩)
    (ps := [(Value.bool (decide (x2_7 < x2_6))) = (Value.bool false),
    FlatB (.cells (layT (rows rw_b x2_3)) 4)]) (by kernel_rfl) ⟨(vbF hy2_1), (rows_flat rwf_b _ _), trivial⟩
theorem m_gramuntilapiProdr_2_ok (n : Nat) (x2_0 : Int) (x2_1 : Int) (x2_2 : Int) (x2_4 : Nat) (x2_6 : Int) (st : List (Bool) × Bool × Int) (r : List (Bool) × Bool) (h : m_gramuntilapiProdr_2 n x2_0 x2_1 x2_2 x2_4 x2_6 st = some r) : CG P none (fnN P 39) 3 (codeOf P 39 [false, true, true, false, true, false, false, true]) (S_gramuntilapiProdr_2 x2_0 x2_1 x2_2 x2_4 x2_6 st) (X_gramuntilapiProdr_2 x2_0 x2_1 x2_2 x2_4 x2_6 r) :=
  CG.iter (b := codeOf P 39 [false, false, true, true, false, true, false, false, true]) (by kernel_rfl) (body := B_gramuntilapiProdr_2 n x2_0 x2_1 x2_2 x2_4 x2_6) (S := S_gramuntilapiProdr_2 x2_0 x2_1 x2_2 x2_4 x2_6) (X := X_gramuntilapiProdr_2 x2_0 x2_1 x2_2 x2_4 x2_6)
    (fun s s' h => by
    obtain ⟨x2_3, x2_5, x2_7⟩ := s
    unfold B_gramuntilapiProdr_2 at h
    dsimp only at h
    by_cases hy2_1 : x2_7 < x2_6
    · rw [if_pos hy2_1] at h
      by_cases hy2_2 : 0 ≤ x2_7 ∧ x2_7 < (((Args.G).length : Nat) : Int)
      · rw [if_pos hy2_2] at h
        obtain ⟨⟨y2_3_0, y2_3_1⟩, hy2_3, h⟩ := Option.bind_eq_some_iff.1 h
        dsimp only at h
        by_cases hy2_4 : y2_3_1 = true
        · rw [if_pos hy2_4] at h
          obtain rfl := Sum.inl.inj (Option.some.inj h); exact q_gramuntilapiProdr_2_0 n x2_0 x2_1 x2_2 x2_3 x2_4 x2_5 x2_6 x2_7 hy2_1 hy2_2 y2_3_0 y2_3_1 hy2_3 hy2_4
        · rw [if_neg hy2_4] at h
          obtain rfl := Sum.inl.inj (Option.some.inj h); exact q_gramuntilapiProdr_2_1 n x2_0 x2_1 x2_2 x2_3 x2_4 x2_5 x2_6 x2_7 hy2_1 hy2_2 y2_3_0 y2_3_1 hy2_3 hy2_4
      · rw [if_neg hy2_2] at h; cases h
    · rw [if_neg hy2_1] at h
      cases h)
    (fun s r h => by
    obtain ⟨x2_3, x2_5, x2_7⟩ := s
    unfold B_gramuntilapiProdr_2 at h
    dsimp only at h
    by_cases hy2_1 : x2_7 < x2_6
    · rw [if_pos hy2_1] at h
      by_cases hy2_2 : 0 ≤ x2_7 ∧ x2_7 < (((Args.G).length : Nat) : Int)
      · rw [if_pos hy2_2] at h
        obtain ⟨⟨y2_3_0, y2_3_1⟩, hy2_3, h⟩ := Option.bind_eq_some_iff.1 h
        dsimp only at h
        by_cases hy2_4 : y2_3_1 = true
        · rw [if_pos hy2_4] at h
          cases h
        · rw [if_neg hy2_4] at h
          cases h
      · rw [if_neg hy2_2] at h; cases h
    · rw [if_neg hy2_1] at h
      obtain rfl := Sum.inr.inj (Option.some.inj h); exact q_gramuntilapiProdr_2_2 n x2_0 x2_1 x2_2 x2_3 x2_4 x2_5 x2_6 x2_7 hy2_1)
    (fun r => by intro hx; cases hx) h
noncomputable def S_gramuntilapiProdr_1 (x1_0 : Int) (x1_1 : Int) (x1_2 : Int) (x1_4 : Nat) (st : List (Bool) × Bool) : XSt := match st with
  | (x1_3, x1_5) => (sT 18 [(0, (Value.slice (some ⟨0, 0, some 1⟩) (Args.G).length Args.cG)), (1, (Value.func (.func 40) #[] #[(Value.pointer (some ⟨0, 0, none⟩)), (Value.pointer (some ⟨1, 0, none⟩))])), (4, (Value.bool x1_5))], [], ⟨sB [(0, (some (.cells (layT [(Value.int .i64 x1_0), (Value.int .i64 x1_1), (Value.int .i64 x1_2), (Value.slice (some ⟨0, 0, some 1⟩) (Args.G).length Args.cG)]) 24))), (1, (some (.cells (layT [(Value.slice (some ⟨2, 0, none⟩) x1_4 x1_4)]) 35))), (2, (some (.cells (layT (rows rw_b x1_3)) 4)))], 3, 2⟩)
noncomputable def X_gramuntilapiProdr_1 (x1_0 : Int) (x1_1 : Int) (x1_2 : Int) (x1_4 : Nat) (r : List (Bool)) : Ex × XSt := match r with
  | z1_0 => (.exit 0, (sT 18 [], [], ⟨sB [(0, (some (.cells (layT [(Value.int .i64 x1_0), (Value.int .i64 x1_1), (Value.int .i64 x1_2), (Value.slice (some ⟨0, 0, some 1⟩) (Args.G).length Args.cG)]) 24))), (1, (some (.cells (layT [(Value.slice (some ⟨2, 0, none⟩) x1_4 x1_4)]) 35))), (2, (some (.cells (layT (rows rw_b z1_0)) 4)))], 3, 2⟩))
def B_gramuntilapiProdr_1 (n : Nat) (x1_0 : Int) (x1_1 : Int) (x1_2 : Int) (x1_4 : Nat) (st : List (Bool) × Bool) : Option ((List (Bool) × Bool) ⊕ (List (Bool))) := match st with
  | (x1_3, x1_5) =>
    if x1_5 = true then
      (m_gramuntilapiProdr_2 n x1_0 x1_1 x1_2 x1_4 (((Args.G).length : Nat) : Int) (x1_3, false, 0)).bind fun t => match t with
      | (y1_2_0, y1_2_1) =>
        some (.inl (y1_2_0, y1_2_1))
    else
      some (.inr x1_3)
def m_gramuntilapiProdr_1 (n : Nat) (x1_0 : Int) (x1_1 : Int) (x1_2 : Int) (x1_4 : Nat) (st : List (Bool) × Bool) : Option (List (Bool)) := iterM (B_gramuntilapiProdr_1 n x1_0 x1_1 x1_2 x1_4) n st
set_option maxRecDepth 100000 in
theorem q_gramuntilapiProdr_1_0 (n : Nat) (x1_0 : Int) (x1_1 : Int) (x1_2 : Int) (x1_3 : List (Bool)) (x1_4 : Nat) (x1_5 : Bool) (hy1_1 : x1_5 = true) (y1_2_0 : List (Bool)) (y1_2_1 : Bool) (hy1_2 : m_gramuntilapiProdr_2 n x1_0 x1_1 x1_2 x1_4 (((Args.G).length : Nat) : Int) (x1_3, false, 0) = some (y1_2_0, y1_2_1)) : CG P none (fnN P 39) 3 (codeOf P 39 [false, false, true]) (S_gramuntilapiProdr_1 x1_0 x1_1 x1_2 x1_4 (x1_3, x1_5)) (.normal, S_gramuntilapiProdr_1 x1_0 x1_1 x1_2 x1_4 (y1_2_0, y1_2_1)) :=
  runC_ok hm (A := aT [(3, .val (.bool true))]) (L := lT [(12, ⟨⟨[0, 1, 4, 8, 9, 10], [(0, 0, false), (1, 1, false), (2, 2, true)], 3, 2⟩, (X_gramuntilapiProdr_2 x1_0 x1_1 x1_2 x1_4 (((Args.G).length : Nat) : Int) (y1_2_0, y1_2_1)).1, (X_gramuntilapiProdr_2 x1_0 x1_1 x1_2 x1_4 (((Args.G).length : Nat) : Int) (y1_2_0, y1_2_1)).2⟩)]) (wk := ⟨[0, 1, 4], [(0, 0, false), (1, 1, false), (2, 2, true)], 3, 2⟩)
    (ps := [(Value.bool x1_5) = (Value.bool true),
    CG P none (fnN P 39) 3 (codeOf P 39 [false, true, true, false, true, false, false, true]) (S_gramuntilapiProdr_2 x1_0 x1_1 x1_2 x1_4 (((Args.G).length : Nat) : Int) (x1_3, false, 0)) (X_gramuntilapiProdr_2 x1_0 x1_1 x1_2 x1_4 (((Args.G).length : Nat) : Int) (y1_2_0, y1_2_1)),
    FlatB (.cells (layT (rows rw_b x1_3)) 4),
    FlatB (.cells (layT (rows rw_b y1_2_0)) 4)]) (by kernel_rfl) ⟨(vB hy1_1), (m_gramuntilapiProdr_2_ok n x1_0 x1_1 x1_2 x1_4 (((Args.G).length : Nat) : Int) (x1_3, false, 0) (y1_2_0, y1_2_1) hy1_2), (rows_flat rwf_b _ _), (rows_flat rwf_b _ _), trivial⟩
set_option maxRecDepth 100000 in
theorem q_gramuntilapiProdr_1_1 (n : Nat) (x1_0 : Int) (x1_1 : Int) (x1_2 : Int) (x1_3 : List (Bool)) (x1_4 : Nat) (x1_5 : Bool) (hy1_1 : ¬ (x1_5 = true)) : CG P none (fnN P 39) 3 (codeOf P 39 [false, false, true]) (S_gramuntilapiProdr_1 x1_0 x1_1 x1_2 x1_4 (x1_3, x1_5)) (X_gramuntilapiProdr_1 x1_0 x1_1 x1_2 x1_4 x1_3) :=
  runC_ok hm (A := aT [(3, .val (.bool false))]) (L := lT []) (wk := ⟨[], [(0, 0, false), (1, 1, false), (2, 2, true)], 3, 2⟩)
    (ps := [(Value.bool x1_5) = (Value.bool false),
    FlatB (.cells (layT (rows rw_b x1_3)) 4)]) (by kernel_rfl) ⟨(vB (Bool.eq_false_iff.2 hy1_1)), (rows_flat rwf_b _ _), trivial⟩
theorem m_gramuntilapiProdr_1_ok (n : Nat) (x1_0 : Int) (x1_1 : Int) (x1_2 : Int) (x1_4 : Nat) (st : List (Bool) × Bool) (r : List (Bool)) (h : m_gramuntilapiProdr_1 n x1_0 x1_1 x1_2 x1_4 st = some r) : CG P none (fnN P 39) 3 (codeOf P 39 [false, true]) (S_gramuntilapiProdr_1 x1_0 x1_1 x1_2 x1_4 st) (X_gramuntilapiProdr_1 x1_0 x1_1 x1_2 x1_4 r) :=
  CG.iter (b := codeOf P 39 [false, false, true]) (by kernel_rfl) (body := B_gramuntilapiProdr_1 n x1_0 x1_1 x1_2 x1_4) (S := S_gramuntilapiProdr_1 x1_0 x1_1 x1_2 x1_4) (X := X_gramuntilapiProdr_1 x1_0 x1_1 x1_2 x1_4)
    (fun s s' h => by
    obtain ⟨x1_3, x1_5⟩ := s
    unfold B_gramuntilapiProdr_1 at h
    dsimp only at h
    by_cases hy1_1 : x1_5 = true
    · rw [if_pos hy1_1] at h
      obtain ⟨⟨y1_2_0, y1_2_1⟩, hy1_2, h⟩ := Option.bind_eq_some_iff.1 h
      dsimp only at h
      obtain rfl := Sum.inl.inj (Option.some.inj h); exact q_gramuntilapiProdr_1_0 n x1_0 x1_1 x1_2 x1_3 x1_4 x1_5 hy1_1 y1_2_0 y1_2_1 hy1_2
    · rw [if_neg hy1_1] at h
      cases h)
    (fun s r h => by
    obtain ⟨x1_3, x1_5⟩ := s
    unfold B_gramuntilapiProdr_1 at h
    dsimp only at h
    by_cases hy1_1 : x1_5 = true
    · rw [if_pos hy1_1] at h
      obtain ⟨⟨y1_2_0, y1_2_1⟩, hy1_2, h⟩ := Option.bind_eq_some_iff.1 h
      dsimp only at h
      cases h
    · rw [if_neg hy1_1] at h
      obtain rfl := Sum.inr.inj (Option.some.inj h); exact q_gramuntilapiProdr_1_1 n x1_0 x1_1 x1_2 x1_3 x1_4 x1_5 hy1_1)
    (fun r => by intro hx; cases hx) h
noncomputable def A_gramuntilapiProdr (sn : Nat) (gT : Int) (gN : Int) (gK : Int) (L : List (Bool)) : List Value := [(Value.slice (some ⟨0, 0, some 1⟩) (Args.G).length Args.cG), (Value.func (.func 40) #[] #[(Value.pointer (some ⟨0, 0, none⟩)), (Value.pointer (some ⟨1, 0, none⟩))])]
noncomputable def H_gramuntilapiProdr (sn : Nat) (gT : Int) (gN : Int) (gK : Int) (L : List (Bool)) : AH := ⟨sB [(0, (some (.cells (layT [(Value.int .i64 gT), (Value.int .i64 gN), (Value.int .i64 gK), (Value.slice (some ⟨0, 0, some 1⟩) (Args.G).length Args.cG)]) 24))), (1, (some (.cells (layT [(Value.slice (some ⟨2, 0, none⟩) sn sn)]) 35))), (2, (some (.cells (layT (rows rw_b L)) 4)))], 3, 3⟩
noncomputable def V_gramuntilapiProdr (sn : Nat) (gT : Int) (gN : Int) (gK : Int) (L : List (Bool)) (r : List (Bool)) : Value := match r with
  | o0 => (Value.tuple #[])
noncomputable def R_gramuntilapiProdr (sn : Nat) (gT : Int) (gN : Int) (gK : Int) (L : List (Bool)) (r : List (Bool)) : AH := match r with
  | o0 => ⟨sB [(2, (some (.cells (layT (rows rw_b o0)) 4)))], 3, 2⟩
def m_gramuntilapiProdr (n : Nat) (sn : Nat) (gT : Int) (gN : Int) (gK : Int) (L : List (Bool)) : Option (List (Bool)) :=
  (m_gramuntilapiProdr_1 n gT gN gK sn (L, true)).bind fun c1_ =>
  some c1_
set_option maxRecDepth 100000 in
theorem p_gramuntilapiProdr_0 (n : Nat) (sn : Nat) (gT : Int) (gN : Int) (gK : Int) (L : List (Bool)) (c1_ : List (Bool)) (hc1 : m_gramuntilapiProdr_1 n gT gN gK sn (L, true) = some c1_) : Gv P (.func 39) (A_gramuntilapiProdr sn gT gN gK L) (H_gramuntilapiProdr sn gT gN gK L) (V_gramuntilapiProdr sn gT gN gK L c1_) (R_gramuntilapiProdr sn gT gN gK L c1_) :=
  runF_ok hm (A := aT []) (L := lT [(3, ⟨⟨[0, 1, 4], [(0, 0, false), (1, 1, false), (2, 2, true)], 3, 2⟩, (X_gramuntilapiProdr_1 gT gN gK sn c1_).1, (X_gramuntilapiProdr_1 gT gN gK sn c1_).2⟩)]) (wk := ⟨[], [(2, 2, true)], 3, 2⟩)
    (ps := [CG P none (fnN P 39) 3 (codeOf P 39 [false, true]) (S_gramuntilapiProdr_1 gT gN gK sn (L, true)) (X_gramuntilapiProdr_1 gT gN gK sn c1_),
    FlatB (.cells (layT (rows rw_b L)) 4),
    FlatB (.cells (layT (rows rw_b c1_)) 4)]) (by kernel_rfl) ⟨(m_gramuntilapiProdr_1_ok n gT gN gK sn (L, true) c1_ hc1), (rows_flat rwf_b _ _), (rows_flat rwf_b _ _), trivial⟩
theorem m_gramuntilapiProdr_ok (n : Nat) (sn : Nat) (gT : Int) (gN : Int) (gK : Int) (L : List (Bool)) (r : List (Bool)) (h : m_gramuntilapiProdr n sn gT gN gK L = some r) : Gv P (.func 39) (A_gramuntilapiProdr sn gT gN gK L) (H_gramuntilapiProdr sn gT gN gK L) (V_gramuntilapiProdr sn gT gN gK L r) (R_gramuntilapiProdr sn gT gN gK L r) := by
  unfold m_gramuntilapiProdr at h
  obtain ⟨c1_, hc1, h⟩ := Option.bind_eq_some_iff.1 h
  obtain rfl := Option.some.inj h; exact p_gramuntilapiProdr_0 n sn gT gN gK L c1_ hc1

noncomputable def A_gramReachable (gT : Int) (gN : Int) (gK : Int) : List Value := [(Value.agg #[(Value.int .i64 gT), (Value.int .i64 gN), (Value.int .i64 gK), (Value.slice (some ⟨0, 0, some 1⟩) (Args.G).length Args.cG)])]
noncomputable def H_gramReachable (gT : Int) (gN : Int) (gK : Int) : AH := ⟨sB [], 0, 0⟩
noncomputable def V_gramReachable (gT : Int) (gN : Int) (gK : Int) (r : List (Bool)) : Value := match r with
  | o0 => (Value.slice (some ⟨0, 0, none⟩) (gN).toNat (gN).toNat)
noncomputable def R_gramReachable (gT : Int) (gN : Int) (gK : Int) (r : List (Bool)) : AH := match r with
  | o0 => ⟨sB [(0, (some (.cells (layT (rows rw_b o0)) 4)))], 1, 0⟩
def m_gramReachable (n : Nat) (gT : Int) (gN : Int) (gK : Int) : Option (List (Bool)) :=
  (m_gramCheck n gT gN gK).bind fun c1_ =>
  if c1_ = (0 : Int) then
    if 0 ≤ gN then
      if (gN).toNat * 1 ≤ 140737488355328 then
        if 0 ≤ (0 : Int) ∧ (0 : Int) < (((gN).toNat : Nat) : Int) then
          if ((0 : Int)).toNat < ((List.replicate (gN).toNat (false))).length then
            (m_gramuntilapiProdr n ((gN).toNat) gT gN gK (((List.replicate (gN).toNat (false))).set ((0 : Int)).toNat true)).bind fun c7_ =>
            some c7_
          else none
        else none
      else none
    else none
  else
    none
set_option maxRecDepth 100000 in
theorem p_gramReachable_0 (n : Nat) (gT : Int) (gN : Int) (gK : Int) (c1_ : Int) (hc1 : m_gramCheck n gT gN gK = some c1_) (hc2 : c1_ = (0 : Int)) (hc3 : 0 ≤ gN) (hc4 : (gN).toNat * 1 ≤ 140737488355328) (hc5 : 0 ≤ (0 : Int) ∧ (0 : Int) < (((gN).toNat : Nat) : Int)) (hc6 : ((0 : Int)).toNat < ((List.replicate (gN).toNat (false))).length) (c7_ : List (Bool)) (hc7 : m_gramuntilapiProdr n ((gN).toNat) gT gN gK (((List.replicate (gN).toNat (false))).set ((0 : Int)).toNat true) = some c7_) : Gv P (.func 24) (A_gramReachable gT gN gK) (H_gramReachable gT gN gK) (V_gramReachable gT gN gK c7_) (R_gramReachable gT gN gK c7_) :=
  runF_ok hm (A := aT [(6, .call ⟨0, [], (V_gramCheck gT gN gK c1_), (R_gramCheck gT gN gK c1_), []⟩), (7, .val (.bool false)), (12, .mk (gN).toNat (rows rw_b (List.replicate (gN).toNat (false)))), (17, .pur (Value.pointer (some ⟨1, (((0 : Int)).toNat * 1), none⟩))), (18, .sto (layT (rows rw_b (((List.replicate (gN).toNat (false))).set ((0 : Int)).toNat true)))), (23, .call ⟨3, [(0, 0, false), (1, 2, false), (2, 1, true)], (V_gramuntilapiProdr ((gN).toNat) gT gN gK (((List.replicate (gN).toNat (false))).set ((0 : Int)).toNat true) c7_), (R_gramuntilapiProdr ((gN).toNat) gT gN gK (((List.replicate (gN).toNat (false))).set ((0 : Int)).toNat true) c7_), [(1, 2, true)]⟩)]) (L := lT []) (wk := ⟨[2], [(0, 1, true)], 1, 0⟩)
    (ps := [Gv P (.func 14) (A_gramCheck gT gN gK) (H_gramCheck gT gN gK) (V_gramCheck gT gN gK c1_) (R_gramCheck gT gN gK c1_),
    (Value.bool (c1_ != (0 : Int))) = (Value.bool false),
    natOf (Value.int .i64 gN) = some (gN).toNat,
    natOf (Value.int .i64 gN) = some (gN).toNat,
    fits (gN).toNat 1 = true,
    isZ8 [(Value.bool false)] = false,
    reps [(Value.bool false)] (gN).toNat = (rows rw_b (List.replicate (gN).toNat (false))),
    opIndexAddr P 35 (Value.slice (some ⟨1, 0, none⟩) (gN).toNat (gN).toNat) (Value.int .i64 (0 : Int)) Ax.h0 = some ((Value.pointer (some ⟨1, (((0 : Int)).toNat * 1), none⟩)), Ax.h0),
    ∃ old, rdT (layT (rows rw_b (List.replicate (gN).toNat (false)))) 1 (((0 : Int)).toNat * 1) = some old,
    layL [(Value.bool true)] (((0 : Int)).toNat * 1) (layT (rows rw_b (List.replicate (gN).toNat (false)))) = layT (rows rw_b (((List.replicate (gN).toNat (false))).set ((0 : Int)).toNat true)),
    Gv P (.func 39) (A_gramuntilapiProdr ((gN).toNat) gT gN gK (((List.replicate (gN).toNat (false))).set ((0 : Int)).toNat true)) (H_gramuntilapiProdr ((gN).toNat) gT gN gK (((List.replicate (gN).toNat (false))).set ((0 : Int)).toNat true)) (V_gramuntilapiProdr ((gN).toNat) gT gN gK (((List.replicate (gN).toNat (false))).set ((0 : Int)).toNat true) c7_) (R_gramuntilapiProdr ((gN).toNat) gT gN gK (((List.replicate (gN).toNat (false))).set ((0 : Int)).toNat true) c7_),
    FlatB (.cells (layT (rows rw_b (((List.replicate (gN).toNat (false))).set ((0 : Int)).toNat true))) 4),
    FlatB (.cells (layT (rows rw_b c7_)) 4),
    FlatB (.cells (layT (rows rw_b c7_)) 4)]) (by kernel_rfl) ⟨(m_gramCheck_ok n gT gN gK c1_ hc1), (vnF hc2), (natOf_toNat hc3), (natOf_toNat hc3), (fits_ok hc4 (by omega)), (rfl), (reps_rows rw_b (false) _ rfl _), (ixS (e := 4) (by kernel_rfl) (by kernel_rfl) (hc5).1 (hc5).2), (Exists.elim (rows_st rwf_b (false) (i := ((0 : Int)).toNat) (j := 0) (l := [(Value.bool true)]) true (((0 : Int)).toNat * 1) rfl (hc6) (Nat.le_of_ble_eq_true rfl) rfl) fun o h => ⟨o, h.1⟩), (Exists.elim (rows_st rwf_b (false) (i := ((0 : Int)).toNat) (j := 0) (l := [(Value.bool true)]) true (((0 : Int)).toNat * 1) rfl (hc6) (Nat.le_of_ble_eq_true rfl) rfl) fun o h => h.2), (m_gramuntilapiProdr_ok n ((gN).toNat) gT gN gK (((List.replicate (gN).toNat (false))).set ((0 : Int)).toNat true) c7_ hc7), (rows_flat rwf_b _ _), (rows_flat rwf_b _ _), (rows_flat rwf_b _ _), trivial⟩
theorem m_gramReachable_ok (n : Nat) (gT : Int) (gN : Int) (gK : Int) (r : List (Bool)) (h : m_gramReachable n gT gN gK = some r) : Gv P (.func 24) (A_gramReachable gT gN gK) (H_gramReachable gT gN gK) (V_gramReachable gT gN gK r) (R_gramReachable gT gN gK r) := by
  unfold m_gramReachable at h
  obtain ⟨c1_, hc1, h⟩ := Option.bind_eq_some_iff.1 h
  by_cases hc2 : c1_ = (0 : Int)
  · rw [if_pos hc2] at h
    by_cases hc3 : 0 ≤ gN
    · rw [if_pos hc3] at h
      by_cases hc4 : (gN).toNat * 1 ≤ 140737488355328
      · rw [if_pos hc4] at h
        by_cases hc5 : 0 ≤ (0 : Int) ∧ (0 : Int) < (((gN).toNat : Nat) : Int)
        · rw [if_pos hc5] at h
          by_cases hc6 : ((0 : Int)).toNat < ((List.replicate (gN).toNat (false))).length
          · rw [if_pos hc6] at h
            obtain ⟨c7_, hc7, h⟩ := Option.bind_eq_some_iff.1 h
            obtain rfl := Option.some.inj h; exact p_gramReachable_0 n gT gN gK c1_ hc1 hc2 hc3 hc4 hc5 hc6 c7_ hc7
          · rw [if_neg hc6] at h; cases h
        · rw [if_neg hc5] at h; cases h
      · rw [if_neg hc4] at h; cases h
    · rw [if_neg hc3] at h; cases h
  · rw [if_neg hc2] at h
    cases h

noncomputable def S_viewportlaw11holds_1 (x1_0 : List (Bool)) (x1_1 : NL) (x1_2 : Bool) (x1_3 : Nat) (x1_4 : Int) (x1_5 : Int) (x1_6 : Int) (st : Int) : XSt := match st with
  | x1_7 => (sT 49 [(1, (nlV x1_1)), (2, (Value.bool x1_2)), (3, (Value.slice (some ⟨0, 0, none⟩) x1_3 x1_3)), (4, (Value.pointer (some ⟨1, 0, none⟩))), (9, (Value.int .i64 x1_7))], [], ⟨sB [(0, (some (.cells (layT (rows rw_b x1_0)) 4))), (1, (some (.cells (layT [(Value.int .i64 x1_4), (Value.int .i64 x1_5), (Value.int .i64 x1_6), (Value.slice (some ⟨0, 0, some 1⟩) (Args.G).length Args.cG)]) 24)))], 2, 1⟩)
noncomputable def X_viewportlaw11holds_1 (x1_0 : List (Bool)) (x1_1 : NL) (x1_2 : Bool) (x1_3 : Nat) (x1_4 : Int) (x1_5 : Int) (x1_6 : Int) (r : (Unit) ⊕ (Unit)) : Ex × XSt := match r with
  | .inl _ => (.ret, (sT 49 [(8, (Value.bool false))], [], ⟨sB [(0, (some (.cells (layT (rows rw_b x1_0)) 4)))], 1, 1⟩))
  | .inr _ => (.exit 0, (sT 49 [], [], ⟨sB [(0, (some (.cells (layT (rows rw_b x1_0)) 4)))], 1, 1⟩))
def B_viewportlaw11holds_1 (n : Nat) (x1_0 : List (Bool)) (x1_1 : NL) (x1_2 : Bool) (x1_3 : Nat) (x1_4 : Int) (x1_5 : Int) (x1_6 : Int) (st : Int) : Option ((Int) ⊕ ((Unit) ⊕ (Unit))) := match st with
  | x1_7 =>
    if x1_7 < (((x1_1).l.length : Nat) : Int) then
      if 0 ≤ x1_7 ∧ x1_7 < (((x1_1).l.length : Nat) : Int) then
        if (x1_7).toNat < ((x1_1).l).length then
          if (((x1_1).l).getD (x1_7).toNat 0) < x1_4 then
            if x1_2 = true then
              if (((x1_1).l).getD (x1_7).toNat 0) ≥ x1_4 then
                if 0 ≤ (w64 ((((x1_1).l).getD (x1_7).toNat 0) - x1_4)) ∧ (w64 ((((x1_1).l).getD (x1_7).toNat 0) - x1_4)) < ((x1_3 : Nat) : Int) then
                  if ((w64 ((((x1_1).l).getD (x1_7).toNat 0) - x1_4))).toNat < (x1_0).length then
                    if ((x1_0).getD ((w64 ((((x1_1).l).getD (x1_7).toNat 0) - x1_4))).toNat (false)) = true then
                      some (.inl (w64 (x1_7 + (1 : Int))))
                    else
                      some (.inr (.inl ()))
                  else none
                else none
              else
                some (.inl (w64 (x1_7 + (1 : Int))))
            else
              some (.inr (.inl ()))
          else
            if (((x1_1).l).getD (x1_7).toNat 0) ≥ x1_4 then
              if 0 ≤ (w64 ((((x1_1).l).getD (x1_7).toNat 0) - x1_4)) ∧ (w64 ((((x1_1).l).getD (x1_7).toNat 0) - x1_4)) < ((x1_3 : Nat) : Int) then
                if ((w64 ((((x1_1).l).getD (x1_7).toNat 0) - x1_4))).toNat < (x1_0).length then
                  if ((x1_0).getD ((w64 ((((x1_1).l).getD (x1_7).toNat 0) - x1_4))).toNat (false)) = true then
                    some (.inl (w64 (x1_7 + (1 : Int))))
                  else
                    some (.inr (.inl ()))
                else none
              else none
            else
              some (.inl (w64 (x1_7 + (1 : Int))))
        else none
      else none
    else
      some (.inr (.inr ()))
def m_viewportlaw11holds_1 (n : Nat) (x1_0 : List (Bool)) (x1_1 : NL) (x1_2 : Bool) (x1_3 : Nat) (x1_4 : Int) (x1_5 : Int) (x1_6 : Int) (st : Int) : Option ((Unit) ⊕ (Unit)) := iterM (B_viewportlaw11holds_1 n x1_0 x1_1 x1_2 x1_3 x1_4 x1_5 x1_6) n st
set_option maxRecDepth 100000 in
theorem q_viewportlaw11holds_1_0 (n : Nat) (x1_0 : List (Bool)) (x1_1 : NL) (x1_2 : Bool) (x1_3 : Nat) (x1_4 : Int) (x1_5 : Int) (x1_6 : Int) (x1_7 : Int) (hy1_1 : x1_7 < (((x1_1).l.length : Nat) : Int)) (hy1_2 : 0 ≤ x1_7 ∧ x1_7 < (((x1_1).l.length : Nat) : Int)) (hy1_3 : (x1_7).toNat < ((x1_1).l).length) (hy1_4 : (((x1_1).l).getD (x1_7).toNat 0) < x1_4) (hy1_5 : x1_2 = true) (hy1_6 : (((x1_1).l).getD (x1_7).toNat 0) ≥ x1_4) (hy1_7 : 0 ≤ (w64 ((((x1_1).l).getD (x1_7).toNat 0) - x1_4)) ∧ (w64 ((((x1_1).l).getD (x1_7).toNat 0) - x1_4)) < ((x1_3 : Nat) : Int)) (hy1_8 : ((w64 ((((x1_1).l).getD (x1_7).toNat 0) - x1_4))).toNat < (x1_0).length) (hy1_9 : ((x1_0).getD ((w64 ((((x1_1).l).getD (x1_7).toNat 0) - x1_4))).toNat (false)) = true) : CG P none (fnN P 29) 1 (codeOf P 29 [false, false, true, false, true]) (S_viewportlaw11holds_1 x1_0 x1_1 x1_2 x1_3 x1_4 x1_5 x1_6 x1_7) (.normal, S_viewportlaw11holds_1 x1_0 x1_1 x1_2 x1_3 x1_4 x1_5 x1_6 (w64 (x1_7 + (1 : Int)))) :=
  runC_ok hm (A := aT [(5, .val (.bool true)), (12, .pur (Value.pointer (some ⟨(Nat.add (x1_1).num 64), (x1_7).toNat, some 1⟩))), (13, .ld (Value.int .i64 (((x1_1).l).getD (x1_7).toNat 0))), (16, .val (.bool true)), (19, .val (.bool false)), (24, .pur (Value.pointer (some ⟨(Nat.add (x1_1).num 64), (x1_7).toNat, some 1⟩))), (25, .ld (Value.int .i64 (((x1_1).l).getD (x1_7).toNat 0))), (28, .val (.bool true)), (33, .pur (Value.pointer (some ⟨(Nat.add (x1_1).num 64), (x1_7).toNat, some 1⟩))), (34, .ld (Value.int .i64 (((x1_1).l).getD (x1_7).toNat 0))), (38, .pur (Value.pointer (some ⟨0, (((w64 ((((x1_1).l).getD (x1_7).toNat 0) - x1_4))).toNat * 1), none⟩))), (39, .ld (Value.bool ((x1_0).getD ((w64 ((((x1_1).l).getD (x1_7).toNat 0) - x1_4))).toNat (false)))), (40, .val (.bool false))]) (L := lT []) (wk := ⟨[1, 2, 3, 4, 9], [(0, 0, true), (1, 1, false)], 2, 1⟩)
    (ps := [(Value.bool (decide (x1_7 < (((x1_1).l.length : Nat) : Int)))) = (Value.bool true),
    opIndexAddr P 32 (nlV x1_1) (Value.int .i64 x1_7) Ax.h0 = some ((Value.pointer (some ⟨(Nat.add (x1_1).num 64), (x1_7).toNat, some 1⟩)), Ax.h0),
    loadG P 3 (Value.pointer (some ⟨(Nat.add (x1_1).num 64), (x1_7).toNat, some 1⟩)) Ax.h0 = some ((Value.int .i64 (((x1_1).l).getD (x1_7).toNat 0)), Ax.h0),
    (Value.bool (decide ((((x1_1).l).getD (x1_7).toNat 0) < x1_4))) = (Value.bool true),
    (Value.bool (!x1_2)) = (Value.bool false),
    opIndexAddr P 32 (nlV x1_1) (Value.int .i64 x1_7) Ax.h0 = some ((Value.pointer (some ⟨(Nat.add (x1_1).num 64), (x1_7).toNat, some 1⟩)), Ax.h0),
    loadG P 3 (Value.pointer (some ⟨(Nat.add (x1_1).num 64), (x1_7).toNat, some 1⟩)) Ax.h0 = some ((Value.int .i64 (((x1_1).l).getD (x1_7).toNat 0)), Ax.h0),
    (Value.bool (decide ((((x1_1).l).getD (x1_7).toNat 0) ≥ x1_4))) = (Value.bool true),
    opIndexAddr P 32 (nlV x1_1) (Value.int .i64 x1_7) Ax.h0 = some ((Value.pointer (some ⟨(Nat.add (x1_1).num 64), (x1_7).toNat, some 1⟩)), Ax.h0),
    loadG P 3 (Value.pointer (some ⟨(Nat.add (x1_1).num 64), (x1_7).toNat, some 1⟩)) Ax.h0 = some ((Value.int .i64 (((x1_1).l).getD (x1_7).toNat 0)), Ax.h0),
    opIndexAddr P 35 (Value.slice (some ⟨0, 0, none⟩) x1_3 x1_3) (Value.int .i64 (w64 ((((x1_1).l).getD (x1_7).toNat 0) - x1_4))) Ax.h0 = some ((Value.pointer (some ⟨0, (((w64 ((((x1_1).l).getD (x1_7).toNat 0) - x1_4))).toNat * 1), none⟩)), Ax.h0),
    (layT (rows rw_b x1_0)).get (((w64 ((((x1_1).l).getD (x1_7).toNat 0) - x1_4))).toNat * 1) = some (Value.bool ((x1_0).getD ((w64 ((((x1_1).l).getD (x1_7).toNat 0) - x1_4))).toNat (false))),
    (Value.bool (!((x1_0).getD ((w64 ((((x1_1).l).getD (x1_7).toNat 0) - x1_4))).toNat (false)))) = (Value.bool false),
    FlatB (.cells (layT (rows rw_b x1_0)) 4)]) (by kernel_rfl) ⟨(vbT hy1_1), (ixW1 (e := 3) (by kernel_rfl) (by kernel_rfl) hy1_2), (ldN x1_1 (by kernel_rfl) hy1_3), (vbT hy1_4), (vBn hy1_5), (ixW1 (e := 3) (by kernel_rfl) (by kernel_rfl) hy1_2), (ldN x1_1 (by kernel_rfl) hy1_3), (vbT hy1_6), (ixW1 (e := 3) (by kernel_rfl) (by kernel_rfl) hy1_2), (ldN x1_1 (by kernel_rfl) hy1_3), (ixS (e := 4) (by kernel_rfl) (by kernel_rfl) (hy1_7).1 (hy1_7).2), (rows_ld rwf_b (false) (i := ((w64 ((((x1_1).l).getD (x1_7).toNat 0) - x1_4))).toNat) (j := 0) (((w64 ((((x1_1).l).getD (x1_7).toNat 0) - x1_4))).toNat * 1) rfl (hy1_8) (by decide) rfl), (vBn hy1_9), (rows_flat rwf_b _ _), trivial⟩
set_option maxRecDepth 100000 in
theorem q_viewportlaw11holds_1_1 (n : Nat) (x1_0 : List (Bool)) (x1_1 : NL) (x1_2 : Bool) (x1_3 : Nat) (x1_4 : Int) (x1_5 : Int) (x1_6 : Int) (x1_7 : Int) (hy1_1 : x1_7 < (((x1_1).l.length : Nat) : Int)) (hy1_2 : 0 ≤ x1_7 ∧ x1_7 < (((x1_1).l.length : Nat) : Int)) (hy1_3 : (x1_7).toNat < ((x1_1).l).length) (hy1_4 : (((x1_1).l).getD (x1_7).toNat 0) < x1_4) (hy1_5 : x1_2 = true) (hy1_6 : (((x1_1).l).getD (x1_7).toNat 0) ≥ x1_4) (hy1_7 : 0 ≤ (w64 ((((x1_1).l).getD (x1_7).toNat 0) - x1_4)) ∧ (w64 ((((x1_1).l).getD (x1_7).toNat 0) - x1_4)) < ((x1_3 : Nat) : Int)) (hy1_8 : ((w64 ((((x1_1).l).getD (x1_7).toNat 0) - x1_4))).toNat < (x1_0).length) (hy1_9 : ¬ (((x1_0).getD ((w64 ((((x1_1).l).getD (x1_7).toNat 0) - x1_4))).toNat (false)) = true)) : CG P none (fnN P 29) 1 (codeOf P 29 [false, false, true, false, true]) (S_viewportlaw11holds_1 x1_0 x1_1 x1_2 x1_3 x1_4 x1_5 x1_6 x1_7) (X_viewportlaw11holds_1 x1_0 x1_1 x1_2 x1_3 x1_4 x1_5 x1_6 (.inl ())) :=
  runC_ok hm (A := aT [(5, .val (.bool true)), (12, .pur (Value.pointer (some ⟨(Nat.add (x1_1).num 64), (x1_7).toNat, some 1⟩))), (13, .ld (Value.int .i64 (((x1_1).l).getD (x1_7).toNat 0))), (16, .val (.bool true)), (19, .val (.bool false)), (24, .pur (Value.pointer (some ⟨(Nat.add (x1_1).num 64), (x1_7).toNat, some 1⟩))), (25, .ld (Value.int .i64 (((x1_1).l).getD (x1_7).toNat 0))), (28, .val (.bool true)), (33, .pur (Value.pointer (some ⟨(Nat.add (x1_1).num 64), (x1_7).toNat, some 1⟩))), (34, .ld (Value.int .i64 (((x1_1).l).getD (x1_7).toNat 0))), (38, .pur (Value.pointer (some ⟨0, (((w64 ((((x1_1).l).getD (x1_7).toNat 0) - x1_4))).toNat * 1), none⟩))), (39, .ld (Value.bool ((x1_0).getD ((w64 ((((x1_1).l).getD (x1_7).toNat 0) - x1_4))).toNat (false)))), (40, .val (.bool true))]) (L := lT []) (wk := ⟨[8], [(0, 0, true)], 1, 1⟩)
    (ps := [(Value.bool (decide (x1_7 < (((x1_1).l.length : Nat) : Int)))) = (Value.bool true),
    opIndexAddr P 32 (nlV x1_1) (Value.int .i64 x1_7) Ax.h0 = some ((Value.pointer (some ⟨(Nat.add (x1_1).num 64), (x1_7).toNat, some 1⟩)), Ax.h0),
    loadG P 3 (Value.pointer (some ⟨(Nat.add (x1_1).num 64), (x1_7).toNat, some 1⟩)) Ax.h0 = some ((Value.int .i64 (((x1_1).l).getD (x1_7).toNat 0)), Ax.h0),
    (Value.bool (decide ((((x1_1).l).getD (x1_7).toNat 0) < x1_4))) = (Value.bool true),
    (Value.bool (!x1_2)) = (Value.bool false),
    opIndexAddr P 32 (nlV x1_1) (Value.int .i64 x1_7) Ax.h0 = some ((Value.pointer (some ⟨(Nat.add (x1_1).num 64), (x1_7).toNat, some 1⟩)), Ax.h0),
    loadG P 3 (Value.pointer (some ⟨(Nat.add (x1_1).num 64), (x1_7).toNat, some 1⟩)) Ax.h0 = some ((Value.int .i64 (((x1_1).l).getD (x1_7).toNat 0)), Ax.h0),
    (Value.bool (decide ((((x1_1).l).getD (x1_7).toNat 0) ≥ x1_4))) = (Value.bool true),
    opIndexAddr P 32 (nlV x1_1) (Value.int .i64 x1_7) Ax.h0 = some ((Value.pointer (some ⟨(Nat.add (x1_1).num 64), (x1_7).toNat, some 1⟩)), Ax.h0),
    loadG P 3 (Value.pointer (some ⟨(Nat.add (x1_1).num 64), (x1_7).toNat, some 1⟩)) Ax.h0 = some ((Value.int .i64 (((x1_1).l).getD (x1_7).toNat 0)), Ax.h0),
    opIndexAddr P 35 (Value.slice (some ⟨0, 0, none⟩) x1_3 x1_3) (Value.int .i64 (w64 ((((x1_1).l).getD (x1_7).toNat 0) - x1_4))) Ax.h0 = some ((Value.pointer (some ⟨0, (((w64 ((((x1_1).l).getD (x1_7).toNat 0) - x1_4))).toNat * 1), none⟩)), Ax.h0),
    (layT (rows rw_b x1_0)).get (((w64 ((((x1_1).l).getD (x1_7).toNat 0) - x1_4))).toNat * 1) = some (Value.bool ((x1_0).getD ((w64 ((((x1_1).l).getD (x1_7).toNat 0) - x1_4))).toNat (false))),
    (Value.bool (!((x1_0).getD ((w64 ((((x1_1).l).getD (x1_7).toNat 0) - x1_4))).toNat (false)))) = (Value.bool true),
    FlatB (.cells (layT (rows rw_b x1_0)) 4)]) (by kernel_rfl) ⟨(vbT hy1_1), (ixW1 (e := 3) (by kernel_rfl) (by kernel_rfl) hy1_2), (ldN x1_1 (by kernel_rfl) hy1_3), (vbT hy1_4), (vBn hy1_5), (ixW1 (e := 3) (by kernel_rfl) (by kernel_rfl) hy1_2), (ldN x1_1 (by kernel_rfl) hy1_3), (vbT hy1_6), (ixW1 (e := 3) (by kernel_rfl) (by kernel_rfl) hy1_2), (ldN x1_1 (by kernel_rfl) hy1_3), (ixS (e := 4) (by kernel_rfl) (by kernel_rfl) (hy1_7).1 (hy1_7).2), (rows_ld rwf_b (false) (i := ((w64 ((((x1_1).l).getD (x1_7).toNat 0) - x1_4))).toNat) (j := 0) (((w64 ((((x1_1).l).getD (x1_7).toNat 0) - x1_4))).toNat * 1) rfl (hy1_8) (by decide) rfl), (vBn (Bool.eq_false_iff.2 hy1_9)), (rows_flat rwf_b _ _), trivial⟩
set_option maxRecDepth 100000 in
theorem q_viewportlaw11holds_1_2 (n : Nat) (x1_0 : List (Bool)) (x1_1 : NL) (x1_2 : Bool) (x1_3 : Nat) (x1_4 : Int) (x1_5 : Int) (x1_6 : Int) (x1_7 : Int) (hy1_1 : x1_7 < (((x1_1).l.length : Nat) : Int)) (hy1_2 : 0 ≤ x1_7 ∧ x1_7 < (((x1_1).l.length : Nat) : Int)) (hy1_3 : (x1_7).toNat < ((x1_1).l).length) (hy1_4 : (((x1_1).l).getD (x1_7).toNat 0) < x1_4) (hy1_5 : x1_2 = true) (hy1_6 : ¬ ((((x1_1).l).getD (x1_7).toNat 0) ≥ x1_4)) : CG P none (fnN P 29) 1 (codeOf P 29 [false, false, true, false, true]) (S_viewportlaw11holds_1 x1_0 x1_1 x1_2 x1_3 x1_4 x1_5 x1_6 x1_7) (.normal, S_viewportlaw11holds_1 x1_0 x1_1 x1_2 x1_3 x1_4 x1_5 x1_6 (w64 (x1_7 + (1 : Int)))) :=
  runC_ok hm (A := aT [(5, .val (.bool true)), (12, .pur (Value.pointer (some ⟨(Nat.add (x1_1).num 64), (x1_7).toNat, some 1⟩))), (13, .ld (Value.int .i64 (((x1_1).l).getD (x1_7).toNat 0))), (16, .val (.bool true)), (19, .val (.bool false)), (24, .pur (Value.pointer (some ⟨(Nat.add (x1_1).num 64), (x1_7).toNat, some 1⟩))), (25, .ld (Value.int .i64 (((x1_1).l).getD (x1_7).toNat 0))), (28, .val (.bool false))]) (L := lT []) (wk := ⟨[1, 2, 3, 4, 9], [(0, 0, true), (1, 1, false)], 2, 1⟩)
    (ps := [(Value.bool (decide (x1_7 < (((x1_1).l.length : Nat) : Int)))) = (Value.bool true),
    opIndexAddr P 32 (nlV x1_1) (Value.int .i64 x1_7) Ax.h0 = some ((Value.pointer (some ⟨(Nat.add (x1_1).num 64), (x1_7).toNat, some 1⟩)), Ax.h0),
    loadG P 3 (Value.pointer (some ⟨(Nat.add (x1_1).num 64), (x1_7).toNat, some 1⟩)) Ax.h0 = some ((Value.int .i64 (((x1_1).l).getD (x1_7).toNat 0)), Ax.h0),
    (Value.bool (decide ((((x1_1).l).getD (x1_7).toNat 0) < x1_4))) = (Value.bool true),
    (Value.bool (!x1_2)) = (Value.bool false),
    opIndexAddr P 32 (nlV x1_1) (Value.int .i64 x1_7) Ax.h0 = some ((Value.pointer (some ⟨(Nat.add (x1_1).num 64), (x1_7).toNat, some 1⟩)), Ax.h0),
    loadG P 3 (Value.pointer (some ⟨(Nat.add (x1_1).num 64), (x1_7).toNat, some 1⟩)) Ax.h0 = some ((Value.int .i64 (((x1_1).l).getD (x1_7).toNat 0)), Ax.h0),
    (Value.bool (decide ((((x1_1).l).getD (x1_7).toNat 0) ≥ x1_4))) = (Value.bool false),
    FlatB (.cells (layT (rows rw_b x1_0)) 4)]) (by kernel_rfl) ⟨(vbT hy1_1), (ixW1 (e := 3) (by kernel_rfl) (by kernel_rfl) hy1_2), (ldN x1_1 (by kernel_rfl) hy1_3), (vbT hy1_4), (vBn hy1_5), (ixW1 (e := 3) (by kernel_rfl) (by kernel_rfl) hy1_2), (ldN x1_1 (by kernel_rfl) hy1_3), (vbF hy1_6), (rows_flat rwf_b _ _), trivial⟩
set_option maxRecDepth 100000 in
theorem q_viewportlaw11holds_1_3 (n : Nat) (x1_0 : List (Bool)) (x1_1 : NL) (x1_2 : Bool) (x1_3 : Nat) (x1_4 : Int) (x1_5 : Int) (x1_6 : Int) (x1_7 : Int) (hy1_1 : x1_7 < (((x1_1).l.length : Nat) : Int)) (hy1_2 : 0 ≤ x1_7 ∧ x1_7 < (((x1_1).l.length : Nat) : Int)) (hy1_3 : (x1_7).toNat < ((x1_1).l).length) (hy1_4 : (((x1_1).l).getD (x1_7).toNat 0) < x1_4) (hy1_5 : ¬ (x1_2 = true)) : CG P none (fnN P 29) 1 (codeOf P 29 [false, false, true, false, true]) (S_viewportlaw11holds_1 x1_0 x1_1 x1_2 x1_3 x1_4 x1_5 x1_6 x1_7) (X_viewportlaw11holds_1 x1_0 x1_1 x1_2 x1_3 x1_4 x1_5 x1_6 (.inl ())) :=
  runC_ok hm (A := aT [(5, .val (.bool true)), (12, .pur (Value.pointer (some ⟨(Nat.add (x1_1).num 64), (x1_7).toNat, some 1⟩))), (13, .ld (Value.int .i64 (((x1_1).l).getD (x1_7).toNat 0))), (16, .val (.bool true)), (19, .val (.bool true))]) (L := lT []) (wk := ⟨[8], [(0, 0, true)], 1, 1⟩)
    (ps := [(Value.bool (decide (x1_7 < (((x1_1).l.length : Nat) : Int)))) = (Value.bool true),
    opIndexAddr P 32 (nlV x1_1) (Value.int .i64 x1_7) Ax.h0 = some ((Value.pointer (some ⟨(Nat.add (x1_1).num 64), (x1_7).toNat, some 1⟩)), Ax.h0),
    loadG P 3 (Value.pointer (some ⟨(Nat.add (x1_1).num 64), (x1_7).toNat, some 1⟩)) Ax.h0 = some ((Value.int .i64 (((x1_1).l).getD (x1_7).toNat 0)), Ax.h0),
    (Value.bool (decide ((((x1_1).l).getD (x1_7).toNat 0) < x1_4))) = (Value.bool true),
    (Value.bool (!x1_2)) = (Value.bool true),
    FlatB (.cells (layT (rows rw_b x1_0)) 4)]) (by kernel_rfl) ⟨(vbT hy1_1), (ixW1 (e := 3) (by kernel_rfl) (by kernel_rfl) hy1_2), (ldN x1_1 (by kernel_rfl) hy1_3), (vbT hy1_4), (vBn (Bool.eq_false_iff.2 hy1_5)), (rows_flat rwf_b _ _), trivial⟩
set_option maxRecDepth 100000 in
theorem q_viewportlaw11holds_1_4 (n : Nat) (x1_0 : List (Bool)) (x1_1 : NL) (x1_2 : Bool) (x1_3 : Nat) (x1_4 : Int) (x1_5 : Int) (x1_6 : Int) (x1_7 : Int) (hy1_1 : x1_7 < (((x1_1).l.length : Nat) : Int)) (hy1_2 : 0 ≤ x1_7 ∧ x1_7 < (((x1_1).l.length : Nat) : Int)) (hy1_3 : (x1_7).toNat < ((x1_1).l).length) (hy1_4 : ¬ ((((x1_1).l).getD (x1_7).toNat 0) < x1_4)) (hy1_5 : (((x1_1).l).getD (x1_7).toNat 0) ≥ x1_4) (hy1_6 : 0 ≤ (w64 ((((x1_1).l).getD (x1_7).toNat 0) - x1_4)) ∧ (w64 ((((x1_1).l).getD (x1_7).toNat 0) - x1_4)) < ((x1_3 : Nat) : Int)) (hy1_7 : ((w64 ((((x1_1).l).getD (x1_7).toNat 0) - x1_4))).toNat < (x1_0).length) (hy1_8 : ((x1_0).getD ((w64 ((((x1_1).l).getD (x1_7).toNat 0) - x1_4))).toNat (false)) = true) : CG P none (fnN P 29) 1 (codeOf P 29 [false, false, true, false, true]) (S_viewportlaw11holds_1 x1_0 x1_1 x1_2 x1_3 x1_4 x1_5 x1_6 x1_7) (.normal, S_viewportlaw11holds_1 x1_0 x1_1 x1_2 x1_3 x1_4 x1_5 x1_6 (w64 (x1_7 + (1 : Int)))) :=
  runC_ok hm (A := aT [(5, .val (.bool true)), (12, .pur (Value.pointer (some ⟨(Nat.add (x1_1).num 64), (x1_7).toNat, some 1⟩))), (13, .ld (Value.int .i64 (((x1_1).l).getD (x1_7).toNat 0))), (16, .val (.bool false)), (24, .pur (Value.pointer (some ⟨(Nat.add (x1_1).num 64), (x1_7).toNat, some 1⟩))), (25, .ld (Value.int .i64 (((x1_1).l).getD (x1_7).toNat 0))), (28, .val (.bool true)), (33, .pur (Value.pointer (some ⟨(Nat.add (x1_1).num 64), (x1_7).toNat, some 1⟩))), (34, .ld (Value.int .i64 (((x1_1).l).getD (x1_7).toNat 0))), (38, .pur (Value.pointer (some ⟨0, (((w64 ((((x1_1).l).getD (x1_7).toNat 0) - x1_4))).toNat * 1), none⟩))), (39, .ld (Value.bool ((x1_0).getD ((w64 ((((x1_1).l).getD (x1_7).toNat 0) - x1_4))).toNat (false)))), (40, .val (.bool false))]) (L := lT []) (wk := ⟨[1, 2, 3, 4, 9], [(0, 0, true), (1, 1, false)], 2, 1⟩)
    (ps := [(Value.bool (decide (x1_7 < (((x1_1).l.length : Nat) : Int)))) = (Value.bool true),
    opIndexAddr P 32 (nlV x1_1) (Value.int .i64 x1_7) Ax.h0 = some ((Value.pointer (some ⟨(Nat.add (x1_1).num 64), (x1_7).toNat, some 1⟩)), Ax.h0),
    loadG P 3 (Value.pointer (some ⟨(Nat.add (x1_1).num 64), (x1_7).toNat, some 1⟩)) Ax.h0 = some ((Value.int .i64 (((x1_1).l).getD (x1_7).toNat 0)), Ax.h0),
    (Value.bool (decide ((((x1_1).l).getD (x1_7).toNat 0) < x1_4))) = (Value.bool false),
    opIndexAddr P 32 (nlV x1_1) (Value.int .i64 x1_7) Ax.h0 = some ((Value.pointer (some ⟨(Nat.add (x1_1).num 64), (x1_7).toNat, some 1⟩)), Ax.h0),
    loadG P 3 (Value.pointer (some ⟨(Nat.add (x1_1).num 64), (x1_7).toNat, some 1⟩)) Ax.h0 = some ((Value.int .i64 (((x1_1).l).getD (x1_7).toNat 0)), Ax.h0),
    (Value.bool (decide ((((x1_1).l).getD (x1_7).toNat 0) ≥ x1_4))) = (Value.bool true),
    opIndexAddr P 32 (nlV x1_1) (Value.int .i64 x1_7) Ax.h0 = some ((Value.pointer (some ⟨(Nat.add (x1_1).num 64), (x1_7).toNat, some 1⟩)), Ax.h0),
    loadG P 3 (Value.pointer (some ⟨(Nat.add (x1_1).num 64), (x1_7).toNat, some 1⟩)) Ax.h0 = some ((Value.int .i64 (((x1_1).l).getD (x1_7).toNat 0)), Ax.h0),
    opIndexAddr P 35 (Value.slice (some ⟨0, 0, none⟩) x1_3 x1_3) (Value.int .i64 (w64 ((((x1_1).l).getD (x1_7).toNat 0) - x1_4))) Ax.h0 = some ((Value.pointer (some ⟨0, (((w64 ((((x1_1).l).getD (x1_7).toNat 0) - x1_4))).toNat * 1), none⟩)), Ax.h0),
    (layT (rows rw_b x1_0)).get (((w64 ((((x1_1).l).getD (x1_7).toNat 0) - x1_4))).toNat * 1) = some (Value.bool ((x1_0).getD ((w64 ((((x1_1).l).getD (x1_7).toNat 0) - x1_4))).toNat (false))),
    (Value.bool (!((x1_0).getD ((w64 ((((x1_1).l).getD (x1_7).toNat 0) - x1_4))).toNat (false)))) = (Value.bool false),
    FlatB (.cells (layT (rows rw_b x1_0)) 4)]) (by kernel_rfl) ⟨(vbT hy1_1), (ixW1 (e := 3) (by kernel_rfl) (by kernel_rfl) hy1_2), (ldN x1_1 (by kernel_rfl) hy1_3), (vbF hy1_4), (ixW1 (e := 3) (by kernel_rfl) (by kernel_rfl) hy1_2), (ldN x1_1 (by kernel_rfl) hy1_3), (vbT hy1_5), (ixW1 (e := 3) (by kernel_rfl) (by kernel_rfl) hy1_2), (ldN x1_1 (by kernel_rfl) hy1_3), (ixS (e := 4) (by kernel_rfl) (by kernel_rfl) (hy1_6).1 (hy1_6).2), (rows_ld rwf_b (false) (i := ((w64 ((((x1_1).l).getD (x1_7).toNat 0) - x1_4))).toNat) (j := 0) (((w64 ((((x1_1).l).getD (x1_7).toNat 0) - x1_4))).toNat * 1) rfl (hy1_7) (by decide) rfl), (vBn hy1_8), (rows_flat rwf_b _ _), trivial⟩
set_option maxRecDepth 100000 in
theorem q_viewportlaw11holds_1_5 (n : Nat) (x1_0 : List (Bool)) (x1_1 : NL) (x1_2 : Bool) (x1_3 : Nat) (x1_4 : Int) (x1_5 : Int) (x1_6 : Int) (x1_7 : Int) (hy1_1 : x1_7 < (((x1_1).l.length : Nat) : Int)) (hy1_2 : 0 ≤ x1_7 ∧ x1_7 < (((x1_1).l.length : Nat) : Int)) (hy1_3 : (x1_7).toNat < ((x1_1).l).length) (hy1_4 : ¬ ((((x1_1).l).getD (x1_7).toNat 0) < x1_4)) (hy1_5 : (((x1_1).l).getD (x1_7).toNat 0) ≥ x1_4) (hy1_6 : 0 ≤ (w64 ((((x1_1).l).getD (x1_7).toNat 0) - x1_4)) ∧ (w64 ((((x1_1).l).getD (x1_7).toNat 0) - x1_4)) < ((x1_3 : Nat) : Int)) (hy1_7 : ((w64 ((((x1_1).l).getD (x1_7).toNat 0) - x1_4))).toNat < (x1_0).length) (hy1_8 : ¬ (((x1_0).getD ((w64 ((((x1_1).l).getD (x1_7).toNat 0) - x1_4))).toNat (false)) = true)) : CG P none (fnN P 29) 1 (codeOf P 29 [false, false, true, false, true]) (S_viewportlaw11holds_1 x1_0 x1_1 x1_2 x1_3 x1_4 x1_5 x1_6 x1_7) (X_viewportlaw11holds_1 x1_0 x1_1 x1_2 x1_3 x1_4 x1_5 x1_6 (.inl ())) :=
  runC_ok hm (A := aT [(5, .val (.bool true)), (12, .pur (Value.pointer (some ⟨(Nat.add (x1_1).num 64), (x1_7).toNat, some 1⟩))), (13, .ld (Value.int .i64 (((x1_1).l).getD (x1_7).toNat 0))), (16, .val (.bool false)), (24, .pur (Value.pointer (some ⟨(Nat.add (x1_1).num 64), (x1_7).toNat, some 1⟩))), (25, .ld (Value.int .i64 (((x1_1).l).getD (x1_7).toNat 0))), (28, .val (.bool true)), (33, .pur (Value.pointer (some ⟨(Nat.add (x1_1).num 64), (x1_7).toNat, some 1⟩))), (34, .ld (Value.int .i64 (((x1_1).l).getD (x1_7).toNat 0))), (38, .pur (Value.pointer (some ⟨0, (((w64 ((((x1_1).l).getD (x1_7).toNat 0) - x1_4))).toNat * 1), none⟩))), (39, .ld (Value.bool ((x1_0).getD ((w64 ((((x1_1).l).getD (x1_7).toNat 0) - x1_4))).toNat (false)))), (40, .val (.bool true))]) (L := lT []) (wk := ⟨[8], [(0, 0, true)], 1, 1⟩)
    (ps := [(Value.bool (decide (x1_7 < (((x1_1).l.length : Nat) : Int)))) = (Value.bool true),
    opIndexAddr P 32 (nlV x1_1) (Value.int .i64 x1_7) Ax.h0 = some ((Value.pointer (some ⟨(Nat.add (x1_1).num 64), (x1_7).toNat, some 1⟩)), Ax.h0),
    loadG P 3 (Value.pointer (some ⟨(Nat.add (x1_1).num 64), (x1_7).toNat, some 1⟩)) Ax.h0 = some ((Value.int .i64 (((x1_1).l).getD (x1_7).toNat 0)), Ax.h0),
    (Value.bool (decide ((((x1_1).l).getD (x1_7).toNat 0) < x1_4))) = (Value.bool false),
    opIndexAddr P 32 (nlV x1_1) (Value.int .i64 x1_7) Ax.h0 = some ((Value.pointer (some ⟨(Nat.add (x1_1).num 64), (x1_7).toNat, some 1⟩)), Ax.h0),
    loadG P 3 (Value.pointer (some ⟨(Nat.add (x1_1).num 64), (x1_7).toNat, some 1⟩)) Ax.h0 = some ((Value.int .i64 (((x1_1).l).getD (x1_7).toNat 0)), Ax.h0),
    (Value.bool (decide ((((x1_1).l).getD (x1_7).toNat 0) ≥ x1_4))) = (Value.bool true),
    opIndexAddr P 32 (nlV x1_1) (Value.int .i64 x1_7) Ax.h0 = some ((Value.pointer (some ⟨(Nat.add (x1_1).num 64), (x1_7).toNat, some 1⟩)), Ax.h0),
    loadG P 3 (Value.pointer (some ⟨(Nat.add (x1_1).num 64), (x1_7).toNat, some 1⟩)) Ax.h0 = some ((Value.int .i64 (((x1_1).l).getD (x1_7).toNat 0)), Ax.h0),
    opIndexAddr P 35 (Value.slice (some ⟨0, 0, none⟩) x1_3 x1_3) (Value.int .i64 (w64 ((((x1_1).l).getD (x1_7).toNat 0) - x1_4))) Ax.h0 = some ((Value.pointer (some ⟨0, (((w64 ((((x1_1).l).getD (x1_7).toNat 0) - x1_4))).toNat * 1), none⟩)), Ax.h0),
    (layT (rows rw_b x1_0)).get (((w64 ((((x1_1).l).getD (x1_7).toNat 0) - x1_4))).toNat * 1) = some (Value.bool ((x1_0).getD ((w64 ((((x1_1).l).getD (x1_7).toNat 0) - x1_4))).toNat (false))),
    (Value.bool (!((x1_0).getD ((w64 ((((x1_1).l).getD (x1_7).toNat 0) - x1_4))).toNat (false)))) = (Value.bool true),
    FlatB (.cells (layT (rows rw_b x1_0)) 4)]) (by kernel_rfl) ⟨(vbT hy1_1), (ixW1 (e := 3) (by kernel_rfl) (by kernel_rfl) hy1_2), (ldN x1_1 (by kernel_rfl) hy1_3), (vbF hy1_4), (ixW1 (e := 3) (by kernel_rfl) (by kernel_rfl) hy1_2), (ldN x1_1 (by kernel_rfl) hy1_3), (vbT hy1_5), (ixW1 (e := 3) (by kernel_rfl) (by kernel_rfl) hy1_2), (ldN x1_1 (by kernel_rfl) hy1_3), (ixS (e := 4) (by kernel_rfl) (by kernel_rfl) (hy1_6).1 (hy1_6).2), (rows_ld rwf_b (false) (i := ((w64 ((((x1_1).l).getD (x1_7).toNat 0) - x1_4))).toNat) (j := 0) (((w64 ((((x1_1).l).getD (x1_7).toNat 0) - x1_4))).toNat * 1) rfl (hy1_7) (by decide) rfl), (vBn (Bool.eq_false_iff.2 hy1_8)), (rows_flat rwf_b _ _), trivial⟩
set_option maxRecDepth 100000 in
theorem q_viewportlaw11holds_1_6 (n : Nat) (x1_0 : List (Bool)) (x1_1 : NL) (x1_2 : Bool) (x1_3 : Nat) (x1_4 : Int) (x1_5 : Int) (x1_6 : Int) (x1_7 : Int) (hy1_1 : x1_7 < (((x1_1).l.length : Nat) : Int)) (hy1_2 : 0 ≤ x1_7 ∧ x1_7 < (((x1_1).l.length : Nat) : Int)) (hy1_3 : (x1_7).toNat < ((x1_1).l).length) (hy1_4 : ¬ ((((x1_1).l).getD (x1_7).toNat 0) < x1_4)) (hy1_5 : ¬ ((((x1_1).l).getD (x1_7).toNat 0) ≥ x1_4)) : CG P none (fnN P 29) 1 (codeOf P 29 [false, false, true, false, true]) (S_viewportlaw11holds_1 x1_0 x1_1 x1_2 x1_3 x1_4 x1_5 x1_6 x1_7) (.normal, S_viewportlaw11holds_1 x1_0 x1_1 x1_2 x1_3 x1_4 x1_5 x1_6 (w64 (x1_7 + (1 : Int)))) :=
  runC_ok hm (A := aT [(5, .val (.bool true)), (12, .pur (Value.pointer (some ⟨(Nat.add (x1_1).num 64), (x1_7).toNat, some 1⟩))), (13, .ld (Value.int .i64 (((x1_1).l).getD (x1_7).toNat 0))), (16, .val (.bool false)), (24, .pur (Value.pointer (some ⟨(Nat.add (x1_1).num 64), (x1_7).toNat, some 1⟩))), (25, .ld (Value.int .i64 (((x1_1).l).getD (x1_7).toNat 0))), (28, .val (.bool false))]) (L := lT []) (wk := ⟨[1, 2, 3, 4, 9], [(0, 0, true), (1, 1, false)], 2, 1⟩)
    (ps := [(Value.bool (decide (x1_7 < (((x1_1).l.length : Nat) : Int)))) = (Value.bool true),
    opIndexAddr P 32 (nlV x1_1) (Value.int .i64 x1_7) Ax.h0 = some ((Value.pointer (some ⟨(Nat.add (x1_1).num 64), (x1_7).toNat, some 1⟩)), Ax.h0),
    loadG P 3 (Value.pointer (some ⟨(Nat.add (x1_1).num 64), (x1_7).toNat, some 1⟩)) Ax.h0 = some ((Value.int .i64 (((x1_1).l).getD (x1_7).toNat 0)), Ax.h0),
    (Value.bool (decide ((((x1_1).l).getD (x1_7).toNat 0) < x1_4))) = (Value.bool false),
    opIndexAddr P 32 (nlV x1_1) (Value.int .i64 x1_7) Ax.h0 = some ((Value.pointer (some ⟨(Nat.add (x1_1).num 64), (x1_7).toNat, some 1⟩)), Ax.h0),
    loadG P 3 (Value.pointer (some ⟨(Nat.add (x1_1).num 64), (x1_7).toNat, some 1⟩)) Ax.h0 = some ((Value.int .i64 (((x1_1).l).getD (x1_7).toNat 0)), Ax.h0),
    (Value.bool (decide ((((x1_1).l).getD (x1_7).toNat 0) ≥ x1_4))) = (Value.bool false),
    FlatB (.cells (layT (rows rw_b x1_0)) 4)]) (by kernel_rfl) ⟨(vbT hy1_1), (ixW1 (e := 3) (by kernel_rfl) (by kernel_rfl) hy1_2), (ldN x1_1 (by kernel_rfl) hy1_3), (vbF hy1_4), (ixW1 (e := 3) (by kernel_rfl) (by kernel_rfl) hy1_2), (ldN x1_1 (by kernel_rfl) hy1_3), (vbF hy1_5), (rows_flat rwf_b _ _), trivial⟩
set_option maxRecDepth 100000 in
theorem q_viewportlaw11holds_1_7 (n : Nat) (x1_0 : List (Bool)) (x1_1 : NL) (x1_2 : Bool) (x1_3 : Nat) (x1_4 : Int) (x1_5 : Int) (x1_6 : Int) (x1_7 : Int) (hy1_1 : ¬ (x1_7 < (((x1_1).l.length : Nat) : Int))) : CG P none (fnN P 29) 1 (codeOf P 29 [false, false, true, false, true]) (S_viewportlaw11holds_1 x1_0 x1_1 x1_2 x1_3 x1_4 x1_5 x1_6 x1_7) (X_viewportlaw11holds_1 x1_0 x1_1 x1_2 x1_3 x1_4 x1_5 x1_6 (.inr ())) :=
  runC_ok hm (A := aT [(5, .val (.bool false))]) (L := lT []) (wk := ⟨[], [(0, 0, true)], 1, 1⟩)
    (ps := [(Value.bool (decide (x1_7 < (((x1_1).l.length : Nat) : Int)))) = (Value.bool false),
    FlatB (.cells (layT (rows rw_b x1_0)) 4)]) (by kernel_rfl) ⟨(vbF hy1_1), (rows_flat rwf_b _ _), trivial⟩
theorem m_viewportlaw11holds_1_ok (n : Nat) (x1_0 : List (Bool)) (x1_1 : NL) (x1_2 : Bool) (x1_3 : Nat) (x1_4 : Int) (x1_5 : Int) (x1_6 : Int) (st : Int) (r : (Unit) ⊕ (Unit)) (h : m_viewportlaw11holds_1 n x1_0 x1_1 x1_2 x1_3 x1_4 x1_5 x1_6 st = some r) : CG P none (fnN P 29) 1 (codeOf P 29 [false, true, false, true]) (S_viewportlaw11holds_1 x1_0 x1_1 x1_2 x1_3 x1_4 x1_5 x1_6 st) (X_viewportlaw11holds_1 x1_0 x1_1 x1_2 x1_3 x1_4 x1_5 x1_6 r) :=
  CG.iter (b := codeOf P 29 [false, false, true, false, true]) (by kernel_rfl) (body := B_viewportlaw11holds_1 n x1_0 x1_1 x1_2 x1_3 x1_4 x1_5 x1_6) (S := S_viewportlaw11holds_1 x1_0 x1_1 x1_2 x1_3 x1_4 x1_5 x1_6) (X := X_viewportlaw11holds_1 x1_0 x1_1 x1_2 x1_3 x1_4 x1_5 x1_6)
    (fun x1_7 s' h => by
    unfold B_viewportlaw11holds_1 at h
    dsimp only at h
    by_cases hy1_1 : x1_7 < (((x1_1).l.length : Nat) : Int)
    · rw [if_pos hy1_1] at h
      by_cases hy1_2 : 0 ≤ x1_7 ∧ x1_7 < (((x1_1).l.length : Nat) : Int)
      · rw [if_pos hy1_2] at h
        by_cases hy1_3 : (x1_7).toNat < ((x1_1).l).length
        · rw [if_pos hy1_3] at h
          by_cases hy1_4 : (((x1_1).l).getD (x1_7).toNat 0) < x1_4
          · rw [if_pos hy1_4] at h
            by_cases hy1_5 : x1_2 = true
            · rw [if_pos hy1_5] at h
              by_cases hy1_6 : (((x1_1).l).getD (x1_7).toNat 0) ≥ x1_4
              · rw [if_pos hy1_6] at h
                by_cases hy1_7 : 0 ≤ (w64 ((((x1_1).l).getD (x1_7).toNat 0) - x1_4)) ∧ (w64 ((((x1_1).l).getD (x1_7).toNat 0) - x1_4)) < ((x1_3 : Nat) : Int)
                · rw [if_pos hy1_7] at h
                  by_cases hy1_8 : ((w64 ((((x1_1).l).getD (x1_7).toNat 0) - x1_4))).toNat < (x1_0).length
                  · rw [if_pos hy1_8] at h
                    by_cases hy1_9 : ((x1_0).getD ((w64 ((((x1_1).l).getD (x1_7).toNat 0) - x1_4))).toNat (false)) = true
                    · rw [if_pos hy1_9] at h
                      obtain rfl := Sum.inl.inj (Option.some.inj h); exact q_viewportlaw11holds_1_0 n x1_0 x1_1 x1_2 x1_3 x1_4 x1_5 x1_6 x1_7 hy1_1 hy1_2 hy1_3 hy1_4 hy1_5 hy1_6 hy1_7 hy1_8 hy1_9
                    · rw [if_neg hy1_9] at h
                      cases h
                  · rw [if_neg hy1_8] at h; cases h
                · rw [if_neg hy1_7] at h; cases h
              · rw [if_neg hy1_6] at h
                obtain rfl := Sum.inl.inj (Option.some.inj h); exact q_viewportlaw11holds_1_2 n x1_0 x1_1 x1_2 x1_3 x1_4 x1_5 x1_6 x1_7 hy1_1 hy1_2 hy1_3 hy1_4 hy1_5 hy1_6
            · rw [if_neg hy1_5] at h
              cases h
          · rw [if_neg hy1_4] at h
            by_cases hy1_5 : (((x1_1).l).getD (x1_7).toNat 0) ≥ x1_4
            · rw [if_pos hy1_5] at h
              by_cases hy1_6 : 0 ≤ (w64 ((((x1_1).l).getD (x1_7).toNat 0) - x1_4)) ∧ (w64 ((((x1_1).l).getD (x1_7).toNat 0) - x1_4)) < ((x1_3 : Nat) : Int)
              · rw [if_pos hy1_6] at h
                by_cases hy1_7 : ((w64 ((((x1_1).l).getD (x1_7).toNat 0) - x1_4))).toNat < (x1_0).length
                · rw [if_pos hy1_7] at h
                  by_cases hy1_8 : ((x1_0).getD ((w64 ((((x1_1).l).getD (x1_7).toNat 0) - x1_4))).toNat (false)) = true
                  · rw [if_pos hy1_8] at h
                    obtain rfl := Sum.inl.inj (Option.some.inj h); exact q_viewportlaw11holds_1_4 n x1_0 x1_1 x1_2 x1_3 x1_4 x1_5 x1_6 x1_7 hy1_1 hy1_2 hy1_3 hy1_4 hy1_5 hy1_6 hy1_7 hy1_8
                  · rw [if_neg hy1_8] at h
                    cases h
                · rw [if_neg hy1_7] at h; cases h
              · rw [if_neg hy1_6] at h; cases h
            · rw [if_neg hy1_5] at h
              obtain rfl := Sum.inl.inj (Option.some.inj h); exact q_viewportlaw11holds_1_6 n x1_0 x1_1 x1_2 x1_3 x1_4 x1_5 x1_6 x1_7 hy1_1 hy1_2 hy1_3 hy1_4 hy1_5
        · rw [if_neg hy1_3] at h; cases h
      · rw [if_neg hy1_2] at h; cases h
    · rw [if_neg hy1_1] at h
      cases h)
    (fun x1_7 r h => by
    unfold B_viewportlaw11holds_1 at h
    dsimp only at h
    by_cases hy1_1 : x1_7 < (((x1_1).l.length : Nat) : Int)
    · rw [if_pos hy1_1] at h
      by_cases hy1_2 : 0 ≤ x1_7 ∧ x1_7 < (((x1_1).l.length : Nat) : Int)
      · rw [if_pos hy1_2] at h
        by_cases hy1_3 : (x1_7).toNat < ((x1_1).l).length
        · rw [if_pos hy1_3] at h
          by_cases hy1_4 : (((x1_1).l).getD (x1_7).toNat 0) < x1_4
          · rw [if_pos hy1_4] at h
            by_cases hy1_5 : x1_2 = true
            · rw [if_pos hy1_5] at h
              by_cases hy1_6 : (((x1_1).l).getD (x1_7).toNat 0) ≥ x1_4
              · rw [if_pos hy1_6] at h
                by_cases hy1_7 : 0 ≤ (w64 ((((x1_1).l).getD (x1_7).toNat 0) - x1_4)) ∧ (w64 ((((x1_1).l).getD (x1_7).toNat 0) - x1_4)) < ((x1_3 : Nat) : Int)
                · rw [if_pos hy1_7] at h
                  by_cases hy1_8 : ((w64 ((((x1_1).l).getD (x1_7).toNat 0) - x1_4))).toNat < (x1_0).length
                  · rw [if_pos hy1_8] at h
                    by_cases hy1_9 : ((x1_0).getD ((w64 ((((x1_1).l).getD (x1_7).toNat 0) - x1_4))).toNat (false)) = true
                    · rw [if_pos hy1_9] at h
                      cases h
                    · rw [if_neg hy1_9] at h
                      obtain rfl := Sum.inr.inj (Option.some.inj h); exact q_viewportlaw11holds_1_1 n x1_0 x1_1 x1_2 x1_3 x1_4 x1_5 x1_6 x1_7 hy1_1 hy1_2 hy1_3 hy1_4 hy1_5 hy1_6 hy1_7 hy1_8 hy1_9
                  · rw [if_neg hy1_8] at h; cases h
                · rw [if_neg hy1_7] at h; cases h
              · rw [if_neg hy1_6] at h
                cases h
            · rw [if_neg hy1_5] at h
              obtain rfl := Sum.inr.inj (Option.some.inj h); exact q_viewportlaw11holds_1_3 n x1_0 x1_1 x1_2 x1_3 x1_4 x1_5 x1_6 x1_7 hy1_1 hy1_2 hy1_3 hy1_4 hy1_5
          · rw [if_neg hy1_4] at h
            by_cases hy1_5 : (((x1_1).l).getD (x1_7).toNat 0) ≥ x1_4
            · rw [if_pos hy1_5] at h
              by_cases hy1_6 : 0 ≤ (w64 ((((x1_1).l).getD (x1_7).toNat 0) - x1_4)) ∧ (w64 ((((x1_1).l).getD (x1_7).toNat 0) - x1_4)) < ((x1_3 : Nat) : Int)
              · rw [if_pos hy1_6] at h
                by_cases hy1_7 : ((w64 ((((x1_1).l).getD (x1_7).toNat 0) - x1_4))).toNat < (x1_0).length
                · rw [if_pos hy1_7] at h
                  by_cases hy1_8 : ((x1_0).getD ((w64 ((((x1_1).l).getD (x1_7).toNat 0) - x1_4))).toNat (false)) = true
                  · rw [if_pos hy1_8] at h
                    cases h
                  · rw [if_neg hy1_8] at h
                    obtain rfl := Sum.inr.inj (Option.some.inj h); exact q_viewportlaw11holds_1_5 n x1_0 x1_1 x1_2 x1_3 x1_4 x1_5 x1_6 x1_7 hy1_1 hy1_2 hy1_3 hy1_4 hy1_5 hy1_6 hy1_7 hy1_8
                · rw [if_neg hy1_7] at h; cases h
              · rw [if_neg hy1_6] at h; cases h
            · rw [if_neg hy1_5] at h
              cases h
        · rw [if_neg hy1_3] at h; cases h
      · rw [if_neg hy1_2] at h; cases h
    · rw [if_neg hy1_1] at h
      obtain rfl := Sum.inr.inj (Option.some.inj h); exact q_viewportlaw11holds_1_7 n x1_0 x1_1 x1_2 x1_3 x1_4 x1_5 x1_6 x1_7 hy1_1)
    (fun r => by intro hx; rcases r with _ | _ <;> cases hx) h
noncomputable def A_viewportlaw11holds (gT : Int) (gN : Int) (gK : Int) (pr : NL) (tm : Bool) (sn : Nat) (L : List (Bool)) : List Value := [(Value.agg #[(Value.int .i64 gT), (Value.int .i64 gN), (Value.int .i64 gK), (Value.slice (some ⟨0, 0, some 1⟩) (Args.G).length Args.cG)]), (nlV pr), (Value.bool tm), (Value.slice (some ⟨0, 0, none⟩) sn sn)]
noncomputable def H_viewportlaw11holds (gT : Int) (gN : Int) (gK : Int) (pr : NL) (tm : Bool) (sn : Nat) (L : List (Bool)) : AH := ⟨sB [(0, (some (.cells (layT (rows rw_b L)) 4)))], 1, 1⟩
noncomputable def V_viewportlaw11holds (gT : Int) (gN : Int) (gK : Int) (pr : NL) (tm : Bool) (sn : Nat) (L : List (Bool)) (r : Bool) : Value := match r with
  | o0 => (Value.bool o0)
noncomputable def R_viewportlaw11holds (gT : Int) (gN : Int) (gK : Int) (pr : NL) (tm : Bool) (sn : Nat) (L : List (Bool)) (r : Bool) : AH := match r with
  | o0 => ⟨sB [], 1, 1⟩
def m_viewportlaw11holds (n : Nat) (gT : Int) (gN : Int) (gK : Int) (pr : NL) (tm : Bool) (sn : Nat) (L : List (Bool)) : Option (Bool) :=
  match m_viewportlaw11holds_1 n L pr tm sn gT gN gK 0 with
  | none => none
  | some (.inl _) =>
    some false
  | some (.inr _) =>
    some true
set_option maxRecDepth 100000 in
theorem p_viewportlaw11holds_0 (n : Nat) (gT : Int) (gN : Int) (gK : Int) (pr : NL) (tm : Bool) (sn : Nat) (L : List (Bool)) (hc1 : m_viewportlaw11holds_1 n L pr tm sn gT gN gK 0 = some (.inl ())) : Gv P (.func 29) (A_viewportlaw11holds gT gN gK pr tm sn L) (H_viewportlaw11holds gT gN gK pr tm sn L) (V_viewportlaw11holds gT gN gK pr tm sn L false) (R_viewportlaw11holds gT gN gK pr tm sn L false) :=
  runF_ok hm (A := aT []) (L := lT [(7, ⟨⟨[1, 2, 3, 4, 9], [(0, 0, true), (1, 1, false)], 2, 1⟩, (X_viewportlaw11holds_1 L pr tm sn gT gN gK (.inl ())).1, (X_viewportlaw11holds_1 L pr tm sn gT gN gK (.inl ())).2⟩)]) (wk := ⟨[8], [], 1, 1⟩)
    (ps := [CG P none (fnN P 29) 1 (codeOf P 29 [false, true, false, true]) (S_viewportlaw11holds_1 L pr tm sn gT gN gK 0) (X_viewportlaw11holds_1 L pr tm sn gT gN gK (.inl ())),
    FlatB (.cells (layT (rows rw_b L)) 4)]) (by kernel_rfl) ⟨(m_viewportlaw11holds_1_ok n L pr tm sn gT gN gK 0 (.inl ()) hc1), (rows_flat rwf_b _ _), trivial⟩
set_option maxRecDepth 100000 in
theorem p_viewportlaw11holds_1 (n : Nat) (gT : Int) (gN : Int) (gK : Int) (pr : NL) (tm : Bool) (sn : Nat) (L : List (Bool)) (hc1 : m_viewportlaw11holds_1 n L pr tm sn gT gN gK 0 = some (.inr ())) : Gv P (.func 29) (A_viewportlaw11holds gT gN gK pr tm sn L) (H_viewportlaw11holds gT gN gK pr tm sn L) (V_viewportlaw11holds gT gN gK pr tm sn L true) (R_viewportlaw11holds gT gN gK pr tm sn L true) :=
  runF_ok hm (A := aT []) (L := lT [(7, ⟨⟨[1, 2, 3, 4, 9], [(0, 0, true), (1, 1, false)], 2, 1⟩, (X_viewportlaw11holds_1 L pr tm sn gT gN gK (.inr ())).1, (X_viewportlaw11holds_1 L pr tm sn gT gN gK (.inr ())).2⟩)]) (wk := ⟨[8], [], 1, 1⟩)
    (ps := [CG P none (fnN P 29) 1 (codeOf P 29 [false, true, false, true]) (S_viewportlaw11holds_1 L pr tm sn gT gN gK 0) (X_viewportlaw11holds_1 L pr tm sn gT gN gK (.inr ())),
    FlatB (.cells (layT (rows rw_b L)) 4)]) (by kernel_rfl) ⟨(m_viewportlaw11holds_1_ok n L pr tm sn gT gN gK 0 (.inr ()) hc1), (rows_flat rwf_b _ _), trivial⟩
theorem m_viewportlaw11holds_ok (n : Nat) (gT : Int) (gN : Int) (gK : Int) (pr : NL) (tm : Bool) (sn : Nat) (L : List (Bool)) (r : Bool) (h : m_viewportlaw11holds n gT gN gK pr tm sn L = some r) : Gv P (.func 29) (A_viewportlaw11holds gT gN gK pr tm sn L) (H_viewportlaw11holds gT gN gK pr tm sn L) (V_viewportlaw11holds gT gN gK pr tm sn L r) (R_viewportlaw11holds gT gN gK pr tm sn L r) := by
  unfold m_viewportlaw11holds at h
  rcases hc1 : m_viewportlaw11holds_1 n L pr tm sn gT gN gK 0 with _ | (⟨⟩ | ⟨⟩)
  · rw [hc1] at h; cases h
  · rw [hc1] at h
    dsimp only at h
    obtain rfl := Option.some.inj h; exact p_viewportlaw11holds_0 n gT gN gK pr tm sn L hc1
  · rw [hc1] at h
    dsimp only at h
    obtain rfl := Option.some.inj h; exact p_viewportlaw11holds_1 n gT gN gK pr tm sn L hc1

def m_viewportlaw11lives (n : Nat) : Option Unit := some ()
theorem m_viewportlaw11lives_ok (n : Nat) (r : Unit) (h : m_viewportlaw11lives n = some r) : Gv P (.func 8) [] Ax.h0 (.bool true) Ax.h0 := lives_gv

end Go.Proofs.Ytpbhdiapgeiopaa.gramw
