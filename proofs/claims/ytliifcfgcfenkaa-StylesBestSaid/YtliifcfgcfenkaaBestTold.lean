/-
  What functions do, told by pure functions. No condition.
-/
import Derived.Test.YtliifcfgcfenkaaStyLives
set_option linter.unusedSimpArgs false
set_option linter.unusedVariables false
set_option linter.unusedSectionVars false
set_option linter.unnecessarySimpa false
namespace Go.Proofs.Ytliifcfgcfenkaa.styw
open Go Go.Proofs.Ytliifcfgcfenkaa Ax
variable [Args]
def m_viewportlaw26lives (n : Nat) : Option Unit := some ()
theorem m_viewportlaw26lives_ok (n : Nat) (r : Unit) (h : m_viewportlaw26lives n = some r) : Gv P (.func 5) [] Ax.h0 (.bool true) Ax.h0 := lives_gv

noncomputable def S_viewportkitLightStylesq1_1 (st : Int) : XSt := match st with
  | x1_0 => (sT 20 [(0, (Value.slice (some ⟨0, 0, some 1⟩) (Args.S).length Args.cS)), (3, (Value.int .i64 x1_0))], [], ⟨sB [], 0, 0⟩)
noncomputable def X_viewportkitLightStylesq1_1 (r : (Unit) ⊕ (Unit)) : Ex × XSt := match r with
  | .inl _ => (.ret, (sT 20 [(2, (Value.bool false))], [], ⟨sB [], 0, 0⟩))
  | .inr _ => (.exit 0, (sT 20 [(0, (Value.slice (some ⟨0, 0, some 1⟩) (Args.S).length Args.cS))], [], ⟨sB [], 0, 0⟩))
def B_viewportkitLightStylesq1_1 (n : Nat) (st : Int) : Option ((Int) ⊕ ((Unit) ⊕ (Unit))) := match st with
  | x1_0 =>
    if x1_0 < (((Args.S).length : Nat) : Int) then
      if 0 ≤ x1_0 ∧ x1_0 < (((Args.S).length : Nat) : Int) then
        if ((((((Args.S).getD (x1_0).toNat (0, nl0, 0, 0)).2.1)).l.length : Nat) : Int) > (20 : Int) then
          some (.inr (.inl ()))
        else
          some (.inl (w64 (x1_0 + (1 : Int))))
      else none
    else
      some (.inr (.inr ()))
def m_viewportkitLightStylesq1_1 (n : Nat) (st : Int) : Option ((Unit) ⊕ (Unit)) := iterM (B_viewportkitLightStylesq1_1 n) n st
set_option maxRecDepth 100000 in
theorem q_viewportkitLightStylesq1_1_0 (n : Nat) {rnd : Option Nat} (x1_0 : Int) (hy1_1 : x1_0 < (((Args.S).length : Nat) : Int)) (hy1_2 : 0 ≤ x1_0 ∧ x1_0 < (((Args.S).length : Nat) : Int)) (hy1_3 : ((((((Args.S).getD (x1_0).toNat (0, nl0, 0, 0)).2.1)).l.length : Nat) : Int) > (20 : Int)) : CG P rnd (fnN P 11) 0 (codeOf P 11 [false, false, true, false, true]) (S_viewportkitLightStylesq1_1 x1_0) (X_viewportkitLightStylesq1_1 (.inl ())) :=
  runC_ok hm (A := aT [(5, .val (.bool true)), (12, .pur (Value.pointer (some ⟨0, ((x1_0).toNat * 4), some 1⟩))), (13, .pur (Value.pointer (some ⟨0, (Nat.add ((x1_0).toNat * 4) 1), some 1⟩))), (14, .ld (nlV (((Args.S).getD (x1_0).toNat (0, nl0, 0, 0)).2.1))), (16, .val (.bool true))]) (L := lT []) (wk := ⟨[2], [], 0, 0⟩)
    (ps := [(Value.bool (decide (x1_0 < (((Args.S).length : Nat) : Int)))) = (Value.bool true),
    opIndexAddr P 22 (Value.slice (some ⟨0, 0, some 1⟩) (Args.S).length Args.cS) (Value.int .i64 x1_0) Ax.h0 = some ((Value.pointer (some ⟨0, ((x1_0).toNat * 4), some 1⟩)), Ax.h0),
    opFieldAddr P 27 (Value.pointer (some ⟨0, ((x1_0).toNat * 4), some 1⟩)) 1 Ax.h0 = some ((Value.pointer (some ⟨0, (Nat.add ((x1_0).toNat * 4) 1), some 1⟩)), Ax.h0),
    loadG P 23 (Value.pointer (some ⟨0, (Nat.add ((x1_0).toNat * 4) 1), some 1⟩)) Ax.h0 = some ((nlV (((Args.S).getD (x1_0).toNat (0, nl0, 0, 0)).2.1)), Ax.h0),
    (Value.bool (decide (((((((Args.S).getD (x1_0).toNat (0, nl0, 0, 0)).2.1)).l.length : Nat) : Int) > (20 : Int)))) = (Value.bool true)]) (by kernel_rfl) ⟨(vbT hy1_1), (ixW (e := 27) (by kernel_rfl) (by kernel_rfl) (hy1_2).1 (hy1_2).2), (by kernel_rfl), (ldWS rwf_iLii (0, nl0, 0, 0) (i := (x1_0).toNat) (q := 1) (L := Args.S) (Nat.add ((x1_0).toNat * 4) 1) rfl rfl (by kernel_rfl) (toNatLt hy1_2) (by decide) rfl), (vbT hy1_3), trivial⟩
set_option maxRecDepth 100000 in
theorem q_viewportkitLightStylesq1_1_1 (n : Nat) {rnd : Option Nat} (x1_0 : Int) (hy1_1 : x1_0 < (((Args.S).length : Nat) : Int)) (hy1_2 : 0 ≤ x1_0 ∧ x1_0 < (((Args.S).length : Nat) : Int)) (hy1_3 : ¬ (((((((Args.S).getD (x1_0).toNat (0, nl0, 0, 0)).2.1)).l.length : Nat) : Int) > (20 : Int))) : CG P rnd (fnN P 11) 0 (codeOf P 11 [false, false, true, false, true]) (S_viewportkitLightStylesq1_1 x1_0) (.normal, S_viewportkitLightStylesq1_1 (w64 (x1_0 + (1 : Int)))) :=
  runC_ok hm (A := aT [(5, .val (.bool true)), (12, .pur (Value.pointer (some ⟨0, ((x1_0).toNat * 4), some 1⟩))), (13, .pur (Value.pointer (some ⟨0, (Nat.add ((x1_0).toNat * 4) 1), some 1⟩))), (14, .ld (nlV (((Args.S).getD (x1_0).toNat (0, nl0, 0, 0)).2.1))), (16, .val (.bool false))]) (L := lT []) (wk := ⟨[0, 3], [], 0, 0⟩)
    (ps := [(Value.bool (decide (x1_0 < (((Args.S).length : Nat) : Int)))) = (Value.bool true),
    opIndexAddr P 22 (Value.slice (some ⟨0, 0, some 1⟩) (Args.S).length Args.cS) (Value.int .i64 x1_0) Ax.h0 = some ((Value.pointer (some ⟨0, ((x1_0).toNat * 4), some 1⟩)), Ax.h0),
    opFieldAddr P 27 (Value.pointer (some ⟨0, ((x1_0).toNat * 4), some 1⟩)) 1 Ax.h0 = some ((Value.pointer (some ⟨0, (Nat.add ((x1_0).toNat * 4) 1), some 1⟩)), Ax.h0),
    loadG P 23 (Value.pointer (some ⟨0, (Nat.add ((x1_0).toNat * 4) 1), some 1⟩)) Ax.h0 = some ((nlV (((Args.S).getD (x1_0).toNat (0, nl0, 0, 0)).2.1)), Ax.h0),
    (Value.bool (decide (((((((Args.S).getD (x1_0).toNat (0, nl0, 0, 0)).2.1)).l.length : Nat) : Int) > (20 : Int)))) = (Value.bool false)]) (by kernel_rfl) ⟨(vbT hy1_1), (ixW (e := 27) (by kernel_rfl) (by kernel_rfl) (hy1_2).1 (hy1_2).2), (by kernel_rfl), (ldWS rwf_iLii (0, nl0, 0, 0) (i := (x1_0).toNat) (q := 1) (L := Args.S) (Nat.add ((x1_0).toNat * 4) 1) rfl rfl (by kernel_rfl) (toNatLt hy1_2) (by decide) rfl), (vbF hy1_3), trivial⟩
set_option maxRecDepth 100000 in
theorem q_viewportkitLightStylesq1_1_2 (n : Nat) {rnd : Option Nat} (x1_0 : Int) (hy1_1 : ¬ (x1_0 < (((Args.S).length : Nat) : Int))) : CG P rnd (fnN P 11) 0 (codeOf P 11 [false, false, true, false, true]) (S_viewportkitLightStylesq1_1 x1_0) (X_viewportkitLightStylesq1_1 (.inr ())) :=
  runC_ok hm (A := aT [(5, .val (.bool false))]) (L := lT []) (wk := ⟨[0], [], 0, 0⟩)
    (ps := [(Value.bool (decide (x1_0 < (((Args.S).length : Nat) : Int)))) = (Value.bool false)]) (by kernel_rfl) ⟨(vbF hy1_1), trivial⟩
theorem m_viewportkitLightStylesq1_1_ok (n : Nat) {rnd : Option Nat} (st : Int) (r : (Unit) ⊕ (Unit)) (h : m_viewportkitLightStylesq1_1 n st = some r) : CG P rnd (fnN P 11) 0 (codeOf P 11 [false, true, false, true]) (S_viewportkitLightStylesq1_1 st) (X_viewportkitLightStylesq1_1 r) :=
  CG.iter (b := codeOf P 11 [false, false, true, false, true]) (by kernel_rfl) (body := B_viewportkitLightStylesq1_1 n) (S := S_viewportkitLightStylesq1_1) (X := X_viewportkitLightStylesq1_1)
    (fun x1_0 s' h => by
    unfold B_viewportkitLightStylesq1_1 at h
    dsimp only at h
    by_cases hy1_1 : x1_0 < (((Args.S).length : Nat) : Int)
    · rw [if_pos hy1_1] at h
      by_cases hy1_2 : 0 ≤ x1_0 ∧ x1_0 < (((Args.S).length : Nat) : Int)
      · rw [if_pos hy1_2] at h
        by_cases hy1_3 : ((((((Args.S).getD (x1_0).toNat (0, nl0, 0, 0)).2.1)).l.length : Nat) : Int) > (20 : Int)
        · rw [if_pos hy1_3] at h
          cases h
        · rw [if_neg hy1_3] at h
          obtain rfl := Sum.inl.inj (Option.some.inj h); exact q_viewportkitLightStylesq1_1_1 n x1_0 hy1_1 hy1_2 hy1_3
      · rw [if_neg hy1_2] at h; cases h
    · rw [if_neg hy1_1] at h
      cases h)
    (fun x1_0 r h => by
    unfold B_viewportkitLightStylesq1_1 at h
    dsimp only at h
    by_cases hy1_1 : x1_0 < (((Args.S).length : Nat) : Int)
    · rw [if_pos hy1_1] at h
      by_cases hy1_2 : 0 ≤ x1_0 ∧ x1_0 < (((Args.S).length : Nat) : Int)
      · rw [if_pos hy1_2] at h
        by_cases hy1_3 : ((((((Args.S).getD (x1_0).toNat (0, nl0, 0, 0)).2.1)).l.length : Nat) : Int) > (20 : Int)
        · rw [if_pos hy1_3] at h
          obtain rfl := Sum.inr.inj (Option.some.inj h); exact q_viewportkitLightStylesq1_1_0 n x1_0 hy1_1 hy1_2 hy1_3
        · rw [if_neg hy1_3] at h
          cases h
      · rw [if_neg hy1_2] at h; cases h
    · rw [if_neg hy1_1] at h
      obtain rfl := Sum.inr.inj (Option.some.inj h); exact q_viewportkitLightStylesq1_1_2 n x1_0 hy1_1)
    (fun r => by intro hx; rcases r with _ | _ <;> cases hx) h
noncomputable def A_viewportkitLightStylesq1 : List Value := [(Value.slice (some ⟨0, 0, some 1⟩) (Args.S).length Args.cS)]
noncomputable def H_viewportkitLightStylesq1 : AH := ⟨sB [], 0, 0⟩
noncomputable def V_viewportkitLightStylesq1 (r : Bool) : Value := match r with
  | o0 => (Value.bool o0)
noncomputable def R_viewportkitLightStylesq1 (r : Bool) : AH := match r with
  | o0 => ⟨sB [], 0, 0⟩
def m_viewportkitLightStylesq1 (n : Nat) : Option (Bool) :=
  match m_viewportkitLightStylesq1_1 n 0 with
  | none => none
  | some (.inl _) =>
    some false
  | some (.inr _) =>
    if (((Args.S).length : Nat) : Int) ≤ (70 : Int) then
      some true
    else
      some false
set_option maxRecDepth 100000 in
theorem p_viewportkitLightStylesq1_0 (n : Nat) (hc1 : m_viewportkitLightStylesq1_1 n 0 = some (.inl ())) : Gv P (.func 11) A_viewportkitLightStylesq1 H_viewportkitLightStylesq1 (V_viewportkitLightStylesq1  false) (R_viewportkitLightStylesq1  false) :=
  runF_ok hm (A := aT []) (L := lT [(6, ⟨⟨[0, 3], [], 0, 0⟩, (X_viewportkitLightStylesq1_1 (.inl ())).1, (X_viewportkitLightStylesq1_1 (.inl ())).2⟩)]) (wk := ⟨[2], [], 0, 0⟩)
    (ps := [CG P none (fnN P 11) 0 (codeOf P 11 [false, true, false, true]) (S_viewportkitLightStylesq1_1 0) (X_viewportkitLightStylesq1_1 (.inl ()))]) (by kernel_rfl) ⟨(m_viewportkitLightStylesq1_1_ok n 0 (.inl ()) hc1), trivial⟩
set_option maxRecDepth 100000 in
theorem p_viewportkitLightStylesq1_1 (n : Nat) (hc1 : m_viewportkitLightStylesq1_1 n 0 = some (.inr ())) (hc2 : (((Args.S).length : Nat) : Int) ≤ (70 : Int)) : Gv P (.func 11) A_viewportkitLightStylesq1 H_viewportkitLightStylesq1 (V_viewportkitLightStylesq1  true) (R_viewportkitLightStylesq1  true) :=
  runF_ok hm (A := aT [(10, .val (.bool true))]) (L := lT [(6, ⟨⟨[0, 3], [], 0, 0⟩, (X_viewportkitLightStylesq1_1 (.inr ())).1, (X_viewportkitLightStylesq1_1 (.inr ())).2⟩)]) (wk := ⟨[2], [], 0, 0⟩)
    (ps := [CG P none (fnN P 11) 0 (codeOf P 11 [false, true, false, true]) (S_viewportkitLightStylesq1_1 0) (X_viewportkitLightStylesq1_1 (.inr ())),
    (Value.bool (decide ((((Args.S).length : Nat) : Int) ≤ (70 : Int)))) = (Value.bool true)]) (by kernel_rfl) ⟨(m_viewportkitLightStylesq1_1_ok n 0 (.inr ()) hc1), (vbT hc2), trivial⟩
set_option maxRecDepth 100000 in
theorem p_viewportkitLightStylesq1_2 (n : Nat) (hc1 : m_viewportkitLightStylesq1_1 n 0 = some (.inr ())) (hc2 : ¬ ((((Args.S).length : Nat) : Int) ≤ (70 : Int))) : Gv P (.func 11) A_viewportkitLightStylesq1 H_viewportkitLightStylesq1 (V_viewportkitLightStylesq1  false) (R_viewportkitLightStylesq1  false) :=
  runF_ok hm (A := aT [(10, .val (.bool false))]) (L := lT [(6, ⟨⟨[0, 3], [], 0, 0⟩, (X_viewportkitLightStylesq1_1 (.inr ())).1, (X_viewportkitLightStylesq1_1 (.inr ())).2⟩)]) (wk := ⟨[2], [], 0, 0⟩)
    (ps := [CG P none (fnN P 11) 0 (codeOf P 11 [false, true, false, true]) (S_viewportkitLightStylesq1_1 0) (X_viewportkitLightStylesq1_1 (.inr ())),
    (Value.bool (decide ((((Args.S).length : Nat) : Int) ≤ (70 : Int)))) = (Value.bool false)]) (by kernel_rfl) ⟨(m_viewportkitLightStylesq1_1_ok n 0 (.inr ()) hc1), (vbF hc2), trivial⟩
theorem m_viewportkitLightStylesq1_ok (n : Nat) (r : Bool) (h : m_viewportkitLightStylesq1 n = some r) : Gv P (.func 11) A_viewportkitLightStylesq1 H_viewportkitLightStylesq1 (V_viewportkitLightStylesq1  r) (R_viewportkitLightStylesq1  r) := by
  unfold m_viewportkitLightStylesq1 at h
  rcases hc1 : m_viewportkitLightStylesq1_1 n 0 with _ | (⟨⟩ | ⟨⟩)
  · rw [hc1] at h; cases h
  · rw [hc1] at h
    dsimp only at h
    obtain rfl := Option.some.inj h; exact p_viewportkitLightStylesq1_0 n hc1
  · rw [hc1] at h
    dsimp only at h
    by_cases hc2 : (((Args.S).length : Nat) : Int) ≤ (70 : Int)
    · rw [if_pos hc2] at h
      obtain rfl := Option.some.inj h; exact p_viewportkitLightStylesq1_1 n hc1 hc2
    · rw [if_neg hc2] at h
      obtain rfl := Option.some.inj h; exact p_viewportkitLightStylesq1_2 n hc1 hc2

noncomputable def S_viewportkitLightPartsq1_1 (x1_0 : Int) (st : Unit) : XSt := match st with
  | _ => (sT 66 [(0, (Value.slice none 0 0)), (1, (Value.int .i64 x1_0)), (5, (Value.int .i64 (0 : Int))), (6, (Value.int .i64 (0 : Int)))], [], ⟨sB [], 0, 0⟩)
noncomputable def X_viewportkitLightPartsq1_1 (x1_0 : Int) (r : Unit) : Ex × XSt := match r with
  | _ => (.exit 0, (sT 66 [(0, (Value.slice none 0 0)), (1, (Value.int .i64 x1_0)), (5, (Value.int .i64 (0 : Int)))], [], ⟨sB [], 0, 0⟩))
def B_viewportkitLightPartsq1_1 (n : Nat) (x1_0 : Int) (st : Unit) : Option ((Unit) ⊕ (Unit)) := match st with
  | _ =>
    some (.inr ())
def m_viewportkitLightPartsq1_1 (n : Nat) (x1_0 : Int) (st : Unit) : Option (Unit) := iterM (B_viewportkitLightPartsq1_1 n x1_0) n st
set_option maxRecDepth 100000 in
theorem q_viewportkitLightPartsq1_1_0 (n : Nat) {rnd : Option Nat} (x1_0 : Int) : CG P rnd (fnN P 12) 0 (codeOf P 12 [false, false, true, false, true, true]) (S_viewportkitLightPartsq1_1 x1_0 ()) (X_viewportkitLightPartsq1_1 x1_0 ()) :=
  runC_ok hm (A := aT []) (L := lT []) (wk := ⟨[0, 1, 5], [], 0, 0⟩)
    (ps := []) (by kernel_rfl) trivial
theorem m_viewportkitLightPartsq1_1_ok (n : Nat) {rnd : Option Nat} (x1_0 : Int) (st : Unit) (r : Unit) (h : m_viewportkitLightPartsq1_1 n x1_0 st = some r) : CG P rnd (fnN P 12) 0 (codeOf P 12 [false, true, false, true, true]) (S_viewportkitLightPartsq1_1 x1_0 st) (X_viewportkitLightPartsq1_1 x1_0 r) :=
  CG.iter (b := codeOf P 12 [false, false, true, false, true, true]) (by kernel_rfl) (body := B_viewportkitLightPartsq1_1 n x1_0) (S := S_viewportkitLightPartsq1_1 x1_0) (X := X_viewportkitLightPartsq1_1 x1_0)
    (fun s s' h => by
    unfold B_viewportkitLightPartsq1_1 at h
    dsimp only at h
    cases h)
    (fun s r h => by
    unfold B_viewportkitLightPartsq1_1 at h
    dsimp only at h
    obtain rfl := Sum.inr.inj (Option.some.inj h); exact q_viewportkitLightPartsq1_1_0 n x1_0)
    (fun r => by intro hx; cases hx) h
noncomputable def A_viewportkitLightPartsq1 (a0 : Int) : List Value := [(Value.slice none 0 0), (Value.int .i64 a0)]
noncomputable def H_viewportkitLightPartsq1 (a0 : Int) : AH := ⟨sB [], 0, 0⟩
noncomputable def V_viewportkitLightPartsq1 (a0 : Int) (r : Bool) : Value := match r with
  | o0 => (Value.bool o0)
noncomputable def R_viewportkitLightPartsq1 (a0 : Int) (r : Bool) : AH := match r with
  | o0 => ⟨sB [], 0, 0⟩
def m_viewportkitLightPartsq1 (n : Nat) (a0 : Int) : Option (Bool) :=
  (m_viewportkitLightPartsq1_1 n a0 ()).bind fun _ =>
  if (0 : Int) ≤ a0 then
    if (0 : Int) ≤ (w64 ((2 : Int) * a0)) then
      some true
    else
      some false
  else
    some false
set_option maxRecDepth 100000 in
theorem p_viewportkitLightPartsq1_0 (n : Nat) (a0 : Int) (hc1 : m_viewportkitLightPartsq1_1 n a0 () = some ()) (hc2 : (0 : Int) ≤ a0) (hc3 : (0 : Int) ≤ (w64 ((2 : Int) * a0))) : Gv P (.func 12) (A_viewportkitLightPartsq1 a0) (H_viewportkitLightPartsq1 a0) (V_viewportkitLightPartsq1 a0 true) (R_viewportkitLightPartsq1 a0 true) :=
  runF_ok hm (A := aT [(13, .val (.bool true)), (18, .val (.bool true))]) (L := lT [(8, ⟨⟨[0, 1, 5, 6], [], 0, 0⟩, (X_viewportkitLightPartsq1_1 a0 ()).1, (X_viewportkitLightPartsq1_1 a0 ()).2⟩)]) (wk := ⟨[4], [], 0, 0⟩)
    (ps := [CG P none (fnN P 12) 0 (codeOf P 12 [false, true, false, true, true]) (S_viewportkitLightPartsq1_1 a0 ()) (X_viewportkitLightPartsq1_1 a0 ()),
    (Value.bool (decide ((0 : Int) ≤ a0))) = (Value.bool true),
    (Value.bool (decide ((0 : Int) ≤ (w64 ((2 : Int) * a0))))) = (Value.bool true)]) (by kernel_rfl) ⟨(m_viewportkitLightPartsq1_1_ok n a0 () () hc1), (vbT hc2), (vbT hc3), trivial⟩
set_option maxRecDepth 100000 in
theorem p_viewportkitLightPartsq1_1 (n : Nat) (a0 : Int) (hc1 : m_viewportkitLightPartsq1_1 n a0 () = some ()) (hc2 : (0 : Int) ≤ a0) (hc3 : ¬ ((0 : Int) ≤ (w64 ((2 : Int) * a0)))) : Gv P (.func 12) (A_viewportkitLightPartsq1 a0) (H_viewportkitLightPartsq1 a0) (V_viewportkitLightPartsq1 a0 false) (R_viewportkitLightPartsq1 a0 false) :=
  runF_ok hm (A := aT [(13, .val (.bool true)), (18, .val (.bool false))]) (L := lT [(8, ⟨⟨[0, 1, 5, 6], [], 0, 0⟩, (X_viewportkitLightPartsq1_1 a0 ()).1, (X_viewportkitLightPartsq1_1 a0 ()).2⟩)]) (wk := ⟨[4], [], 0, 0⟩)
    (ps := [CG P none (fnN P 12) 0 (codeOf P 12 [false, true, false, true, true]) (S_viewportkitLightPartsq1_1 a0 ()) (X_viewportkitLightPartsq1_1 a0 ()),
    (Value.bool (decide ((0 : Int) ≤ a0))) = (Value.bool true),
    (Value.bool (decide ((0 : Int) ≤ (w64 ((2 : Int) * a0))))) = (Value.bool false)]) (by kernel_rfl) ⟨(m_viewportkitLightPartsq1_1_ok n a0 () () hc1), (vbT hc2), (vbF hc3), trivial⟩
set_option maxRecDepth 100000 in
theorem p_viewportkitLightPartsq1_2 (n : Nat) (a0 : Int) (hc1 : m_viewportkitLightPartsq1_1 n a0 () = some ()) (hc2 : ¬ ((0 : Int) ≤ a0)) : Gv P (.func 12) (A_viewportkitLightPartsq1 a0) (H_viewportkitLightPartsq1 a0) (V_viewportkitLightPartsq1 a0 false) (R_viewportkitLightPartsq1 a0 false) :=
  runF_ok hm (A := aT [(13, .val (.bool false))]) (L := lT [(8, ⟨⟨[0, 1, 5, 6], [], 0, 0⟩, (X_viewportkitLightPartsq1_1 a0 ()).1, (X_viewportkitLightPartsq1_1 a0 ()).2⟩)]) (wk := ⟨[4], [], 0, 0⟩)
    (ps := [CG P none (fnN P 12) 0 (codeOf P 12 [false, true, false, true, true]) (S_viewportkitLightPartsq1_1 a0 ()) (X_viewportkitLightPartsq1_1 a0 ()),
    (Value.bool (decide ((0 : Int) ≤ a0))) = (Value.bool false)]) (by kernel_rfl) ⟨(m_viewportkitLightPartsq1_1_ok n a0 () () hc1), (vbF hc2), trivial⟩
theorem m_viewportkitLightPartsq1_ok (n : Nat) (a0 : Int) (r : Bool) (h : m_viewportkitLightPartsq1 n a0 = some r) : Gv P (.func 12) (A_viewportkitLightPartsq1 a0) (H_viewportkitLightPartsq1 a0) (V_viewportkitLightPartsq1 a0 r) (R_viewportkitLightPartsq1 a0 r) := by
  unfold m_viewportkitLightPartsq1 at h
  obtain ⟨_, hc1, h⟩ := Option.bind_eq_some_iff.1 h
  by_cases hc2 : (0 : Int) ≤ a0
  · rw [if_pos hc2] at h
    by_cases hc3 : (0 : Int) ≤ (w64 ((2 : Int) * a0))
    · rw [if_pos hc3] at h
      obtain rfl := Option.some.inj h; exact p_viewportkitLightPartsq1_0 n a0 hc1 hc2 hc3
    · rw [if_neg hc3] at h
      obtain rfl := Option.some.inj h; exact p_viewportkitLightPartsq1_1 n a0 hc1 hc2 hc3
  · rw [if_neg hc2] at h
    obtain rfl := Option.some.inj h; exact p_viewportkitLightPartsq1_2 n a0 hc1 hc2

noncomputable def A_viewportlaw26lightq1 : List Value := [(Value.slice (some ⟨0, 0, some 1⟩) (Args.S).length Args.cS), (Value.slice (some ⟨1, 0, some 1⟩) (Args.Y).length Args.cY), (Value.slice none 0 0)]
noncomputable def H_viewportlaw26lightq1 : AH := ⟨sB [], 0, 0⟩
noncomputable def V_viewportlaw26lightq1 (r : Bool) : Value := match r with
  | o0 => (Value.bool o0)
noncomputable def R_viewportlaw26lightq1 (r : Bool) : AH := match r with
  | o0 => ⟨sB [], 0, 0⟩
def m_viewportlaw26lightq1 (n : Nat) : Option (Bool) :=
  (m_viewportkitLightStylesq1 n).bind fun c1_ =>
  if c1_ = true then
    if (((Args.Y).length : Nat) : Int) ≤ (40 : Int) then
      (m_viewportkitLightPartsq1 n 100).bind fun c4_ =>
      some c4_
    else
      some false
  else
    some false
set_option maxRecDepth 100000 in
theorem p_viewportlaw26lightq1_0 (n : Nat) (c1_ : Bool) (hc1 : m_viewportkitLightStylesq1 n = some c1_) (hc2 : c1_ = true) (hc3 : (((Args.Y).length : Nat) : Int) ≤ (40 : Int)) (c4_ : Bool) (hc4 : m_viewportkitLightPartsq1 n 100 = some c4_) : Gv P (.func 6) A_viewportlaw26lightq1 H_viewportlaw26lightq1 (V_viewportlaw26lightq1  c4_) (R_viewportlaw26lightq1  c4_) :=
  runF_ok hm (A := aT [(4, .call ⟨0, [], (V_viewportkitLightStylesq1  c1_), (R_viewportkitLightStylesq1  c1_), []⟩), (5, .val (.bool true)), (8, .val (.bool true)), (12, .call ⟨0, [], (V_viewportkitLightPartsq1 100 c4_), (R_viewportkitLightPartsq1 100 c4_), []⟩)]) (L := lT []) (wk := ⟨[6], [], 0, 0⟩)
    (ps := [Gv P (.func 11) A_viewportkitLightStylesq1 H_viewportkitLightStylesq1 (V_viewportkitLightStylesq1  c1_) (R_viewportkitLightStylesq1  c1_),
    (Value.bool c1_) = (Value.bool true),
    (Value.bool (decide ((((Args.Y).length : Nat) : Int) ≤ (40 : Int)))) = (Value.bool true),
    Gv P (.func 12) (A_viewportkitLightPartsq1 100) (H_viewportkitLightPartsq1 100) (V_viewportkitLightPartsq1 100 c4_) (R_viewportkitLightPartsq1 100 c4_)]) (by kernel_rfl) ⟨(m_viewportkitLightStylesq1_ok n c1_ hc1), (vB hc2), (vbT hc3), (m_viewportkitLightPartsq1_ok n 100 c4_ hc4), trivial⟩
set_option maxRecDepth 100000 in
theorem p_viewportlaw26lightq1_1 (n : Nat) (c1_ : Bool) (hc1 : m_viewportkitLightStylesq1 n = some c1_) (hc2 : c1_ = true) (hc3 : ¬ ((((Args.Y).length : Nat) : Int) ≤ (40 : Int))) : Gv P (.func 6) A_viewportlaw26lightq1 H_viewportlaw26lightq1 (V_viewportlaw26lightq1  false) (R_viewportlaw26lightq1  false) :=
  runF_ok hm (A := aT [(4, .call ⟨0, [], (V_viewportkitLightStylesq1  c1_), (R_viewportkitLightStylesq1  c1_), []⟩), (5, .val (.bool true)), (8, .val (.bool false))]) (L := lT []) (wk := ⟨[6], [], 0, 0⟩)
    (ps := [Gv P (.func 11) A_viewportkitLightStylesq1 H_viewportkitLightStylesq1 (V_viewportkitLightStylesq1  c1_) (R_viewportkitLightStylesq1  c1_),
    (Value.bool c1_) = (Value.bool true),
    (Value.bool (decide ((((Args.Y).length : Nat) : Int) ≤ (40 : Int)))) = (Value.bool false)]) (by kernel_rfl) ⟨(m_viewportkitLightStylesq1_ok n c1_ hc1), (vB hc2), (vbF hc3), trivial⟩
set_option maxRecDepth 100000 in
theorem p_viewportlaw26lightq1_2 (n : Nat) (c1_ : Bool) (hc1 : m_viewportkitLightStylesq1 n = some c1_) (hc2 : ¬ (c1_ = true)) : Gv P (.func 6) A_viewportlaw26lightq1 H_viewportlaw26lightq1 (V_viewportlaw26lightq1  false) (R_viewportlaw26lightq1  false) :=
  runF_ok hm (A := aT [(4, .call ⟨0, [], (V_viewportkitLightStylesq1  c1_), (R_viewportkitLightStylesq1  c1_), []⟩), (5, .val (.bool false))]) (L := lT []) (wk := ⟨[6], [], 0, 0⟩)
    (ps := [Gv P (.func 11) A_viewportkitLightStylesq1 H_viewportkitLightStylesq1 (V_viewportkitLightStylesq1  c1_) (R_viewportkitLightStylesq1  c1_),
    (Value.bool c1_) = (Value.bool false)]) (by kernel_rfl) ⟨(m_viewportkitLightStylesq1_ok n c1_ hc1), (vB (Bool.eq_false_iff.2 hc2)), trivial⟩
theorem m_viewportlaw26lightq1_ok (n : Nat) (r : Bool) (h : m_viewportlaw26lightq1 n = some r) : Gv P (.func 6) A_viewportlaw26lightq1 H_viewportlaw26lightq1 (V_viewportlaw26lightq1  r) (R_viewportlaw26lightq1  r) := by
  unfold m_viewportlaw26lightq1 at h
  obtain ⟨c1_, hc1, h⟩ := Option.bind_eq_some_iff.1 h
  by_cases hc2 : c1_ = true
  · rw [if_pos hc2] at h
    by_cases hc3 : (((Args.Y).length : Nat) : Int) ≤ (40 : Int)
    · rw [if_pos hc3] at h
      obtain ⟨c4_, hc4, h⟩ := Option.bind_eq_some_iff.1 h
      obtain rfl := Option.some.inj h; exact p_viewportlaw26lightq1_0 n c1_ hc1 hc2 hc3 c4_ hc4
    · rw [if_neg hc3] at h
      obtain rfl := Option.some.inj h; exact p_viewportlaw26lightq1_1 n c1_ hc1 hc2 hc3
  · rw [if_neg hc2] at h
    obtain rfl := Option.some.inj h; exact p_viewportlaw26lightq1_2 n c1_ hc1 hc2

noncomputable def S_viewportkitSameintq1_1 (x1_0 : NL) (x1_1 : Nat) (x1_2 : Nat) (x1_3 : Nat) (st : Int) : XSt := match st with
  | x1_4 => (sT 26 [(0, (nlV x1_0)), (1, (Value.slice (some ⟨1, x1_3, some 1⟩) x1_1 x1_2)), (5, (Value.int .i64 x1_4))], [], ⟨sB [], 0, 0⟩)
noncomputable def X_viewportkitSameintq1_1 (x1_0 : NL) (x1_1 : Nat) (x1_2 : Nat) (x1_3 : Nat) (r : (Unit) ⊕ (Unit)) : Ex × XSt := match r with
  | .inl _ => (.ret, (sT 26 [(4, (Value.bool false))], [], ⟨sB [], 0, 0⟩))
  | .inr _ => (.exit 0, (sT 26 [], [], ⟨sB [], 0, 0⟩))
def B_viewportkitSameintq1_1 (n : Nat) (x1_0 : NL) (x1_1 : Nat) (x1_2 : Nat) (x1_3 : Nat) (st : Int) : Option ((Int) ⊕ ((Unit) ⊕ (Unit))) := match st with
  | x1_4 =>
    if x1_4 < (((x1_0).l.length : Nat) : Int) then
      if 0 ≤ x1_4 ∧ x1_4 < (((x1_0).l.length : Nat) : Int) then
        if (x1_4).toNat < ((x1_0).l).length then
          if 0 ≤ x1_4 ∧ x1_4 < ((x1_1 : Nat) : Int) then
            if (x1_3 + (x1_4).toNat) < (Args.Y).length then
              if (((x1_0).l).getD (x1_4).toNat 0) = ((Args.Y).getD (x1_3 + (x1_4).toNat) 0) then
                some (.inl (w64 (x1_4 + (1 : Int))))
              else
                some (.inr (.inl ()))
            else none
          else none
        else none
      else none
    else
      some (.inr (.inr ()))
def m_viewportkitSameintq1_1 (n : Nat) (x1_0 : NL) (x1_1 : Nat) (x1_2 : Nat) (x1_3 : Nat) (st : Int) : Option ((Unit) ⊕ (Unit)) := iterM (B_viewportkitSameintq1_1 n x1_0 x1_1 x1_2 x1_3) n st
set_option maxRecDepth 100000 in
theorem q_viewportkitSameintq1_1_0 (n : Nat) {rnd : Option Nat} (x1_0 : NL) (x1_1 : Nat) (x1_2 : Nat) (x1_3 : Nat) (x1_4 : Int) (hy1_1 : x1_4 < (((x1_0).l.length : Nat) : Int)) (hy1_2 : 0 ≤ x1_4 ∧ x1_4 < (((x1_0).l.length : Nat) : Int)) (hy1_3 : (x1_4).toNat < ((x1_0).l).length) (hy1_4 : 0 ≤ x1_4 ∧ x1_4 < ((x1_1 : Nat) : Int)) (hy1_5 : (x1_3 + (x1_4).toNat) < (Args.Y).length) (hy1_6 : (((x1_0).l).getD (x1_4).toNat 0) = ((Args.Y).getD (x1_3 + (x1_4).toNat) 0)) : CG P rnd (fnN P 7) 0 (codeOf P 7 [false, false, true, false, true, true]) (S_viewportkitSameintq1_1 x1_0 x1_1 x1_2 x1_3 x1_4) (.normal, S_viewportkitSameintq1_1 x1_0 x1_1 x1_2 x1_3 (w64 (x1_4 + (1 : Int)))) :=
  runC_ok hm (A := aT [(5, .val (.bool true)), (12, .pur (Value.pointer (some ⟨(Nat.add (x1_0).num 64), (x1_4).toNat, some 1⟩))), (13, .ld (Value.int .i64 (((x1_0).l).getD (x1_4).toNat 0))), (16, .pur (Value.pointer (some ⟨1, (x1_3 + (x1_4).toNat), some 1⟩))), (17, .ld (Value.int .i64 ((Args.Y).getD (x1_3 + (x1_4).toNat) 0))), (18, .val (.bool false))]) (L := lT []) (wk := ⟨[0, 1, 5], [], 0, 0⟩)
    (ps := [(Value.bool (decide (x1_4 < (((x1_0).l.length : Nat) : Int)))) = (Value.bool true),
    opIndexAddr P 23 (nlV x1_0) (Value.int .i64 x1_4) Ax.h0 = some ((Value.pointer (some ⟨(Nat.add (x1_0).num 64), (x1_4).toNat, some 1⟩)), Ax.h0),
    loadG P 3 (Value.pointer (some ⟨(Nat.add (x1_0).num 64), (x1_4).toNat, some 1⟩)) Ax.h0 = some ((Value.int .i64 (((x1_0).l).getD (x1_4).toNat 0)), Ax.h0),
    opIndexAddr P 23 (Value.slice (some ⟨1, x1_3, some 1⟩) x1_1 x1_2) (Value.int .i64 x1_4) Ax.h0 = some ((Value.pointer (some ⟨1, (x1_3 + (x1_4).toNat), some 1⟩)), Ax.h0),
    loadG P 3 (Value.pointer (some ⟨1, (x1_3 + (x1_4).toNat), some 1⟩)) Ax.h0 = some ((Value.int .i64 ((Args.Y).getD (x1_3 + (x1_4).toNat) 0)), Ax.h0),
    (Value.bool ((((x1_0).l).getD (x1_4).toNat 0) != ((Args.Y).getD (x1_3 + (x1_4).toNat) 0))) = (Value.bool false)]) (by kernel_rfl) ⟨(vbT hy1_1), (ixW1 (e := 3) (by kernel_rfl) (by kernel_rfl) hy1_2), (ldN x1_0 (by kernel_rfl) hy1_3), (ixW1O (e := 3) (by kernel_rfl) (by kernel_rfl) hy1_4), (ldW rfl (by kernel_rfl) hy1_5), (vnF hy1_6), trivial⟩
set_option maxRecDepth 100000 in
theorem q_viewportkitSameintq1_1_1 (n : Nat) {rnd : Option Nat} (x1_0 : NL) (x1_1 : Nat) (x1_2 : Nat) (x1_3 : Nat) (x1_4 : Int) (hy1_1 : x1_4 < (((x1_0).l.length : Nat) : Int)) (hy1_2 : 0 ≤ x1_4 ∧ x1_4 < (((x1_0).l.length : Nat) : Int)) (hy1_3 : (x1_4).toNat < ((x1_0).l).length) (hy1_4 : 0 ≤ x1_4 ∧ x1_4 < ((x1_1 : Nat) : Int)) (hy1_5 : (x1_3 + (x1_4).toNat) < (Args.Y).length) (hy1_6 : ¬ ((((x1_0).l).getD (x1_4).toNat 0) = ((Args.Y).getD (x1_3 + (x1_4).toNat) 0))) : CG P rnd (fnN P 7) 0 (codeOf P 7 [false, false, true, false, true, true]) (S_viewportkitSameintq1_1 x1_0 x1_1 x1_2 x1_3 x1_4) (X_viewportkitSameintq1_1 x1_0 x1_1 x1_2 x1_3 (.inl ())) :=
  runC_ok hm (A := aT [(5, .val (.bool true)), (12, .pur (Value.pointer (some ⟨(Nat.add (x1_0).num 64), (x1_4).toNat, some 1⟩))), (13, .ld (Value.int .i64 (((x1_0).l).getD (x1_4).toNat 0))), (16, .pur (Value.pointer (some ⟨1, (x1_3 + (x1_4).toNat), some 1⟩))), (17, .ld (Value.int .i64 ((Args.Y).getD (x1_3 + (x1_4).toNat) 0))), (18, .val (.bool true))]) (L := lT []) (wk := ⟨[4], [], 0, 0⟩)
    (ps := [(Value.bool (decide (x1_4 < (((x1_0).l.length : Nat) : Int)))) = (Value.bool true),
    opIndexAddr P 23 (nlV x1_0) (Value.int .i64 x1_4) Ax.h0 = some ((Value.pointer (some ⟨(Nat.add (x1_0).num 64), (x1_4).toNat, some 1⟩)), Ax.h0),
    loadG P 3 (Value.pointer (some ⟨(Nat.add (x1_0).num 64), (x1_4).toNat, some 1⟩)) Ax.h0 = some ((Value.int .i64 (((x1_0).l).getD (x1_4).toNat 0)), Ax.h0),
    opIndexAddr P 23 (Value.slice (some ⟨1, x1_3, some 1⟩) x1_1 x1_2) (Value.int .i64 x1_4) Ax.h0 = some ((Value.pointer (some ⟨1, (x1_3 + (x1_4).toNat), some 1⟩)), Ax.h0),
    loadG P 3 (Value.pointer (some ⟨1, (x1_3 + (x1_4).toNat), some 1⟩)) Ax.h0 = some ((Value.int .i64 ((Args.Y).getD (x1_3 + (x1_4).toNat) 0)), Ax.h0),
    (Value.bool ((((x1_0).l).getD (x1_4).toNat 0) != ((Args.Y).getD (x1_3 + (x1_4).toNat) 0))) = (Value.bool true)]) (by kernel_rfl) ⟨(vbT hy1_1), (ixW1 (e := 3) (by kernel_rfl) (by kernel_rfl) hy1_2), (ldN x1_0 (by kernel_rfl) hy1_3), (ixW1O (e := 3) (by kernel_rfl) (by kernel_rfl) hy1_4), (ldW rfl (by kernel_rfl) hy1_5), (vnT hy1_6), trivial⟩
set_option maxRecDepth 100000 in
theorem q_viewportkitSameintq1_1_2 (n : Nat) {rnd : Option Nat} (x1_0 : NL) (x1_1 : Nat) (x1_2 : Nat) (x1_3 : Nat) (x1_4 : Int) (hy1_1 : ¬ (x1_4 < (((x1_0).l.length : Nat) : Int))) : CG P rnd (fnN P 7) 0 (codeOf P 7 [false, false, true, false, true, true]) (S_viewportkitSameintq1_1 x1_0 x1_1 x1_2 x1_3 x1_4) (X_viewportkitSameintq1_1 x1_0 x1_1 x1_2 x1_3 (.inr ())) :=
  runC_ok hm (A := aT [(5, .val (.bool false))]) (L := lT []) (wk := ⟨[], [], 0, 0⟩)
    (ps := [(Value.bool (decide (x1_4 < (((x1_0).l.length : Nat) : Int)))) = (Value.bool false)]) (by kernel_rfl) ⟨(vbF hy1_1), trivial⟩
theorem m_viewportkitSameintq1_1_ok (n : Nat) {rnd : Option Nat} (x1_0 : NL) (x1_1 : Nat) (x1_2 : Nat) (x1_3 : Nat) (st : Int) (r : (Unit) ⊕ (Unit)) (h : m_viewportkitSameintq1_1 n x1_0 x1_1 x1_2 x1_3 st = some r) : CG P rnd (fnN P 7) 0 (codeOf P 7 [false, true, false, true, true]) (S_viewportkitSameintq1_1 x1_0 x1_1 x1_2 x1_3 st) (X_viewportkitSameintq1_1 x1_0 x1_1 x1_2 x1_3 r) :=
  CG.iter (b := codeOf P 7 [false, false, true, false, true, true]) (by kernel_rfl) (body := B_viewportkitSameintq1_1 n x1_0 x1_1 x1_2 x1_3) (S := S_viewportkitSameintq1_1 x1_0 x1_1 x1_2 x1_3) (X := X_viewportkitSameintq1_1 x1_0 x1_1 x1_2 x1_3)
    (fun x1_4 s' h => by
    unfold B_viewportkitSameintq1_1 at h
    dsimp only at h
    by_cases hy1_1 : x1_4 < (((x1_0).l.length : Nat) : Int)
    · rw [if_pos hy1_1] at h
      by_cases hy1_2 : 0 ≤ x1_4 ∧ x1_4 < (((x1_0).l.length : Nat) : Int)
      · rw [if_pos hy1_2] at h
        by_cases hy1_3 : (x1_4).toNat < ((x1_0).l).length
        · rw [if_pos hy1_3] at h
          by_cases hy1_4 : 0 ≤ x1_4 ∧ x1_4 < ((x1_1 : Nat) : Int)
          · rw [if_pos hy1_4] at h
            by_cases hy1_5 : (x1_3 + (x1_4).toNat) < (Args.Y).length
            · rw [if_pos hy1_5] at h
              by_cases hy1_6 : (((x1_0).l).getD (x1_4).toNat 0) = ((Args.Y).getD (x1_3 + (x1_4).toNat) 0)
              · rw [if_pos hy1_6] at h
                obtain rfl := Sum.inl.inj (Option.some.inj h); exact q_viewportkitSameintq1_1_0 n x1_0 x1_1 x1_2 x1_3 x1_4 hy1_1 hy1_2 hy1_3 hy1_4 hy1_5 hy1_6
              · rw [if_neg hy1_6] at h
                cases h
            · rw [if_neg hy1_5] at h; cases h
          · rw [if_neg hy1_4] at h; cases h
        · rw [if_neg hy1_3] at h; cases h
      · rw [if_neg hy1_2] at h; cases h
    · rw [if_neg hy1_1] at h
      cases h)
    (fun x1_4 r h => by
    unfold B_viewportkitSameintq1_1 at h
    dsimp only at h
    by_cases hy1_1 : x1_4 < (((x1_0).l.length : Nat) : Int)
    · rw [if_pos hy1_1] at h
      by_cases hy1_2 : 0 ≤ x1_4 ∧ x1_4 < (((x1_0).l.length : Nat) : Int)
      · rw [if_pos hy1_2] at h
        by_cases hy1_3 : (x1_4).toNat < ((x1_0).l).length
        · rw [if_pos hy1_3] at h
          by_cases hy1_4 : 0 ≤ x1_4 ∧ x1_4 < ((x1_1 : Nat) : Int)
          · rw [if_pos hy1_4] at h
            by_cases hy1_5 : (x1_3 + (x1_4).toNat) < (Args.Y).length
            · rw [if_pos hy1_5] at h
              by_cases hy1_6 : (((x1_0).l).getD (x1_4).toNat 0) = ((Args.Y).getD (x1_3 + (x1_4).toNat) 0)
              · rw [if_pos hy1_6] at h
                cases h
              · rw [if_neg hy1_6] at h
                obtain rfl := Sum.inr.inj (Option.some.inj h); exact q_viewportkitSameintq1_1_1 n x1_0 x1_1 x1_2 x1_3 x1_4 hy1_1 hy1_2 hy1_3 hy1_4 hy1_5 hy1_6
            · rw [if_neg hy1_5] at h; cases h
          · rw [if_neg hy1_4] at h; cases h
        · rw [if_neg hy1_3] at h; cases h
      · rw [if_neg hy1_2] at h; cases h
    · rw [if_neg hy1_1] at h
      obtain rfl := Sum.inr.inj (Option.some.inj h); exact q_viewportkitSameintq1_1_2 n x1_0 x1_1 x1_2 x1_3 x1_4 hy1_1)
    (fun r => by intro hx; rcases r with _ | _ <;> cases hx) h
noncomputable def A_viewportkitSameintq1 (a0 : NL) (a1 : Nat) (a2 : Nat) (a3 : Nat) : List Value := [(nlV a0), (Value.slice (some ⟨1, a3, some 1⟩) a1 a2)]
noncomputable def H_viewportkitSameintq1 (a0 : NL) (a1 : Nat) (a2 : Nat) (a3 : Nat) : AH := ⟨sB [], 0, 0⟩
noncomputable def V_viewportkitSameintq1 (a0 : NL) (a1 : Nat) (a2 : Nat) (a3 : Nat) (r : Bool) : Value := match r with
  | o0 => (Value.bool o0)
noncomputable def R_viewportkitSameintq1 (a0 : NL) (a1 : Nat) (a2 : Nat) (a3 : Nat) (r : Bool) : AH := match r with
  | o0 => ⟨sB [], 0, 0⟩
def m_viewportkitSameintq1 (n : Nat) (a0 : NL) (a1 : Nat) (a2 : Nat) (a3 : Nat) : Option (Bool) :=
  if (((a0).l.length : Nat) : Int) = ((a1 : Nat) : Int) then
    match m_viewportkitSameintq1_1 n a0 a1 a2 a3 0 with
    | none => none
    | some (.inl _) =>
      some false
    | some (.inr _) =>
      some true
  else
    some false
set_option maxRecDepth 100000 in
theorem p_viewportkitSameintq1_0 (n : Nat) (a0 : NL) (a1 : Nat) (a2 : Nat) (a3 : Nat) (hc1 : (((a0).l.length : Nat) : Int) = ((a1 : Nat) : Int)) (hc2 : m_viewportkitSameintq1_1 n a0 a1 a2 a3 0 = some (.inl ())) : Gv P (.func 7) (A_viewportkitSameintq1 a0 a1 a2 a3) (H_viewportkitSameintq1 a0 a1 a2 a3) (V_viewportkitSameintq1 a0 a1 a2 a3 false) (R_viewportkitSameintq1 a0 a1 a2 a3 false) :=
  runF_ok hm (A := aT [(8, .val (.bool false))]) (L := lT [(14, ⟨⟨[0, 1, 5], [], 0, 0⟩, (X_viewportkitSameintq1_1 a0 a1 a2 a3 (.inl ())).1, (X_viewportkitSameintq1_1 a0 a1 a2 a3 (.inl ())).2⟩)]) (wk := ⟨[4], [], 0, 0⟩)
    (ps := [(Value.bool ((((a0).l.length : Nat) : Int) != ((a1 : Nat) : Int))) = (Value.bool false),
    CG P none (fnN P 7) 0 (codeOf P 7 [false, true, false, true, true]) (S_viewportkitSameintq1_1 a0 a1 a2 a3 0) (X_viewportkitSameintq1_1 a0 a1 a2 a3 (.inl ()))]) (by kernel_rfl) ⟨(vnF hc1), (m_viewportkitSameintq1_1_ok n a0 a1 a2 a3 0 (.inl ()) hc2), trivial⟩
set_option maxRecDepth 100000 in
theorem p_viewportkitSameintq1_1 (n : Nat) (a0 : NL) (a1 : Nat) (a2 : Nat) (a3 : Nat) (hc1 : (((a0).l.length : Nat) : Int) = ((a1 : Nat) : Int)) (hc2 : m_viewportkitSameintq1_1 n a0 a1 a2 a3 0 = some (.inr ())) : Gv P (.func 7) (A_viewportkitSameintq1 a0 a1 a2 a3) (H_viewportkitSameintq1 a0 a1 a2 a3) (V_viewportkitSameintq1 a0 a1 a2 a3 true) (R_viewportkitSameintq1 a0 a1 a2 a3 true) :=
  runF_ok hm (A := aT [(8, .val (.bool false))]) (L := lT [(14, ⟨⟨[0, 1, 5], [], 0, 0⟩, (X_viewportkitSameintq1_1 a0 a1 a2 a3 (.inr ())).1, (X_viewportkitSameintq1_1 a0 a1 a2 a3 (.inr ())).2⟩)]) (wk := ⟨[4], [], 0, 0⟩)
    (ps := [(Value.bool ((((a0).l.length : Nat) : Int) != ((a1 : Nat) : Int))) = (Value.bool false),
    CG P none (fnN P 7) 0 (codeOf P 7 [false, true, false, true, true]) (S_viewportkitSameintq1_1 a0 a1 a2 a3 0) (X_viewportkitSameintq1_1 a0 a1 a2 a3 (.inr ()))]) (by kernel_rfl) ⟨(vnF hc1), (m_viewportkitSameintq1_1_ok n a0 a1 a2 a3 0 (.inr ()) hc2), trivial⟩
set_option maxRecDepth 100000 in
theorem p_viewportkitSameintq1_2 (n : Nat) (a0 : NL) (a1 : Nat) (a2 : Nat) (a3 : Nat) (hc1 : ¬ ((((a0).l.length : Nat) : Int) = ((a1 : Nat) : Int))) : Gv P (.func 7) (A_viewportkitSameintq1 a0 a1 a2 a3) (H_viewportkitSameintq1 a0 a1 a2 a3) (V_viewportkitSameintq1 a0 a1 a2 a3 false) (R_viewportkitSameintq1 a0 a1 a2 a3 false) :=
  runF_ok hm (A := aT [(8, .val (.bool true))]) (L := lT []) (wk := ⟨[4], [], 0, 0⟩)
    (ps := [(Value.bool ((((a0).l.length : Nat) : Int) != ((a1 : Nat) : Int))) = (Value.bool true)]) (by kernel_rfl) ⟨(vnT hc1), trivial⟩
theorem m_viewportkitSameintq1_ok (n : Nat) (a0 : NL) (a1 : Nat) (a2 : Nat) (a3 : Nat) (r : Bool) (h : m_viewportkitSameintq1 n a0 a1 a2 a3 = some r) : Gv P (.func 7) (A_viewportkitSameintq1 a0 a1 a2 a3) (H_viewportkitSameintq1 a0 a1 a2 a3) (V_viewportkitSameintq1 a0 a1 a2 a3 r) (R_viewportkitSameintq1 a0 a1 a2 a3 r) := by
  unfold m_viewportkitSameintq1 at h
  by_cases hc1 : (((a0).l.length : Nat) : Int) = ((a1 : Nat) : Int)
  · rw [if_pos hc1] at h
    rcases hc2 : m_viewportkitSameintq1_1 n a0 a1 a2 a3 0 with _ | (⟨⟩ | ⟨⟩)
    · rw [hc2] at h; cases h
    · rw [hc2] at h
      dsimp only at h
      obtain rfl := Option.some.inj h; exact p_viewportkitSameintq1_0 n a0 a1 a2 a3 hc1 hc2
    · rw [hc2] at h
      dsimp only at h
      obtain rfl := Option.some.inj h; exact p_viewportkitSameintq1_1 n a0 a1 a2 a3 hc1 hc2
  · rw [if_neg hc1] at h
    obtain rfl := Option.some.inj h; exact p_viewportkitSameintq1_2 n a0 a1 a2 a3 hc1

noncomputable def S_slicesEqualintintq1_1 (x1_0 : Nat) (x1_1 : Nat) (x1_2 : Nat) (x1_3 : NL) (x1_4 : Int) (st : Int) : XSt := match st with
  | x1_5 => (sT 26 [(0, (Value.slice (some ⟨1, x1_2, some 1⟩) x1_0 x1_1)), (1, (nlV x1_3)), (12, (Value.int .i64 x1_4)), (13, (Value.int .i64 x1_5))], [], ⟨sB [], 0, 0⟩)
noncomputable def X_slicesEqualintintq1_1 (x1_0 : Nat) (x1_1 : Nat) (x1_2 : Nat) (x1_3 : NL) (x1_4 : Int) (r : (Unit) ⊕ (Unit)) : Ex × XSt := match r with
  | .inl _ => (.ret, (sT 26 [(4, (Value.bool false))], [], ⟨sB [], 0, 0⟩))
  | .inr _ => (.exit 0, (sT 26 [], [], ⟨sB [], 0, 0⟩))
def B_slicesEqualintintq1_1 (n : Nat) (x1_0 : Nat) (x1_1 : Nat) (x1_2 : Nat) (x1_3 : NL) (x1_4 : Int) (st : Int) : Option ((Int) ⊕ ((Unit) ⊕ (Unit))) := match st with
  | x1_5 =>
    if x1_5 < x1_4 then
      if 0 ≤ x1_5 ∧ x1_5 < ((x1_0 : Nat) : Int) then
        if (x1_2 + (x1_5).toNat) < (Args.Y).length then
          if 0 ≤ x1_5 ∧ x1_5 < (((x1_3).l.length : Nat) : Int) then
            if (x1_5).toNat < ((x1_3).l).length then
              if ((Args.Y).getD (x1_2 + (x1_5).toNat) 0) = (((x1_3).l).getD (x1_5).toNat 0) then
                some (.inl (w64 (x1_5 + (1 : Int))))
              else
                some (.inr (.inl ()))
            else none
          else none
        else none
      else none
    else
      some (.inr (.inr ()))
def m_slicesEqualintintq1_1 (n : Nat) (x1_0 : Nat) (x1_1 : Nat) (x1_2 : Nat) (x1_3 : NL) (x1_4 : Int) (st : Int) : Option ((Unit) ⊕ (Unit)) := iterM (B_slicesEqualintintq1_1 n x1_0 x1_1 x1_2 x1_3 x1_4) n st
set_option maxRecDepth 100000 in
theorem q_slicesEqualintintq1_1_0 (n : Nat) {rnd : Option Nat} (x1_0 : Nat) (x1_1 : Nat) (x1_2 : Nat) (x1_3 : NL) (x1_4 : Int) (x1_5 : Int) (hy1_1 : x1_5 < x1_4) (hy1_2 : 0 ≤ x1_5 ∧ x1_5 < ((x1_0 : Nat) : Int)) (hy1_3 : (x1_2 + (x1_5).toNat) < (Args.Y).length) (hy1_4 : 0 ≤ x1_5 ∧ x1_5 < (((x1_3).l.length : Nat) : Int)) (hy1_5 : (x1_5).toNat < ((x1_3).l).length) (hy1_6 : ((Args.Y).getD (x1_2 + (x1_5).toNat) 0) = (((x1_3).l).getD (x1_5).toNat 0)) : CG P rnd (fnN P 17) 0 (codeOf P 17 [false, false, true, false, true, true]) (S_slicesEqualintintq1_1 x1_0 x1_1 x1_2 x1_3 x1_4 x1_5) (.normal, S_slicesEqualintintq1_1 x1_0 x1_1 x1_2 x1_3 x1_4 (w64 (x1_5 + (1 : Int)))) :=
  runC_ok hm (A := aT [(1, .val (.bool true)), (12, .pur (Value.pointer (some ⟨1, (x1_2 + (x1_5).toNat), some 1⟩))), (13, .ld (Value.int .i64 ((Args.Y).getD (x1_2 + (x1_5).toNat) 0))), (16, .pur (Value.pointer (some ⟨(Nat.add (x1_3).num 64), (x1_5).toNat, some 1⟩))), (17, .ld (Value.int .i64 (((x1_3).l).getD (x1_5).toNat 0))), (18, .val (.bool false))]) (L := lT []) (wk := ⟨[0, 1, 12, 13], [], 0, 0⟩)
    (ps := [(Value.bool (decide (x1_5 < x1_4))) = (Value.bool true),
    opIndexAddr P 23 (Value.slice (some ⟨1, x1_2, some 1⟩) x1_0 x1_1) (Value.int .i64 x1_5) Ax.h0 = some ((Value.pointer (some ⟨1, (x1_2 + (x1_5).toNat), some 1⟩)), Ax.h0),
    loadG P 3 (Value.pointer (some ⟨1, (x1_2 + (x1_5).toNat), some 1⟩)) Ax.h0 = some ((Value.int .i64 ((Args.Y).getD (x1_2 + (x1_5).toNat) 0)), Ax.h0),
    opIndexAddr P 23 (nlV x1_3) (Value.int .i64 x1_5) Ax.h0 = some ((Value.pointer (some ⟨(Nat.add (x1_3).num 64), (x1_5).toNat, some 1⟩)), Ax.h0),
    loadG P 3 (Value.pointer (some ⟨(Nat.add (x1_3).num 64), (x1_5).toNat, some 1⟩)) Ax.h0 = some ((Value.int .i64 (((x1_3).l).getD (x1_5).toNat 0)), Ax.h0),
    (Value.bool (((Args.Y).getD (x1_2 + (x1_5).toNat) 0) != (((x1_3).l).getD (x1_5).toNat 0))) = (Value.bool false)]) (by kernel_rfl) ⟨(vbT hy1_1), (ixW1O (e := 3) (by kernel_rfl) (by kernel_rfl) hy1_2), (ldW rfl (by kernel_rfl) hy1_3), (ixW1 (e := 3) (by kernel_rfl) (by kernel_rfl) hy1_4), (ldN x1_3 (by kernel_rfl) hy1_5), (vnF hy1_6), trivial⟩
set_option maxRecDepth 100000 in
theorem q_slicesEqualintintq1_1_1 (n : Nat) {rnd : Option Nat} (x1_0 : Nat) (x1_1 : Nat) (x1_2 : Nat) (x1_3 : NL) (x1_4 : Int) (x1_5 : Int) (hy1_1 : x1_5 < x1_4) (hy1_2 : 0 ≤ x1_5 ∧ x1_5 < ((x1_0 : Nat) : Int)) (hy1_3 : (x1_2 + (x1_5).toNat) < (Args.Y).length) (hy1_4 : 0 ≤ x1_5 ∧ x1_5 < (((x1_3).l.length : Nat) : Int)) (hy1_5 : (x1_5).toNat < ((x1_3).l).length) (hy1_6 : ¬ (((Args.Y).getD (x1_2 + (x1_5).toNat) 0) = (((x1_3).l).getD (x1_5).toNat 0))) : CG P rnd (fnN P 17) 0 (codeOf P 17 [false, false, true, false, true, true]) (S_slicesEqualintintq1_1 x1_0 x1_1 x1_2 x1_3 x1_4 x1_5) (X_slicesEqualintintq1_1 x1_0 x1_1 x1_2 x1_3 x1_4 (.inl ())) :=
  runC_ok hm (A := aT [(1, .val (.bool true)), (12, .pur (Value.pointer (some ⟨1, (x1_2 + (x1_5).toNat), some 1⟩))), (13, .ld (Value.int .i64 ((Args.Y).getD (x1_2 + (x1_5).toNat) 0))), (16, .pur (Value.pointer (some ⟨(Nat.add (x1_3).num 64), (x1_5).toNat, some 1⟩))), (17, .ld (Value.int .i64 (((x1_3).l).getD (x1_5).toNat 0))), (18, .val (.bool true))]) (L := lT []) (wk := ⟨[4], [], 0, 0⟩)
    (ps := [(Value.bool (decide (x1_5 < x1_4))) = (Value.bool true),
    opIndexAddr P 23 (Value.slice (some ⟨1, x1_2, some 1⟩) x1_0 x1_1) (Value.int .i64 x1_5) Ax.h0 = some ((Value.pointer (some ⟨1, (x1_2 + (x1_5).toNat), some 1⟩)), Ax.h0),
    loadG P 3 (Value.pointer (some ⟨1, (x1_2 + (x1_5).toNat), some 1⟩)) Ax.h0 = some ((Value.int .i64 ((Args.Y).getD (x1_2 + (x1_5).toNat) 0)), Ax.h0),
    opIndexAddr P 23 (nlV x1_3) (Value.int .i64 x1_5) Ax.h0 = some ((Value.pointer (some ⟨(Nat.add (x1_3).num 64), (x1_5).toNat, some 1⟩)), Ax.h0),
    loadG P 3 (Value.pointer (some ⟨(Nat.add (x1_3).num 64), (x1_5).toNat, some 1⟩)) Ax.h0 = some ((Value.int .i64 (((x1_3).l).getD (x1_5).toNat 0)), Ax.h0),
    (Value.bool (((Args.Y).getD (x1_2 + (x1_5).toNat) 0) != (((x1_3).l).getD (x1_5).toNat 0))) = (Value.bool true)]) (by kernel_rfl) ⟨(vbT hy1_1), (ixW1O (e := 3) (by kernel_rfl) (by kernel_rfl) hy1_2), (ldW rfl (by kernel_rfl) hy1_3), (ixW1 (e := 3) (by kernel_rfl) (by kernel_rfl) hy1_4), (ldN x1_3 (by kernel_rfl) hy1_5), (vnT hy1_6), trivial⟩
set_option maxRecDepth 100000 in
theorem q_slicesEqualintintq1_1_2 (n : Nat) {rnd : Option Nat} (x1_0 : Nat) (x1_1 : Nat) (x1_2 : Nat) (x1_3 : NL) (x1_4 : Int) (x1_5 : Int) (hy1_1 : ¬ (x1_5 < x1_4)) : CG P rnd (fnN P 17) 0 (codeOf P 17 [false, false, true, false, true, true]) (S_slicesEqualintintq1_1 x1_0 x1_1 x1_2 x1_3 x1_4 x1_5) (X_slicesEqualintintq1_1 x1_0 x1_1 x1_2 x1_3 x1_4 (.inr ())) :=
  runC_ok hm (A := aT [(1, .val (.bool false))]) (L := lT []) (wk := ⟨[], [], 0, 0⟩)
    (ps := [(Value.bool (decide (x1_5 < x1_4))) = (Value.bool false)]) (by kernel_rfl) ⟨(vbF hy1_1), trivial⟩
theorem m_slicesEqualintintq1_1_ok (n : Nat) {rnd : Option Nat} (x1_0 : Nat) (x1_1 : Nat) (x1_2 : Nat) (x1_3 : NL) (x1_4 : Int) (st : Int) (r : (Unit) ⊕ (Unit)) (h : m_slicesEqualintintq1_1 n x1_0 x1_1 x1_2 x1_3 x1_4 st = some r) : CG P rnd (fnN P 17) 0 (codeOf P 17 [false, true, false, true, true]) (S_slicesEqualintintq1_1 x1_0 x1_1 x1_2 x1_3 x1_4 st) (X_slicesEqualintintq1_1 x1_0 x1_1 x1_2 x1_3 x1_4 r) :=
  CG.iter (b := codeOf P 17 [false, false, true, false, true, true]) (by kernel_rfl) (body := B_slicesEqualintintq1_1 n x1_0 x1_1 x1_2 x1_3 x1_4) (S := S_slicesEqualintintq1_1 x1_0 x1_1 x1_2 x1_3 x1_4) (X := X_slicesEqualintintq1_1 x1_0 x1_1 x1_2 x1_3 x1_4)
    (fun x1_5 s' h => by
    unfold B_slicesEqualintintq1_1 at h
    dsimp only at h
    by_cases hy1_1 : x1_5 < x1_4
    · rw [if_pos hy1_1] at h
      by_cases hy1_2 : 0 ≤ x1_5 ∧ x1_5 < ((x1_0 : Nat) : Int)
      · rw [if_pos hy1_2] at h
        by_cases hy1_3 : (x1_2 + (x1_5).toNat) < (Args.Y).length
        · rw [if_pos hy1_3] at h
          by_cases hy1_4 : 0 ≤ x1_5 ∧ x1_5 < (((x1_3).l.length : Nat) : Int)
          · rw [if_pos hy1_4] at h
            by_cases hy1_5 : (x1_5).toNat < ((x1_3).l).length
            · rw [if_pos hy1_5] at h
              by_cases hy1_6 : ((Args.Y).getD (x1_2 + (x1_5).toNat) 0) = (((x1_3).l).getD (x1_5).toNat 0)
              · rw [if_pos hy1_6] at h
                obtain rfl := Sum.inl.inj (Option.some.inj h); exact q_slicesEqualintintq1_1_0 n x1_0 x1_1 x1_2 x1_3 x1_4 x1_5 hy1_1 hy1_2 hy1_3 hy1_4 hy1_5 hy1_6
              · rw [if_neg hy1_6] at h
                cases h
            · rw [if_neg hy1_5] at h; cases h
          · rw [if_neg hy1_4] at h; cases h
        · rw [if_neg hy1_3] at h; cases h
      · rw [if_neg hy1_2] at h; cases h
    · rw [if_neg hy1_1] at h
      cases h)
    (fun x1_5 r h => by
    unfold B_slicesEqualintintq1_1 at h
    dsimp only at h
    by_cases hy1_1 : x1_5 < x1_4
    · rw [if_pos hy1_1] at h
      by_cases hy1_2 : 0 ≤ x1_5 ∧ x1_5 < ((x1_0 : Nat) : Int)
      · rw [if_pos hy1_2] at h
        by_cases hy1_3 : (x1_2 + (x1_5).toNat) < (Args.Y).length
        · rw [if_pos hy1_3] at h
          by_cases hy1_4 : 0 ≤ x1_5 ∧ x1_5 < (((x1_3).l.length : Nat) : Int)
          · rw [if_pos hy1_4] at h
            by_cases hy1_5 : (x1_5).toNat < ((x1_3).l).length
            · rw [if_pos hy1_5] at h
              by_cases hy1_6 : ((Args.Y).getD (x1_2 + (x1_5).toNat) 0) = (((x1_3).l).getD (x1_5).toNat 0)
              · rw [if_pos hy1_6] at h
                cases h
              · rw [if_neg hy1_6] at h
                obtain rfl := Sum.inr.inj (Option.some.inj h); exact q_slicesEqualintintq1_1_1 n x1_0 x1_1 x1_2 x1_3 x1_4 x1_5 hy1_1 hy1_2 hy1_3 hy1_4 hy1_5 hy1_6
            · rw [if_neg hy1_5] at h; cases h
          · rw [if_neg hy1_4] at h; cases h
        · rw [if_neg hy1_3] at h; cases h
      · rw [if_neg hy1_2] at h; cases h
    · rw [if_neg hy1_1] at h
      obtain rfl := Sum.inr.inj (Option.some.inj h); exact q_slicesEqualintintq1_1_2 n x1_0 x1_1 x1_2 x1_3 x1_4 x1_5 hy1_1)
    (fun r => by intro hx; rcases r with _ | _ <;> cases hx) h
noncomputable def A_slicesEqualintintq1 (a0 : Nat) (a1 : Nat) (a2 : Nat) (a3 : NL) : List Value := [(Value.slice (some ⟨1, a2, some 1⟩) a0 a1), (nlV a3)]
noncomputable def H_slicesEqualintintq1 (a0 : Nat) (a1 : Nat) (a2 : Nat) (a3 : NL) : AH := ⟨sB [], 0, 0⟩
noncomputable def V_slicesEqualintintq1 (a0 : Nat) (a1 : Nat) (a2 : Nat) (a3 : NL) (r : Bool) : Value := match r with
  | o0 => (Value.bool o0)
noncomputable def R_slicesEqualintintq1 (a0 : Nat) (a1 : Nat) (a2 : Nat) (a3 : NL) (r : Bool) : AH := match r with
  | o0 => ⟨sB [], 0, 0⟩
def m_slicesEqualintintq1 (n : Nat) (a0 : Nat) (a1 : Nat) (a2 : Nat) (a3 : NL) : Option (Bool) :=
  if ((a0 : Nat) : Int) = (((a3).l.length : Nat) : Int) then
    match m_slicesEqualintintq1_1 n a0 a1 a2 a3 ((a0 : Nat) : Int) 0 with
    | none => none
    | some (.inl _) =>
      some false
    | some (.inr _) =>
      some true
  else
    some false
set_option maxRecDepth 100000 in
theorem p_slicesEqualintintq1_0 (n : Nat) (a0 : Nat) (a1 : Nat) (a2 : Nat) (a3 : NL) (hc1 : ((a0 : Nat) : Int) = (((a3).l.length : Nat) : Int)) (hc2 : m_slicesEqualintintq1_1 n a0 a1 a2 a3 ((a0 : Nat) : Int) 0 = some (.inl ())) : Gv P (.func 17) (A_slicesEqualintintq1 a0 a1 a2 a3) (H_slicesEqualintintq1 a0 a1 a2 a3) (V_slicesEqualintintq1 a0 a1 a2 a3 false) (R_slicesEqualintintq1 a0 a1 a2 a3 false) :=
  runF_ok hm (A := aT [(8, .val (.bool false))]) (L := lT [(16, ⟨⟨[0, 1, 12, 13], [], 0, 0⟩, (X_slicesEqualintintq1_1 a0 a1 a2 a3 ((a0 : Nat) : Int) (.inl ())).1, (X_slicesEqualintintq1_1 a0 a1 a2 a3 ((a0 : Nat) : Int) (.inl ())).2⟩)]) (wk := ⟨[4], [], 0, 0⟩)
    (ps := [(Value.bool (((a0 : Nat) : Int) != (((a3).l.length : Nat) : Int))) = (Value.bool false),
    CG P none (fnN P 17) 0 (codeOf P 17 [false, true, false, true, true]) (S_slicesEqualintintq1_1 a0 a1 a2 a3 ((a0 : Nat) : Int) 0) (X_slicesEqualintintq1_1 a0 a1 a2 a3 ((a0 : Nat) : Int) (.inl ()))]) (by kernel_rfl) ⟨(vnF hc1), (m_slicesEqualintintq1_1_ok n a0 a1 a2 a3 ((a0 : Nat) : Int) 0 (.inl ()) hc2), trivial⟩
set_option maxRecDepth 100000 in
theorem p_slicesEqualintintq1_1 (n : Nat) (a0 : Nat) (a1 : Nat) (a2 : Nat) (a3 : NL) (hc1 : ((a0 : Nat) : Int) = (((a3).l.length : Nat) : Int)) (hc2 : m_slicesEqualintintq1_1 n a0 a1 a2 a3 ((a0 : Nat) : Int) 0 = some (.inr ())) : Gv P (.func 17) (A_slicesEqualintintq1 a0 a1 a2 a3) (H_slicesEqualintintq1 a0 a1 a2 a3) (V_slicesEqualintintq1 a0 a1 a2 a3 true) (R_slicesEqualintintq1 a0 a1 a2 a3 true) :=
  runF_ok hm (A := aT [(8, .val (.bool false))]) (L := lT [(16, ⟨⟨[0, 1, 12, 13], [], 0, 0⟩, (X_slicesEqualintintq1_1 a0 a1 a2 a3 ((a0 : Nat) : Int) (.inr ())).1, (X_slicesEqualintintq1_1 a0 a1 a2 a3 ((a0 : Nat) : Int) (.inr ())).2⟩)]) (wk := ⟨[4], [], 0, 0⟩)
    (ps := [(Value.bool (((a0 : Nat) : Int) != (((a3).l.length : Nat) : Int))) = (Value.bool false),
    CG P none (fnN P 17) 0 (codeOf P 17 [false, true, false, true, true]) (S_slicesEqualintintq1_1 a0 a1 a2 a3 ((a0 : Nat) : Int) 0) (X_slicesEqualintintq1_1 a0 a1 a2 a3 ((a0 : Nat) : Int) (.inr ()))]) (by kernel_rfl) ⟨(vnF hc1), (m_slicesEqualintintq1_1_ok n a0 a1 a2 a3 ((a0 : Nat) : Int) 0 (.inr ()) hc2), trivial⟩
set_option maxRecDepth 100000 in
theorem p_slicesEqualintintq1_2 (n : Nat) (a0 : Nat) (a1 : Nat) (a2 : Nat) (a3 : NL) (hc1 : ¬ (((a0 : Nat) : Int) = (((a3).l.length : Nat) : Int))) : Gv P (.func 17) (A_slicesEqualintintq1 a0 a1 a2 a3) (H_slicesEqualintintq1 a0 a1 a2 a3) (V_slicesEqualintintq1 a0 a1 a2 a3 false) (R_slicesEqualintintq1 a0 a1 a2 a3 false) :=
  runF_ok hm (A := aT [(8, .val (.bool true))]) (L := lT []) (wk := ⟨[4], [], 0, 0⟩)
    (ps := [(Value.bool (((a0 : Nat) : Int) != (((a3).l.length : Nat) : Int))) = (Value.bool true)]) (by kernel_rfl) ⟨(vnT hc1), trivial⟩
theorem m_slicesEqualintintq1_ok (n : Nat) (a0 : Nat) (a1 : Nat) (a2 : Nat) (a3 : NL) (r : Bool) (h : m_slicesEqualintintq1 n a0 a1 a2 a3 = some r) : Gv P (.func 17) (A_slicesEqualintintq1 a0 a1 a2 a3) (H_slicesEqualintintq1 a0 a1 a2 a3) (V_slicesEqualintintq1 a0 a1 a2 a3 r) (R_slicesEqualintintq1 a0 a1 a2 a3 r) := by
  unfold m_slicesEqualintintq1 at h
  by_cases hc1 : ((a0 : Nat) : Int) = (((a3).l.length : Nat) : Int)
  · rw [if_pos hc1] at h
    rcases hc2 : m_slicesEqualintintq1_1 n a0 a1 a2 a3 ((a0 : Nat) : Int) 0 with _ | (⟨⟩ | ⟨⟩)
    · rw [hc2] at h; cases h
    · rw [hc2] at h
      dsimp only at h
      obtain rfl := Option.some.inj h; exact p_slicesEqualintintq1_0 n a0 a1 a2 a3 hc1 hc2
    · rw [hc2] at h
      dsimp only at h
      obtain rfl := Option.some.inj h; exact p_slicesEqualintintq1_1 n a0 a1 a2 a3 hc1 hc2
  · rw [if_neg hc1] at h
    obtain rfl := Option.some.inj h; exact p_slicesEqualintintq1_2 n a0 a1 a2 a3 hc1

noncomputable def A_stylesendsWithintq1 (a0 : NL) : List Value := [(Value.slice (some ⟨1, 0, some 1⟩) (Args.Y).length Args.cY), (nlV a0)]
noncomputable def H_stylesendsWithintq1 (a0 : NL) : AH := ⟨sB [], 0, 0⟩
noncomputable def V_stylesendsWithintq1 (a0 : NL) (r : Bool) : Value := match r with
  | o0 => (Value.bool o0)
noncomputable def R_stylesendsWithintq1 (a0 : NL) (r : Bool) : AH := match r with
  | o0 => ⟨sB [], 0, 0⟩
def m_stylesendsWithintq1 (n : Nat) (a0 : NL) : Option (Bool) :=
  if (((a0).l.length : Nat) : Int) ≤ (((Args.Y).length : Nat) : Int) then
    if 0 ≤ (w64 ((((Args.Y).length : Nat) : Int) - (((a0).l.length : Nat) : Int))) ∧ (w64 ((((Args.Y).length : Nat) : Int) - (((a0).l.length : Nat) : Int))) ≤ (((Args.Y).length : Nat) : Int) then
      (m_slicesEqualintintq1 n ((Args.Y).length - ((w64 ((((Args.Y).length : Nat) : Int) - (((a0).l.length : Nat) : Int)))).toNat) (Args.cY - ((w64 ((((Args.Y).length : Nat) : Int) - (((a0).l.length : Nat) : Int)))).toNat) (0 + ((w64 ((((Args.Y).length : Nat) : Int) - (((a0).l.length : Nat) : Int)))).toNat) a0).bind fun c3_ =>
      some c3_
    else none
  else
    some false
set_option maxRecDepth 100000 in
theorem p_stylesendsWithintq1_0 (n : Nat) (a0 : NL) (hc1 : (((a0).l.length : Nat) : Int) ≤ (((Args.Y).length : Nat) : Int)) (hc2 : 0 ≤ (w64 ((((Args.Y).length : Nat) : Int) - (((a0).l.length : Nat) : Int))) ∧ (w64 ((((Args.Y).length : Nat) : Int) - (((a0).l.length : Nat) : Int))) ≤ (((Args.Y).length : Nat) : Int)) (c3_ : Bool) (hc3 : m_slicesEqualintintq1 n ((Args.Y).length - ((w64 ((((Args.Y).length : Nat) : Int) - (((a0).l.length : Nat) : Int)))).toNat) (Args.cY - ((w64 ((((Args.Y).length : Nat) : Int) - (((a0).l.length : Nat) : Int)))).toNat) (0 + ((w64 ((((Args.Y).length : Nat) : Int) - (((a0).l.length : Nat) : Int)))).toNat) a0 = some c3_) : Gv P (.func 13) (A_stylesendsWithintq1 a0) (H_stylesendsWithintq1 a0) (V_stylesendsWithintq1 a0 c3_) (R_stylesendsWithintq1 a0 c3_) :=
  runF_ok hm (A := aT [(7, .val (.bool true)), (15, .pur (Value.slice (some ⟨1, (0 + ((w64 ((((Args.Y).length : Nat) : Int) - (((a0).l.length : Nat) : Int)))).toNat), some 1⟩) ((Args.Y).length - ((w64 ((((Args.Y).length : Nat) : Int) - (((a0).l.length : Nat) : Int)))).toNat) (Args.cY - ((w64 ((((Args.Y).length : Nat) : Int) - (((a0).l.length : Nat) : Int)))).toNat))), (17, .call ⟨0, [], (V_slicesEqualintintq1 ((Args.Y).length - ((w64 ((((Args.Y).length : Nat) : Int) - (((a0).l.length : Nat) : Int)))).toNat) (Args.cY - ((w64 ((((Args.Y).length : Nat) : Int) - (((a0).l.length : Nat) : Int)))).toNat) (0 + ((w64 ((((Args.Y).length : Nat) : Int) - (((a0).l.length : Nat) : Int)))).toNat) a0 c3_), (R_slicesEqualintintq1 ((Args.Y).length - ((w64 ((((Args.Y).length : Nat) : Int) - (((a0).l.length : Nat) : Int)))).toNat) (Args.cY - ((w64 ((((Args.Y).length : Nat) : Int) - (((a0).l.length : Nat) : Int)))).toNat) (0 + ((w64 ((((Args.Y).length : Nat) : Int) - (((a0).l.length : Nat) : Int)))).toNat) a0 c3_), []⟩)]) (L := lT []) (wk := ⟨[4], [], 0, 0⟩)
    (ps := [(Value.bool (decide ((((a0).l.length : Nat) : Int) ≤ (((Args.Y).length : Nat) : Int)))) = (Value.bool true),
    opSlice P 23 (Value.slice (some ⟨1, 0, some 1⟩) (Args.Y).length Args.cY) (some (Value.int .i64 (w64 ((((Args.Y).length : Nat) : Int) - (((a0).l.length : Nat) : Int))))) none none Ax.h0 = some ((Value.slice (some ⟨1, (0 + ((w64 ((((Args.Y).length : Nat) : Int) - (((a0).l.length : Nat) : Int)))).toNat), some 1⟩) ((Args.Y).length - ((w64 ((((Args.Y).length : Nat) : Int) - (((a0).l.length : Nat) : Int)))).toNat) (Args.cY - ((w64 ((((Args.Y).length : Nat) : Int) - (((a0).l.length : Nat) : Int)))).toNat)), Ax.h0),
    Gv P (.func 17) (A_slicesEqualintintq1 ((Args.Y).length - ((w64 ((((Args.Y).length : Nat) : Int) - (((a0).l.length : Nat) : Int)))).toNat) (Args.cY - ((w64 ((((Args.Y).length : Nat) : Int) - (((a0).l.length : Nat) : Int)))).toNat) (0 + ((w64 ((((Args.Y).length : Nat) : Int) - (((a0).l.length : Nat) : Int)))).toNat) a0) (H_slicesEqualintintq1 ((Args.Y).length - ((w64 ((((Args.Y).length : Nat) : Int) - (((a0).l.length : Nat) : Int)))).toNat) (Args.cY - ((w64 ((((Args.Y).length : Nat) : Int) - (((a0).l.length : Nat) : Int)))).toNat) (0 + ((w64 ((((Args.Y).length : Nat) : Int) - (((a0).l.length : Nat) : Int)))).toNat) a0) (V_slicesEqualintintq1 ((Args.Y).length - ((w64 ((((Args.Y).length : Nat) : Int) - (((a0).l.length : Nat) : Int)))).toNat) (Args.cY - ((w64 ((((Args.Y).length : Nat) : Int) - (((a0).l.length : Nat) : Int)))).toNat) (0 + ((w64 ((((Args.Y).length : Nat) : Int) - (((a0).l.length : Nat) : Int)))).toNat) a0 c3_) (R_slicesEqualintintq1 ((Args.Y).length - ((w64 ((((Args.Y).length : Nat) : Int) - (((a0).l.length : Nat) : Int)))).toNat) (Args.cY - ((w64 ((((Args.Y).length : Nat) : Int) - (((a0).l.length : Nat) : Int)))).toNat) (0 + ((w64 ((((Args.Y).length : Nat) : Int) - (((a0).l.length : Nat) : Int)))).toNat) a0 c3_)]) (by kernel_rfl) ⟨(vbT hc1), (slWinLo (e := 3) (by kernel_rfl) (by kernel_rfl) hc2), (m_slicesEqualintintq1_ok n ((Args.Y).length - ((w64 ((((Args.Y).length : Nat) : Int) - (((a0).l.length : Nat) : Int)))).toNat) (Args.cY - ((w64 ((((Args.Y).length : Nat) : Int) - (((a0).l.length : Nat) : Int)))).toNat) (0 + ((w64 ((((Args.Y).length : Nat) : Int) - (((a0).l.length : Nat) : Int)))).toNat) a0 c3_ hc3), trivial⟩
set_option maxRecDepth 100000 in
theorem p_stylesendsWithintq1_1 (n : Nat) (a0 : NL) (hc1 : ¬ ((((a0).l.length : Nat) : Int) ≤ (((Args.Y).length : Nat) : Int))) : Gv P (.func 13) (A_stylesendsWithintq1 a0) (H_stylesendsWithintq1 a0) (V_stylesendsWithintq1 a0 false) (R_stylesendsWithintq1 a0 false) :=
  runF_ok hm (A := aT [(7, .val (.bool false))]) (L := lT []) (wk := ⟨[4], [], 0, 0⟩)
    (ps := [(Value.bool (decide ((((a0).l.length : Nat) : Int) ≤ (((Args.Y).length : Nat) : Int)))) = (Value.bool false)]) (by kernel_rfl) ⟨(vbF hc1), trivial⟩
theorem m_stylesendsWithintq1_ok (n : Nat) (a0 : NL) (r : Bool) (h : m_stylesendsWithintq1 n a0 = some r) : Gv P (.func 13) (A_stylesendsWithintq1 a0) (H_stylesendsWithintq1 a0) (V_stylesendsWithintq1 a0 r) (R_stylesendsWithintq1 a0 r) := by
  unfold m_stylesendsWithintq1 at h
  by_cases hc1 : (((a0).l.length : Nat) : Int) ≤ (((Args.Y).length : Nat) : Int)
  · rw [if_pos hc1] at h
    by_cases hc2 : 0 ≤ (w64 ((((Args.Y).length : Nat) : Int) - (((a0).l.length : Nat) : Int))) ∧ (w64 ((((Args.Y).length : Nat) : Int) - (((a0).l.length : Nat) : Int))) ≤ (((Args.Y).length : Nat) : Int)
    · rw [if_pos hc2] at h
      obtain ⟨c3_, hc3, h⟩ := Option.bind_eq_some_iff.1 h
      obtain rfl := Option.some.inj h; exact p_stylesendsWithintq1_0 n a0 hc1 hc2 c3_ hc3
    · rw [if_neg hc2] at h; cases h
  · rw [if_neg hc1] at h
    obtain rfl := Option.some.inj h; exact p_stylesendsWithintq1_1 n a0 hc1

noncomputable def A_stylesMatchesq1 (a0 : Int) (a1 : NL) (a2 : Int) (a3 : Int) (a4 : Int) : List Value := [(Value.agg #[(Value.int .i64 a0), (nlV a1), (Value.int .i64 a2), (Value.int .i64 a3)]), (Value.int .i64 a4), (Value.slice (some ⟨1, 0, some 1⟩) (Args.Y).length Args.cY)]
noncomputable def H_stylesMatchesq1 (a0 : Int) (a1 : NL) (a2 : Int) (a3 : Int) (a4 : Int) : AH := ⟨sB [], 0, 0⟩
noncomputable def V_stylesMatchesq1 (a0 : Int) (a1 : NL) (a2 : Int) (a3 : Int) (a4 : Int) (r : Bool) : Value := match r with
  | o0 => (Value.bool o0)
noncomputable def R_stylesMatchesq1 (a0 : Int) (a1 : NL) (a2 : Int) (a3 : Int) (a4 : Int) (r : Bool) : AH := match r with
  | o0 => ⟨sB [], 0, 0⟩
def m_stylesMatchesq1 (n : Nat) (a0 : Int) (a1 : NL) (a2 : Int) (a3 : Int) (a4 : Int) : Option (Bool) :=
  if a0 = a4 then
    (m_stylesendsWithintq1 n a1).bind fun c2_ =>
    some c2_
  else
    some false
set_option maxRecDepth 100000 in
theorem p_stylesMatchesq1_0 (n : Nat) (a0 : Int) (a1 : NL) (a2 : Int) (a3 : Int) (a4 : Int) (hc1 : a0 = a4) (c2_ : Bool) (hc2 : m_stylesendsWithintq1 n a1 = some c2_) : Gv P (.func 8) (A_stylesMatchesq1 a0 a1 a2 a3 a4) (H_stylesMatchesq1 a0 a1 a2 a3 a4) (V_stylesMatchesq1 a0 a1 a2 a3 a4 c2_) (R_stylesMatchesq1 a0 a1 a2 a3 a4 c2_) :=
  runF_ok hm (A := aT [(7, .val (.bool true)), (12, .call ⟨0, [], (V_stylesendsWithintq1 a1 c2_), (R_stylesendsWithintq1 a1 c2_), []⟩)]) (L := lT []) (wk := ⟨[6], [], 0, 0⟩)
    (ps := [(Value.bool (a0 == a4)) = (Value.bool true),
    Gv P (.func 13) (A_stylesendsWithintq1 a1) (H_stylesendsWithintq1 a1) (V_stylesendsWithintq1 a1 c2_) (R_stylesendsWithintq1 a1 c2_)]) (by kernel_rfl) ⟨(veT hc1), (m_stylesendsWithintq1_ok n a1 c2_ hc2), trivial⟩
set_option maxRecDepth 100000 in
theorem p_stylesMatchesq1_1 (n : Nat) (a0 : Int) (a1 : NL) (a2 : Int) (a3 : Int) (a4 : Int) (hc1 : ¬ (a0 = a4)) : Gv P (.func 8) (A_stylesMatchesq1 a0 a1 a2 a3 a4) (H_stylesMatchesq1 a0 a1 a2 a3 a4) (V_stylesMatchesq1 a0 a1 a2 a3 a4 false) (R_stylesMatchesq1 a0 a1 a2 a3 a4 false) :=
  runF_ok hm (A := aT [(7, .val (.bool false))]) (L := lT []) (wk := ⟨[6], [], 0, 0⟩)
    (ps := [(Value.bool (a0 == a4)) = (Value.bool false)]) (by kernel_rfl) ⟨(veF hc1), trivial⟩
theorem m_stylesMatchesq1_ok (n : Nat) (a0 : Int) (a1 : NL) (a2 : Int) (a3 : Int) (a4 : Int) (r : Bool) (h : m_stylesMatchesq1 n a0 a1 a2 a3 a4 = some r) : Gv P (.func 8) (A_stylesMatchesq1 a0 a1 a2 a3 a4) (H_stylesMatchesq1 a0 a1 a2 a3 a4) (V_stylesMatchesq1 a0 a1 a2 a3 a4 r) (R_stylesMatchesq1 a0 a1 a2 a3 a4 r) := by
  unfold m_stylesMatchesq1 at h
  by_cases hc1 : a0 = a4
  · rw [if_pos hc1] at h
    obtain ⟨c2_, hc2, h⟩ := Option.bind_eq_some_iff.1 h
    obtain rfl := Option.some.inj h; exact p_stylesMatchesq1_0 n a0 a1 a2 a3 a4 hc1 c2_ hc2
  · rw [if_neg hc1] at h
    obtain rfl := Option.some.inj h; exact p_stylesMatchesq1_1 n a0 a1 a2 a3 a4 hc1

noncomputable def A_slicesValuesapiStyleq1 : List Value := [(Value.slice (some ⟨0, 0, some 1⟩) (Args.S).length Args.cS)]
noncomputable def H_slicesValuesapiStyleq1 : AH := ⟨sB [], 0, 0⟩
noncomputable def V_slicesValuesapiStyleq1 (r : Unit) : Value := match r with
  | _ => (Value.func (.func 18) #[] #[(Value.pointer (some ⟨0, 0, none⟩))])
noncomputable def R_slicesValuesapiStyleq1 (r : Unit) : AH := match r with
  | _ => ⟨sB [(0, (some (.cells (layT [(Value.slice (some ⟨0, 0, some 1⟩) (Args.S).length Args.cS)]) 22)))], 1, 0⟩
def m_slicesValuesapiStyleq1 (n : Nat) : Option (Unit) :=
  some ()
set_option maxRecDepth 100000 in
theorem p_slicesValuesapiStyleq1_0 (n : Nat)  : Gv P (.func 15) A_slicesValuesapiStyleq1 H_slicesValuesapiStyleq1 (V_slicesValuesapiStyleq1  ()) (R_slicesValuesapiStyleq1  ()) :=
  runF_ok hm (A := aT []) (L := lT []) (wk := ⟨[2], [(0, 0, false)], 1, 0⟩)
    (ps := []) (by kernel_rfl) trivial
theorem m_slicesValuesapiStyleq1_ok (n : Nat) (r : Unit) (h : m_slicesValuesapiStyleq1 n = some r) : Gv P (.func 15) A_slicesValuesapiStyleq1 H_slicesValuesapiStyleq1 (V_slicesValuesapiStyleq1  r) (R_slicesValuesapiStyleq1  r) := by
  unfold m_slicesValuesapiStyleq1 at h
  obtain rfl := Option.some.inj h; exact p_slicesValuesapiStyleq1_0 n

noncomputable def A_stylesStyle1q1 (a0 : Int) (a1 : Int) (a2 : Int) (a3 : Bool) (a4 : Int) (a5 : NL) (a6 : Int) (a7 : Int) (a8 : Int) : List Value := [(Value.agg #[(Value.int .i64 a0), (Value.slice none 0 0), (Value.int .i64 a1), (Value.int .i64 a2), (Value.bool a3)]), (Value.agg #[(Value.int .i64 a4), (nlV a5), (Value.int .i64 a6), (Value.int .i64 a7)]), (Value.pointer (some ⟨0, 0, none⟩)), (Value.pointer (some ⟨1, 0, none⟩))]
noncomputable def H_stylesStyle1q1 (a0 : Int) (a1 : Int) (a2 : Int) (a3 : Bool) (a4 : Int) (a5 : NL) (a6 : Int) (a7 : Int) (a8 : Int) : AH := ⟨sB [(0, (some (.cells (layT [(Value.int .i64 a8)]) 3))), (1, (some (.cells (layT [(Value.slice (some ⟨1, 0, some 1⟩) (Args.Y).length Args.cY)]) 23)))], 2, 2⟩
noncomputable def V_stylesStyle1q1 (a0 : Int) (a1 : Int) (a2 : Int) (a3 : Bool) (a4 : Int) (a5 : NL) (a6 : Int) (a7 : Int) (a8 : Int) (r : Int × List (NL) × Int × Int × Bool) : Value := match r with
  | (o0, o1, o2, o3, o4) => (Value.agg #[(Value.int .i64 o0), (nlQ o1), (Value.int .i64 o2), (Value.int .i64 o3), (Value.bool o4)])
noncomputable def R_stylesStyle1q1 (a0 : Int) (a1 : Int) (a2 : Int) (a3 : Bool) (a4 : Int) (a5 : NL) (a6 : Int) (a7 : Int) (a8 : Int) (r : Int × List (NL) × Int × Int × Bool) : AH := match r with
  | (o0, o1, o2, o3, o4) => ⟨sB [(2, (some (.cells (layT [(Value.int .i64 o0), (nlQ o1), (Value.int .i64 o2), (Value.int .i64 o3), (Value.bool o4)]) 38)))], 3, 2⟩
def m_stylesStyle1q1 (n : Nat) (a0 : Int) (a1 : Int) (a2 : Int) (a3 : Bool) (a4 : Int) (a5 : NL) (a6 : Int) (a7 : Int) (a8 : Int) : Option (Int × List (NL) × Int × Int × Bool) :=
  (m_stylesMatchesq1 n a4 a5 a6 a7 a8).bind fun c1_ =>
  if c1_ = true then
    if a3 = true then
      if a7 ≤ a2 then
        some (a0, ([] : List (NL)), a1, a2, a3)
      else
        some (a4, [a5], a6, a7, true)
    else
      some (a4, [a5], a6, a7, true)
  else
    some (a0, ([] : List (NL)), a1, a2, a3)
set_option maxRecDepth 100000 in
theorem p_stylesStyle1q1_0 (n : Nat) (a0 : Int) (a1 : Int) (a2 : Int) (a3 : Bool) (a4 : Int) (a5 : NL) (a6 : Int) (a7 : Int) (a8 : Int) (c1_ : Bool) (hc1 : m_stylesMatchesq1 n a4 a5 a6 a7 a8 = some c1_) (hc2 : c1_ = true) (hc3 : a3 = true) (hc4 : a7 ≤ a2) : Gv P (.func 16) (A_stylesStyle1q1 a0 a1 a2 a3 a4 a5 a6 a7 a8) (H_stylesStyle1q1 a0 a1 a2 a3 a4 a5 a6 a7 a8) (V_stylesStyle1q1 a0 a1 a2 a3 a4 a5 a6 a7 a8 (a0, ([] : List (NL)), a1, a2, a3)) (R_stylesStyle1q1 a0 a1 a2 a3 a4 a5 a6 a7 a8 (a0, ([] : List (NL)), a1, a2, a3)) :=
  runF_ok hm (A := aT [(9, .call ⟨0, [], (V_stylesMatchesq1 a4 a5 a6 a7 a8 c1_), (R_stylesMatchesq1 a4 a5 a6 a7 a8 c1_), []⟩), (10, .val (.bool false)), (14, .val (.bool true)), (20, .val (.bool true))]) (L := lT []) (wk := ⟨[6], [(2, 4, false)], 3, 2⟩)
    (ps := [Gv P (.func 8) (A_stylesMatchesq1 a4 a5 a6 a7 a8) (H_stylesMatchesq1 a4 a5 a6 a7 a8) (V_stylesMatchesq1 a4 a5 a6 a7 a8 c1_) (R_stylesMatchesq1 a4 a5 a6 a7 a8 c1_),
    (Value.bool (!c1_)) = (Value.bool false),
    (Value.bool a3) = (Value.bool true),
    (Value.bool (decide (a7 ≤ a2))) = (Value.bool true)]) (by kernel_rfl) ⟨(m_stylesMatchesq1_ok n a4 a5 a6 a7 a8 c1_ hc1), (vBn hc2), (vB hc3), (vbT hc4), trivial⟩
set_option maxRecDepth 100000 in
theorem p_stylesStyle1q1_1 (n : Nat) (a0 : Int) (a1 : Int) (a2 : Int) (a3 : Bool) (a4 : Int) (a5 : NL) (a6 : Int) (a7 : Int) (a8 : Int) (c1_ : Bool) (hc1 : m_stylesMatchesq1 n a4 a5 a6 a7 a8 = some c1_) (hc2 : c1_ = true) (hc3 : a3 = true) (hc4 : ¬ (a7 ≤ a2)) : Gv P (.func 16) (A_stylesStyle1q1 a0 a1 a2 a3 a4 a5 a6 a7 a8) (H_stylesStyle1q1 a0 a1 a2 a3 a4 a5 a6 a7 a8) (V_stylesStyle1q1 a0 a1 a2 a3 a4 a5 a6 a7 a8 (a4, [a5], a6, a7, true)) (R_stylesStyle1q1 a0 a1 a2 a3 a4 a5 a6 a7 a8 (a4, [a5], a6, a7, true)) :=
  runF_ok hm (A := aT [(9, .call ⟨0, [], (V_stylesMatchesq1 a4 a5 a6 a7 a8 c1_), (R_stylesMatchesq1 a4 a5 a6 a7 a8 c1_), []⟩), (10, .val (.bool false)), (14, .val (.bool true)), (20, .val (.bool false))]) (L := lT []) (wk := ⟨[6], [(2, 4, false)], 3, 2⟩)
    (ps := [Gv P (.func 8) (A_stylesMatchesq1 a4 a5 a6 a7 a8) (H_stylesMatchesq1 a4 a5 a6 a7 a8) (V_stylesMatchesq1 a4 a5 a6 a7 a8 c1_) (R_stylesMatchesq1 a4 a5 a6 a7 a8 c1_),
    (Value.bool (!c1_)) = (Value.bool false),
    (Value.bool a3) = (Value.bool true),
    (Value.bool (decide (a7 ≤ a2))) = (Value.bool false)]) (by kernel_rfl) ⟨(m_stylesMatchesq1_ok n a4 a5 a6 a7 a8 c1_ hc1), (vBn hc2), (vB hc3), (vbF hc4), trivial⟩
set_option maxRecDepth 100000 in
theorem p_stylesStyle1q1_2 (n : Nat) (a0 : Int) (a1 : Int) (a2 : Int) (a3 : Bool) (a4 : Int) (a5 : NL) (a6 : Int) (a7 : Int) (a8 : Int) (c1_ : Bool) (hc1 : m_stylesMatchesq1 n a4 a5 a6 a7 a8 = some c1_) (hc2 : c1_ = true) (hc3 : ¬ (a3 = true)) : Gv P (.func 16) (A_stylesStyle1q1 a0 a1 a2 a3 a4 a5 a6 a7 a8) (H_stylesStyle1q1 a0 a1 a2 a3 a4 a5 a6 a7 a8) (V_stylesStyle1q1 a0 a1 a2 a3 a4 a5 a6 a7 a8 (a4, [a5], a6, a7, true)) (R_stylesStyle1q1 a0 a1 a2 a3 a4 a5 a6 a7 a8 (a4, [a5], a6, a7, true)) :=
  runF_ok hm (A := aT [(9, .call ⟨0, [], (V_stylesMatchesq1 a4 a5 a6 a7 a8 c1_), (R_stylesMatchesq1 a4 a5 a6 a7 a8 c1_), []⟩), (10, .val (.bool false)), (14, .val (.bool false))]) (L := lT []) (wk := ⟨[6], [(2, 4, false)], 3, 2⟩)
    (ps := [Gv P (.func 8) (A_stylesMatchesq1 a4 a5 a6 a7 a8) (H_stylesMatchesq1 a4 a5 a6 a7 a8) (V_stylesMatchesq1 a4 a5 a6 a7 a8 c1_) (R_stylesMatchesq1 a4 a5 a6 a7 a8 c1_),
    (Value.bool (!c1_)) = (Value.bool false),
    (Value.bool a3) = (Value.bool false)]) (by kernel_rfl) ⟨(m_stylesMatchesq1_ok n a4 a5 a6 a7 a8 c1_ hc1), (vBn hc2), (vB (Bool.eq_false_iff.2 hc3)), trivial⟩
set_option maxRecDepth 100000 in
theorem p_stylesStyle1q1_3 (n : Nat) (a0 : Int) (a1 : Int) (a2 : Int) (a3 : Bool) (a4 : Int) (a5 : NL) (a6 : Int) (a7 : Int) (a8 : Int) (c1_ : Bool) (hc1 : m_stylesMatchesq1 n a4 a5 a6 a7 a8 = some c1_) (hc2 : ¬ (c1_ = true)) : Gv P (.func 16) (A_stylesStyle1q1 a0 a1 a2 a3 a4 a5 a6 a7 a8) (H_stylesStyle1q1 a0 a1 a2 a3 a4 a5 a6 a7 a8) (V_stylesStyle1q1 a0 a1 a2 a3 a4 a5 a6 a7 a8 (a0, ([] : List (NL)), a1, a2, a3)) (R_stylesStyle1q1 a0 a1 a2 a3 a4 a5 a6 a7 a8 (a0, ([] : List (NL)), a1, a2, a3)) :=
  runF_ok hm (A := aT [(9, .call ⟨0, [], (V_stylesMatchesq1 a4 a5 a6 a7 a8 c1_), (R_stylesMatchesq1 a4 a5 a6 a7 a8 c1_), []⟩), (10, .val (.bool true))]) (L := lT []) (wk := ⟨[6], [(2, 4, false)], 3, 2⟩)
    (ps := [Gv P (.func 8) (A_stylesMatchesq1 a4 a5 a6 a7 a8) (H_stylesMatchesq1 a4 a5 a6 a7 a8) (V_stylesMatchesq1 a4 a5 a6 a7 a8 c1_) (R_stylesMatchesq1 a4 a5 a6 a7 a8 c1_),
    (Value.bool (!c1_)) = (Value.bool true)]) (by kernel_rfl) ⟨(m_stylesMatchesq1_ok n a4 a5 a6 a7 a8 c1_ hc1), (vBn (Bool.eq_false_iff.2 hc2)), trivial⟩
theorem m_stylesStyle1q1_ok (n : Nat) (a0 : Int) (a1 : Int) (a2 : Int) (a3 : Bool) (a4 : Int) (a5 : NL) (a6 : Int) (a7 : Int) (a8 : Int) (r : Int × List (NL) × Int × Int × Bool) (h : m_stylesStyle1q1 n a0 a1 a2 a3 a4 a5 a6 a7 a8 = some r) : Gv P (.func 16) (A_stylesStyle1q1 a0 a1 a2 a3 a4 a5 a6 a7 a8) (H_stylesStyle1q1 a0 a1 a2 a3 a4 a5 a6 a7 a8) (V_stylesStyle1q1 a0 a1 a2 a3 a4 a5 a6 a7 a8 r) (R_stylesStyle1q1 a0 a1 a2 a3 a4 a5 a6 a7 a8 r) := by
  unfold m_stylesStyle1q1 at h
  obtain ⟨c1_, hc1, h⟩ := Option.bind_eq_some_iff.1 h
  by_cases hc2 : c1_ = true
  · rw [if_pos hc2] at h
    by_cases hc3 : a3 = true
    · rw [if_pos hc3] at h
      by_cases hc4 : a7 ≤ a2
      · rw [if_pos hc4] at h
        obtain rfl := Option.some.inj h; exact p_stylesStyle1q1_0 n a0 a1 a2 a3 a4 a5 a6 a7 a8 c1_ hc1 hc2 hc3 hc4
      · rw [if_neg hc4] at h
        obtain rfl := Option.some.inj h; exact p_stylesStyle1q1_1 n a0 a1 a2 a3 a4 a5 a6 a7 a8 c1_ hc1 hc2 hc3 hc4
    · rw [if_neg hc3] at h
      obtain rfl := Option.some.inj h; exact p_stylesStyle1q1_2 n a0 a1 a2 a3 a4 a5 a6 a7 a8 c1_ hc1 hc2 hc3
  · rw [if_neg hc2] at h
    obtain rfl := Option.some.inj h; exact p_stylesStyle1q1_3 n a0 a1 a2 a3 a4 a5 a6 a7 a8 c1_ hc1 hc2

noncomputable def A_foldOverstyleschoice_1010y1 (a0 : Int) (a1 : Int) (a2 : Int) (a3 : Bool) (a4 : Int) (a5 : Int) (a6 : Int) (a7 : Int) (a8 : Bool) (a9 : Int) (a10 : NL) (a11 : Int) (a12 : Int) : List Value := [(Value.agg #[(Value.int .i64 a9), (nlV a10), (Value.int .i64 a11), (Value.int .i64 a12)])]
noncomputable def H_foldOverstyleschoice_1010y1 (a0 : Int) (a1 : Int) (a2 : Int) (a3 : Bool) (a4 : Int) (a5 : Int) (a6 : Int) (a7 : Int) (a8 : Bool) (a9 : Int) (a10 : NL) (a11 : Int) (a12 : Int) : AH := ⟨sB [(0, (some (rblk P 14 [false, true, false, true] .ready none [(4, (Value.pointer (some ⟨2, 0, none⟩))), (5, (Value.pointer (some ⟨3, 0, none⟩))), (6, (Value.pointer (some ⟨6, 0, none⟩))), (8, (Value.func (.func 18) #[] #[(Value.pointer (some ⟨7, 0, none⟩))]))] 1))), (1, (some (.marks true))), (2, (some (.cells (layT [(Value.int .i64 a0), (Value.slice none 0 0), (Value.int .i64 a1), (Value.int .i64 a2), (Value.bool a3)]) 38))), (3, (some (.cells (layT [(Value.func (.func 16) #[] #[(Value.pointer (some ⟨4, 0, none⟩)), (Value.pointer (some ⟨5, 0, none⟩))])]) 43))), (4, (some (.cells (layT [(Value.int .i64 a4)]) 3))), (5, (some (.cells (layT [(Value.slice (some ⟨1, 0, some 1⟩) (Args.Y).length Args.cY)]) 23))), (6, (some (.cells (layT [(Value.int .i64 a5), (Value.slice none 0 0), (Value.int .i64 a6), (Value.int .i64 a7), (Value.bool a8)]) 38))), (7, (some (.cells (layT [(Value.slice (some ⟨0, 0, some 1⟩) (Args.S).length Args.cS)]) 22)))], 8, 8⟩
noncomputable def V_foldOverstyleschoice_1010y1 (a0 : Int) (a1 : Int) (a2 : Int) (a3 : Bool) (a4 : Int) (a5 : Int) (a6 : Int) (a7 : Int) (a8 : Bool) (a9 : Int) (a10 : NL) (a11 : Int) (a12 : Int) (r : Int × List (NL) × Int × Int × Bool) : Value := match r with
  | (o0, o1, o2, o3, o4) => (Value.bool true)
noncomputable def R_foldOverstyleschoice_1010y1 (a0 : Int) (a1 : Int) (a2 : Int) (a3 : Bool) (a4 : Int) (a5 : Int) (a6 : Int) (a7 : Int) (a8 : Bool) (a9 : Int) (a10 : NL) (a11 : Int) (a12 : Int) (r : Int × List (NL) × Int × Int × Bool) : AH := match r with
  | (o0, o1, o2, o3, o4) => ⟨sB [(0, (some (rblk P 14 [false, true, false, true] .ready none [(4, (Value.pointer (some ⟨2, 0, none⟩))), (5, (Value.pointer (some ⟨3, 0, none⟩))), (6, (Value.pointer (some ⟨6, 0, none⟩))), (8, (Value.func (.func 18) #[] #[(Value.pointer (some ⟨7, 0, none⟩))]))] 1))), (1, (some (.marks true))), (2, (some (.cells (layT [(Value.int .i64 o0), (nlQ o1), (Value.int .i64 o2), (Value.int .i64 o3), (Value.bool o4)]) 38))), (3, (some (.cells (layT [(Value.func (.func 16) #[] #[(Value.pointer (some ⟨4, 0, none⟩)), (Value.pointer (some ⟨5, 0, none⟩))])]) 43))), (4, (some (.cells (layT [(Value.int .i64 a4)]) 3))), (5, (some (.cells (layT [(Value.slice (some ⟨1, 0, some 1⟩) (Args.Y).length Args.cY)]) 23))), (6, (some (.cells (layT [(Value.int .i64 a5), (Value.slice none 0 0), (Value.int .i64 a6), (Value.int .i64 a7), (Value.bool a8)]) 38))), (7, (some (.cells (layT [(Value.slice (some ⟨0, 0, some 1⟩) (Args.S).length Args.cS)]) 22)))], 8, 0⟩
def m_foldOverstyleschoice_1010y1 (n : Nat) (a0 : Int) (a1 : Int) (a2 : Int) (a3 : Bool) (a4 : Int) (a5 : Int) (a6 : Int) (a7 : Int) (a8 : Bool) (a9 : Int) (a10 : NL) (a11 : Int) (a12 : Int) : Option (Int × List (NL) × Int × Int × Bool) :=
  (m_stylesStyle1q1 n a0 a1 a2 a3 a9 a10 a11 a12 a4).bind fun t => match t with
  | (c1_0, c1_1, c1_2, c1_3, c1_4) =>
    match c1_1 with
    | [] =>
      some (c1_0, ([] : List (NL)), c1_2, c1_3, c1_4)
    | c1_1a :: c1_1t =>
      some (c1_0, [c1_1a], c1_2, c1_3, c1_4)
set_option maxRecDepth 100000 in
theorem p_foldOverstyleschoice_1010y1_0 (n : Nat) (a0 : Int) (a1 : Int) (a2 : Int) (a3 : Bool) (a4 : Int) (a5 : Int) (a6 : Int) (a7 : Int) (a8 : Bool) (a9 : Int) (a10 : NL) (a11 : Int) (a12 : Int) (c1_0 : Int) (c1_2 : Int) (c1_3 : Int) (c1_4 : Bool) (hc1 : m_stylesStyle1q1 n a0 a1 a2 a3 a9 a10 a11 a12 a4 = some (c1_0, [], c1_2, c1_3, c1_4)) : Gv P (.yield 0) (A_foldOverstyleschoice_1010y1 a0 a1 a2 a3 a4 a5 a6 a7 a8 a9 a10 a11 a12) (H_foldOverstyleschoice_1010y1 a0 a1 a2 a3 a4 a5 a6 a7 a8 a9 a10 a11 a12) (V_foldOverstyleschoice_1010y1 a0 a1 a2 a3 a4 a5 a6 a7 a8 a9 a10 a11 a12 (c1_0, ([] : List (NL)), c1_2, c1_3, c1_4)) (R_foldOverstyleschoice_1010y1 a0 a1 a2 a3 a4 a5 a6 a7 a8 a9 a10 a11 a12 (c1_0, ([] : List (NL)), c1_2, c1_3, c1_4)) :=
  runY_ok hm (A1 := aT []) (L1 := lT []) (A2 := aT [(4, .call ⟨2, [(0, 4, false), (1, 5, false)], (V_stylesStyle1q1 a0 a1 a2 a3 a9 a10 a11 a12 a4 (c1_0, ([] : List (NL)), c1_2, c1_3, c1_4)), (R_stylesStyle1q1 a0 a1 a2 a3 a9 a10 a11 a12 a4 (c1_0, ([] : List (NL)), c1_2, c1_3, c1_4)), [(9, 2, false)]⟩)]) (L2 := lT []) (wk := ⟨[], [(0, 0, false), (1, 1, false), (2, 2, false), (3, 3, false), (4, 4, false), (5, 5, false), (6, 6, false), (7, 7, false)], 8, 0⟩)
    (ps := [Gv P (.func 16) (A_stylesStyle1q1 a0 a1 a2 a3 a9 a10 a11 a12 a4) (H_stylesStyle1q1 a0 a1 a2 a3 a9 a10 a11 a12 a4) (V_stylesStyle1q1 a0 a1 a2 a3 a9 a10 a11 a12 a4 (c1_0, ([] : List (NL)), c1_2, c1_3, c1_4)) (R_stylesStyle1q1 a0 a1 a2 a3 a9 a10 a11 a12 a4 (c1_0, ([] : List (NL)), c1_2, c1_3, c1_4))]) (by kernel_rfl) ⟨(m_stylesStyle1q1_ok n a0 a1 a2 a3 a9 a10 a11 a12 a4 (c1_0, ([] : List (NL)), c1_2, c1_3, c1_4) hc1), trivial⟩
set_option maxRecDepth 100000 in
theorem p_foldOverstyleschoice_1010y1_1 (n : Nat) (a0 : Int) (a1 : Int) (a2 : Int) (a3 : Bool) (a4 : Int) (a5 : Int) (a6 : Int) (a7 : Int) (a8 : Bool) (a9 : Int) (a10 : NL) (a11 : Int) (a12 : Int) (c1_0 : Int) (c1_1a : NL) (c1_1t : List (NL)) (c1_2 : Int) (c1_3 : Int) (c1_4 : Bool) (hc1 : m_stylesStyle1q1 n a0 a1 a2 a3 a9 a10 a11 a12 a4 = some (c1_0, (c1_1a :: c1_1t), c1_2, c1_3, c1_4)) : Gv P (.yield 0) (A_foldOverstyleschoice_1010y1 a0 a1 a2 a3 a4 a5 a6 a7 a8 a9 a10 a11 a12) (H_foldOverstyleschoice_1010y1 a0 a1 a2 a3 a4 a5 a6 a7 a8 a9 a10 a11 a12) (V_foldOverstyleschoice_1010y1 a0 a1 a2 a3 a4 a5 a6 a7 a8 a9 a10 a11 a12 (c1_0, [c1_1a], c1_2, c1_3, c1_4)) (R_foldOverstyleschoice_1010y1 a0 a1 a2 a3 a4 a5 a6 a7 a8 a9 a10 a11 a12 (c1_0, [c1_1a], c1_2, c1_3, c1_4)) :=
  runY_ok hm (A1 := aT []) (L1 := lT []) (A2 := aT [(4, .call ⟨2, [(0, 4, false), (1, 5, false)], (V_stylesStyle1q1 a0 a1 a2 a3 a9 a10 a11 a12 a4 (c1_0, (c1_1a :: c1_1t), c1_2, c1_3, c1_4)), (R_stylesStyle1q1 a0 a1 a2 a3 a9 a10 a11 a12 a4 (c1_0, (c1_1a :: c1_1t), c1_2, c1_3, c1_4)), [(9, 2, false)]⟩)]) (L2 := lT []) (wk := ⟨[], [(0, 0, false), (1, 1, false), (2, 2, false), (3, 3, false), (4, 4, false), (5, 5, false), (6, 6, false), (7, 7, false)], 8, 0⟩)
    (ps := [Gv P (.func 16) (A_stylesStyle1q1 a0 a1 a2 a3 a9 a10 a11 a12 a4) (H_stylesStyle1q1 a0 a1 a2 a3 a9 a10 a11 a12 a4) (V_stylesStyle1q1 a0 a1 a2 a3 a9 a10 a11 a12 a4 (c1_0, (c1_1a :: c1_1t), c1_2, c1_3, c1_4)) (R_stylesStyle1q1 a0 a1 a2 a3 a9 a10 a11 a12 a4 (c1_0, (c1_1a :: c1_1t), c1_2, c1_3, c1_4))]) (by kernel_rfl) ⟨(m_stylesStyle1q1_ok n a0 a1 a2 a3 a9 a10 a11 a12 a4 (c1_0, (c1_1a :: c1_1t), c1_2, c1_3, c1_4) hc1), trivial⟩
theorem m_foldOverstyleschoice_1010y1_ok (n : Nat) (a0 : Int) (a1 : Int) (a2 : Int) (a3 : Bool) (a4 : Int) (a5 : Int) (a6 : Int) (a7 : Int) (a8 : Bool) (a9 : Int) (a10 : NL) (a11 : Int) (a12 : Int) (r : Int × List (NL) × Int × Int × Bool) (h : m_foldOverstyleschoice_1010y1 n a0 a1 a2 a3 a4 a5 a6 a7 a8 a9 a10 a11 a12 = some r) : Gv P (.yield 0) (A_foldOverstyleschoice_1010y1 a0 a1 a2 a3 a4 a5 a6 a7 a8 a9 a10 a11 a12) (H_foldOverstyleschoice_1010y1 a0 a1 a2 a3 a4 a5 a6 a7 a8 a9 a10 a11 a12) (V_foldOverstyleschoice_1010y1 a0 a1 a2 a3 a4 a5 a6 a7 a8 a9 a10 a11 a12 r) (R_foldOverstyleschoice_1010y1 a0 a1 a2 a3 a4 a5 a6 a7 a8 a9 a10 a11 a12 r) := by
  unfold m_foldOverstyleschoice_1010y1 at h
  obtain ⟨⟨c1_0, c1_1, c1_2, c1_3, c1_4⟩, hc1, h⟩ := Option.bind_eq_some_iff.1 h
  dsimp only at h
  cases c1_1 with
  | nil =>
    dsimp only at h
    obtain rfl := Option.some.inj h; exact p_foldOverstyleschoice_1010y1_0 n a0 a1 a2 a3 a4 a5 a6 a7 a8 a9 a10 a11 a12 c1_0 c1_2 c1_3 c1_4 hc1
  | cons c1_1a c1_1t =>
    dsimp only at h
    obtain rfl := Option.some.inj h; exact p_foldOverstyleschoice_1010y1_1 n a0 a1 a2 a3 a4 a5 a6 a7 a8 a9 a10 a11 a12 c1_0 c1_1a c1_1t c1_2 c1_3 c1_4 hc1

noncomputable def A_stylesStyle1q2 (a0 : Int) (a1 : NL) (a2 : Int) (a3 : Int) (a4 : Bool) (a5 : Int) (a6 : NL) (a7 : Int) (a8 : Int) (a9 : Int) : List Value := [(Value.agg #[(Value.int .i64 a0), (nlV a1), (Value.int .i64 a2), (Value.int .i64 a3), (Value.bool a4)]), (Value.agg #[(Value.int .i64 a5), (nlV a6), (Value.int .i64 a7), (Value.int .i64 a8)]), (Value.pointer (some ⟨0, 0, none⟩)), (Value.pointer (some ⟨1, 0, none⟩))]
noncomputable def H_stylesStyle1q2 (a0 : Int) (a1 : NL) (a2 : Int) (a3 : Int) (a4 : Bool) (a5 : Int) (a6 : NL) (a7 : Int) (a8 : Int) (a9 : Int) : AH := ⟨sB [(0, (some (.cells (layT [(Value.int .i64 a9)]) 3))), (1, (some (.cells (layT [(Value.slice (some ⟨1, 0, some 1⟩) (Args.Y).length Args.cY)]) 23)))], 2, 2⟩
noncomputable def V_stylesStyle1q2 (a0 : Int) (a1 : NL) (a2 : Int) (a3 : Int) (a4 : Bool) (a5 : Int) (a6 : NL) (a7 : Int) (a8 : Int) (a9 : Int) (r : Int × NL × Int × Int × Bool) : Value := match r with
  | (o0, o1, o2, o3, o4) => (Value.agg #[(Value.int .i64 o0), (nlV o1), (Value.int .i64 o2), (Value.int .i64 o3), (Value.bool o4)])
noncomputable def R_stylesStyle1q2 (a0 : Int) (a1 : NL) (a2 : Int) (a3 : Int) (a4 : Bool) (a5 : Int) (a6 : NL) (a7 : Int) (a8 : Int) (a9 : Int) (r : Int × NL × Int × Int × Bool) : AH := match r with
  | (o0, o1, o2, o3, o4) => ⟨sB [(2, (some (.cells (layT [(Value.int .i64 o0), (nlV o1), (Value.int .i64 o2), (Value.int .i64 o3), (Value.bool o4)]) 38)))], 3, 2⟩
def m_stylesStyle1q2 (n : Nat) (a0 : Int) (a1 : NL) (a2 : Int) (a3 : Int) (a4 : Bool) (a5 : Int) (a6 : NL) (a7 : Int) (a8 : Int) (a9 : Int) : Option (Int × NL × Int × Int × Bool) :=
  (m_stylesMatchesq1 n a5 a6 a7 a8 a9).bind fun c1_ =>
  if c1_ = true then
    if a4 = true then
      if a8 ≤ a3 then
        some (a0, a1, a2, a3, a4)
      else
        some (a5, a6, a7, a8, true)
    else
      some (a5, a6, a7, a8, true)
  else
    some (a0, a1, a2, a3, a4)
set_option maxRecDepth 100000 in
theorem p_stylesStyle1q2_0 (n : Nat) (a0 : Int) (a1 : NL) (a2 : Int) (a3 : Int) (a4 : Bool) (a5 : Int) (a6 : NL) (a7 : Int) (a8 : Int) (a9 : Int) (c1_ : Bool) (hc1 : m_stylesMatchesq1 n a5 a6 a7 a8 a9 = some c1_) (hc2 : c1_ = true) (hc3 : a4 = true) (hc4 : a8 ≤ a3) : Gv P (.func 16) (A_stylesStyle1q2 a0 a1 a2 a3 a4 a5 a6 a7 a8 a9) (H_stylesStyle1q2 a0 a1 a2 a3 a4 a5 a6 a7 a8 a9) (V_stylesStyle1q2 a0 a1 a2 a3 a4 a5 a6 a7 a8 a9 (a0, a1, a2, a3, a4)) (R_stylesStyle1q2 a0 a1 a2 a3 a4 a5 a6 a7 a8 a9 (a0, a1, a2, a3, a4)) :=
  runF_ok hm (A := aT [(9, .call ⟨0, [], (V_stylesMatchesq1 a5 a6 a7 a8 a9 c1_), (R_stylesMatchesq1 a5 a6 a7 a8 a9 c1_), []⟩), (10, .val (.bool false)), (14, .val (.bool true)), (20, .val (.bool true))]) (L := lT []) (wk := ⟨[6], [(2, 4, false)], 3, 2⟩)
    (ps := [Gv P (.func 8) (A_stylesMatchesq1 a5 a6 a7 a8 a9) (H_stylesMatchesq1 a5 a6 a7 a8 a9) (V_stylesMatchesq1 a5 a6 a7 a8 a9 c1_) (R_stylesMatchesq1 a5 a6 a7 a8 a9 c1_),
    (Value.bool (!c1_)) = (Value.bool false),
    (Value.bool a4) = (Value.bool true),
    (Value.bool (decide (a8 ≤ a3))) = (Value.bool true)]) (by kernel_rfl) ⟨(m_stylesMatchesq1_ok n a5 a6 a7 a8 a9 c1_ hc1), (vBn hc2), (vB hc3), (vbT hc4), trivial⟩
set_option maxRecDepth 100000 in
theorem p_stylesStyle1q2_1 (n : Nat) (a0 : Int) (a1 : NL) (a2 : Int) (a3 : Int) (a4 : Bool) (a5 : Int) (a6 : NL) (a7 : Int) (a8 : Int) (a9 : Int) (c1_ : Bool) (hc1 : m_stylesMatchesq1 n a5 a6 a7 a8 a9 = some c1_) (hc2 : c1_ = true) (hc3 : a4 = true) (hc4 : ¬ (a8 ≤ a3)) : Gv P (.func 16) (A_stylesStyle1q2 a0 a1 a2 a3 a4 a5 a6 a7 a8 a9) (H_stylesStyle1q2 a0 a1 a2 a3 a4 a5 a6 a7 a8 a9) (V_stylesStyle1q2 a0 a1 a2 a3 a4 a5 a6 a7 a8 a9 (a5, a6, a7, a8, true)) (R_stylesStyle1q2 a0 a1 a2 a3 a4 a5 a6 a7 a8 a9 (a5, a6, a7, a8, true)) :=
  runF_ok hm (A := aT [(9, .call ⟨0, [], (V_stylesMatchesq1 a5 a6 a7 a8 a9 c1_), (R_stylesMatchesq1 a5 a6 a7 a8 a9 c1_), []⟩), (10, .val (.bool false)), (14, .val (.bool true)), (20, .val (.bool false))]) (L := lT []) (wk := ⟨[6], [(2, 4, false)], 3, 2⟩)
    (ps := [Gv P (.func 8) (A_stylesMatchesq1 a5 a6 a7 a8 a9) (H_stylesMatchesq1 a5 a6 a7 a8 a9) (V_stylesMatchesq1 a5 a6 a7 a8 a9 c1_) (R_stylesMatchesq1 a5 a6 a7 a8 a9 c1_),
    (Value.bool (!c1_)) = (Value.bool false),
    (Value.bool a4) = (Value.bool true),
    (Value.bool (decide (a8 ≤ a3))) = (Value.bool false)]) (by kernel_rfl) ⟨(m_stylesMatchesq1_ok n a5 a6 a7 a8 a9 c1_ hc1), (vBn hc2), (vB hc3), (vbF hc4), trivial⟩
set_option maxRecDepth 100000 in
theorem p_stylesStyle1q2_2 (n : Nat) (a0 : Int) (a1 : NL) (a2 : Int) (a3 : Int) (a4 : Bool) (a5 : Int) (a6 : NL) (a7 : Int) (a8 : Int) (a9 : Int) (c1_ : Bool) (hc1 : m_stylesMatchesq1 n a5 a6 a7 a8 a9 = some c1_) (hc2 : c1_ = true) (hc3 : ¬ (a4 = true)) : Gv P (.func 16) (A_stylesStyle1q2 a0 a1 a2 a3 a4 a5 a6 a7 a8 a9) (H_stylesStyle1q2 a0 a1 a2 a3 a4 a5 a6 a7 a8 a9) (V_stylesStyle1q2 a0 a1 a2 a3 a4 a5 a6 a7 a8 a9 (a5, a6, a7, a8, true)) (R_stylesStyle1q2 a0 a1 a2 a3 a4 a5 a6 a7 a8 a9 (a5, a6, a7, a8, true)) :=
  runF_ok hm (A := aT [(9, .call ⟨0, [], (V_stylesMatchesq1 a5 a6 a7 a8 a9 c1_), (R_stylesMatchesq1 a5 a6 a7 a8 a9 c1_), []⟩), (10, .val (.bool false)), (14, .val (.bool false))]) (L := lT []) (wk := ⟨[6], [(2, 4, false)], 3, 2⟩)
    (ps := [Gv P (.func 8) (A_stylesMatchesq1 a5 a6 a7 a8 a9) (H_stylesMatchesq1 a5 a6 a7 a8 a9) (V_stylesMatchesq1 a5 a6 a7 a8 a9 c1_) (R_stylesMatchesq1 a5 a6 a7 a8 a9 c1_),
    (Value.bool (!c1_)) = (Value.bool false),
    (Value.bool a4) = (Value.bool false)]) (by kernel_rfl) ⟨(m_stylesMatchesq1_ok n a5 a6 a7 a8 a9 c1_ hc1), (vBn hc2), (vB (Bool.eq_false_iff.2 hc3)), trivial⟩
set_option maxRecDepth 100000 in
theorem p_stylesStyle1q2_3 (n : Nat) (a0 : Int) (a1 : NL) (a2 : Int) (a3 : Int) (a4 : Bool) (a5 : Int) (a6 : NL) (a7 : Int) (a8 : Int) (a9 : Int) (c1_ : Bool) (hc1 : m_stylesMatchesq1 n a5 a6 a7 a8 a9 = some c1_) (hc2 : ¬ (c1_ = true)) : Gv P (.func 16) (A_stylesStyle1q2 a0 a1 a2 a3 a4 a5 a6 a7 a8 a9) (H_stylesStyle1q2 a0 a1 a2 a3 a4 a5 a6 a7 a8 a9) (V_stylesStyle1q2 a0 a1 a2 a3 a4 a5 a6 a7 a8 a9 (a0, a1, a2, a3, a4)) (R_stylesStyle1q2 a0 a1 a2 a3 a4 a5 a6 a7 a8 a9 (a0, a1, a2, a3, a4)) :=
  runF_ok hm (A := aT [(9, .call ⟨0, [], (V_stylesMatchesq1 a5 a6 a7 a8 a9 c1_), (R_stylesMatchesq1 a5 a6 a7 a8 a9 c1_), []⟩), (10, .val (.bool true))]) (L := lT []) (wk := ⟨[6], [(2, 4, false)], 3, 2⟩)
    (ps := [Gv P (.func 8) (A_stylesMatchesq1 a5 a6 a7 a8 a9) (H_stylesMatchesq1 a5 a6 a7 a8 a9) (V_stylesMatchesq1 a5 a6 a7 a8 a9 c1_) (R_stylesMatchesq1 a5 a6 a7 a8 a9 c1_),
    (Value.bool (!c1_)) = (Value.bool true)]) (by kernel_rfl) ⟨(m_stylesMatchesq1_ok n a5 a6 a7 a8 a9 c1_ hc1), (vBn (Bool.eq_false_iff.2 hc2)), trivial⟩
theorem m_stylesStyle1q2_ok (n : Nat) (a0 : Int) (a1 : NL) (a2 : Int) (a3 : Int) (a4 : Bool) (a5 : Int) (a6 : NL) (a7 : Int) (a8 : Int) (a9 : Int) (r : Int × NL × Int × Int × Bool) (h : m_stylesStyle1q2 n a0 a1 a2 a3 a4 a5 a6 a7 a8 a9 = some r) : Gv P (.func 16) (A_stylesStyle1q2 a0 a1 a2 a3 a4 a5 a6 a7 a8 a9) (H_stylesStyle1q2 a0 a1 a2 a3 a4 a5 a6 a7 a8 a9) (V_stylesStyle1q2 a0 a1 a2 a3 a4 a5 a6 a7 a8 a9 r) (R_stylesStyle1q2 a0 a1 a2 a3 a4 a5 a6 a7 a8 a9 r) := by
  unfold m_stylesStyle1q2 at h
  obtain ⟨c1_, hc1, h⟩ := Option.bind_eq_some_iff.1 h
  by_cases hc2 : c1_ = true
  · rw [if_pos hc2] at h
    by_cases hc3 : a4 = true
    · rw [if_pos hc3] at h
      by_cases hc4 : a8 ≤ a3
      · rw [if_pos hc4] at h
        obtain rfl := Option.some.inj h; exact p_stylesStyle1q2_0 n a0 a1 a2 a3 a4 a5 a6 a7 a8 a9 c1_ hc1 hc2 hc3 hc4
      · rw [if_neg hc4] at h
        obtain rfl := Option.some.inj h; exact p_stylesStyle1q2_1 n a0 a1 a2 a3 a4 a5 a6 a7 a8 a9 c1_ hc1 hc2 hc3 hc4
    · rw [if_neg hc3] at h
      obtain rfl := Option.some.inj h; exact p_stylesStyle1q2_2 n a0 a1 a2 a3 a4 a5 a6 a7 a8 a9 c1_ hc1 hc2 hc3
  · rw [if_neg hc2] at h
    obtain rfl := Option.some.inj h; exact p_stylesStyle1q2_3 n a0 a1 a2 a3 a4 a5 a6 a7 a8 a9 c1_ hc1 hc2

noncomputable def A_foldOverstyleschoice_1010y2 (a0 : Int) (a1 : NL) (a2 : Int) (a3 : Int) (a4 : Bool) (a5 : Int) (a6 : Int) (a7 : Int) (a8 : Int) (a9 : Bool) (a10 : Int) (a11 : NL) (a12 : Int) (a13 : Int) : List Value := [(Value.agg #[(Value.int .i64 a10), (nlV a11), (Value.int .i64 a12), (Value.int .i64 a13)])]
noncomputable def H_foldOverstyleschoice_1010y2 (a0 : Int) (a1 : NL) (a2 : Int) (a3 : Int) (a4 : Bool) (a5 : Int) (a6 : Int) (a7 : Int) (a8 : Int) (a9 : Bool) (a10 : Int) (a11 : NL) (a12 : Int) (a13 : Int) : AH := ⟨sB [(0, (some (rblk P 14 [false, true, false, true] .ready none [(4, (Value.pointer (some ⟨2, 0, none⟩))), (5, (Value.pointer (some ⟨3, 0, none⟩))), (6, (Value.pointer (some ⟨6, 0, none⟩))), (8, (Value.func (.func 18) #[] #[(Value.pointer (some ⟨7, 0, none⟩))]))] 1))), (1, (some (.marks true))), (2, (some (.cells (layT [(Value.int .i64 a0), (nlV a1), (Value.int .i64 a2), (Value.int .i64 a3), (Value.bool a4)]) 38))), (3, (some (.cells (layT [(Value.func (.func 16) #[] #[(Value.pointer (some ⟨4, 0, none⟩)), (Value.pointer (some ⟨5, 0, none⟩))])]) 43))), (4, (some (.cells (layT [(Value.int .i64 a5)]) 3))), (5, (some (.cells (layT [(Value.slice (some ⟨1, 0, some 1⟩) (Args.Y).length Args.cY)]) 23))), (6, (some (.cells (layT [(Value.int .i64 a6), (Value.slice none 0 0), (Value.int .i64 a7), (Value.int .i64 a8), (Value.bool a9)]) 38))), (7, (some (.cells (layT [(Value.slice (some ⟨0, 0, some 1⟩) (Args.S).length Args.cS)]) 22)))], 8, 8⟩
noncomputable def V_foldOverstyleschoice_1010y2 (a0 : Int) (a1 : NL) (a2 : Int) (a3 : Int) (a4 : Bool) (a5 : Int) (a6 : Int) (a7 : Int) (a8 : Int) (a9 : Bool) (a10 : Int) (a11 : NL) (a12 : Int) (a13 : Int) (r : Int × NL × Int × Int × Bool) : Value := match r with
  | (o0, o1, o2, o3, o4) => (Value.bool true)
noncomputable def R_foldOverstyleschoice_1010y2 (a0 : Int) (a1 : NL) (a2 : Int) (a3 : Int) (a4 : Bool) (a5 : Int) (a6 : Int) (a7 : Int) (a8 : Int) (a9 : Bool) (a10 : Int) (a11 : NL) (a12 : Int) (a13 : Int) (r : Int × NL × Int × Int × Bool) : AH := match r with
  | (o0, o1, o2, o3, o4) => ⟨sB [(0, (some (rblk P 14 [false, true, false, true] .ready none [(4, (Value.pointer (some ⟨2, 0, none⟩))), (5, (Value.pointer (some ⟨3, 0, none⟩))), (6, (Value.pointer (some ⟨6, 0, none⟩))), (8, (Value.func (.func 18) #[] #[(Value.pointer (some ⟨7, 0, none⟩))]))] 1))), (1, (some (.marks true))), (2, (some (.cells (layT [(Value.int .i64 o0), (nlV o1), (Value.int .i64 o2), (Value.int .i64 o3), (Value.bool o4)]) 38))), (3, (some (.cells (layT [(Value.func (.func 16) #[] #[(Value.pointer (some ⟨4, 0, none⟩)), (Value.pointer (some ⟨5, 0, none⟩))])]) 43))), (4, (some (.cells (layT [(Value.int .i64 a5)]) 3))), (5, (some (.cells (layT [(Value.slice (some ⟨1, 0, some 1⟩) (Args.Y).length Args.cY)]) 23))), (6, (some (.cells (layT [(Value.int .i64 a6), (Value.slice none 0 0), (Value.int .i64 a7), (Value.int .i64 a8), (Value.bool a9)]) 38))), (7, (some (.cells (layT [(Value.slice (some ⟨0, 0, some 1⟩) (Args.S).length Args.cS)]) 22)))], 8, 0⟩
def m_foldOverstyleschoice_1010y2 (n : Nat) (a0 : Int) (a1 : NL) (a2 : Int) (a3 : Int) (a4 : Bool) (a5 : Int) (a6 : Int) (a7 : Int) (a8 : Int) (a9 : Bool) (a10 : Int) (a11 : NL) (a12 : Int) (a13 : Int) : Option (Int × NL × Int × Int × Bool) :=
  (m_stylesStyle1q2 n a0 a1 a2 a3 a4 a10 a11 a12 a13 a5).bind fun t => match t with
  | (c1_0, c1_1, c1_2, c1_3, c1_4) =>
    some (c1_0, c1_1, c1_2, c1_3, c1_4)
set_option maxRecDepth 100000 in
theorem p_foldOverstyleschoice_1010y2_0 (n : Nat) (a0 : Int) (a1 : NL) (a2 : Int) (a3 : Int) (a4 : Bool) (a5 : Int) (a6 : Int) (a7 : Int) (a8 : Int) (a9 : Bool) (a10 : Int) (a11 : NL) (a12 : Int) (a13 : Int) (c1_0 : Int) (c1_1 : NL) (c1_2 : Int) (c1_3 : Int) (c1_4 : Bool) (hc1 : m_stylesStyle1q2 n a0 a1 a2 a3 a4 a10 a11 a12 a13 a5 = some (c1_0, c1_1, c1_2, c1_3, c1_4)) : Gv P (.yield 0) (A_foldOverstyleschoice_1010y2 a0 a1 a2 a3 a4 a5 a6 a7 a8 a9 a10 a11 a12 a13) (H_foldOverstyleschoice_1010y2 a0 a1 a2 a3 a4 a5 a6 a7 a8 a9 a10 a11 a12 a13) (V_foldOverstyleschoice_1010y2 a0 a1 a2 a3 a4 a5 a6 a7 a8 a9 a10 a11 a12 a13 (c1_0, c1_1, c1_2, c1_3, c1_4)) (R_foldOverstyleschoice_1010y2 a0 a1 a2 a3 a4 a5 a6 a7 a8 a9 a10 a11 a12 a13 (c1_0, c1_1, c1_2, c1_3, c1_4)) :=
  runY_ok hm (A1 := aT []) (L1 := lT []) (A2 := aT [(4, .call ⟨2, [(0, 4, false), (1, 5, false)], (V_stylesStyle1q2 a0 a1 a2 a3 a4 a10 a11 a12 a13 a5 (c1_0, c1_1, c1_2, c1_3, c1_4)), (R_stylesStyle1q2 a0 a1 a2 a3 a4 a10 a11 a12 a13 a5 (c1_0, c1_1, c1_2, c1_3, c1_4)), [(9, 2, false)]⟩)]) (L2 := lT []) (wk := ⟨[], [(0, 0, false), (1, 1, false), (2, 2, false), (3, 3, false), (4, 4, false), (5, 5, false), (6, 6, false), (7, 7, false)], 8, 0⟩)
    (ps := [Gv P (.func 16) (A_stylesStyle1q2 a0 a1 a2 a3 a4 a10 a11 a12 a13 a5) (H_stylesStyle1q2 a0 a1 a2 a3 a4 a10 a11 a12 a13 a5) (V_stylesStyle1q2 a0 a1 a2 a3 a4 a10 a11 a12 a13 a5 (c1_0, c1_1, c1_2, c1_3, c1_4)) (R_stylesStyle1q2 a0 a1 a2 a3 a4 a10 a11 a12 a13 a5 (c1_0, c1_1, c1_2, c1_3, c1_4))]) (by kernel_rfl) ⟨(m_stylesStyle1q2_ok n a0 a1 a2 a3 a4 a10 a11 a12 a13 a5 (c1_0, c1_1, c1_2, c1_3, c1_4) hc1), trivial⟩
theorem m_foldOverstyleschoice_1010y2_ok (n : Nat) (a0 : Int) (a1 : NL) (a2 : Int) (a3 : Int) (a4 : Bool) (a5 : Int) (a6 : Int) (a7 : Int) (a8 : Int) (a9 : Bool) (a10 : Int) (a11 : NL) (a12 : Int) (a13 : Int) (r : Int × NL × Int × Int × Bool) (h : m_foldOverstyleschoice_1010y2 n a0 a1 a2 a3 a4 a5 a6 a7 a8 a9 a10 a11 a12 a13 = some r) : Gv P (.yield 0) (A_foldOverstyleschoice_1010y2 a0 a1 a2 a3 a4 a5 a6 a7 a8 a9 a10 a11 a12 a13) (H_foldOverstyleschoice_1010y2 a0 a1 a2 a3 a4 a5 a6 a7 a8 a9 a10 a11 a12 a13) (V_foldOverstyleschoice_1010y2 a0 a1 a2 a3 a4 a5 a6 a7 a8 a9 a10 a11 a12 a13 r) (R_foldOverstyleschoice_1010y2 a0 a1 a2 a3 a4 a5 a6 a7 a8 a9 a10 a11 a12 a13 r) := by
  unfold m_foldOverstyleschoice_1010y2 at h
  obtain ⟨⟨c1_0, c1_1, c1_2, c1_3, c1_4⟩, hc1, h⟩ := Option.bind_eq_some_iff.1 h
  dsimp only at h
  obtain rfl := Option.some.inj h; exact p_foldOverstyleschoice_1010y2_0 n a0 a1 a2 a3 a4 a5 a6 a7 a8 a9 a10 a11 a12 a13 c1_0 c1_1 c1_2 c1_3 c1_4 hc1

noncomputable def S_slicesValuesapiStyle1q1_1 (x1_5 : Int) (x1_6 : Int) (x1_7 : Int) (x1_8 : Int) (x1_9 : Bool) (x1_10 : Int) (st : Int × List (NL) × Int × Int × Bool × Int) : XSt := match st with
  | (x1_0, x1_1, x1_2, x1_3, x1_4, x1_11) => (sT 16 [(0, (Value.func (.yield 0) #[] #[])), (5, (Value.slice (some ⟨0, 0, some 1⟩) (Args.S).length Args.cS)), (6, (Value.int .i64 x1_10)), (7, (Value.int .i64 x1_11))], [], ⟨sB [(0, (some (rblk P 14 [false, true, false, true] .ready none [(4, (Value.pointer (some ⟨2, 0, none⟩))), (5, (Value.pointer (some ⟨3, 0, none⟩))), (6, (Value.pointer (some ⟨6, 0, none⟩))), (8, (Value.func (.func 18) #[] #[(Value.pointer (some ⟨7, 0, none⟩))]))] 1))), (1, (some (.marks true))), (2, (some (.cells (layT [(Value.int .i64 x1_0), (nlQ x1_1), (Value.int .i64 x1_2), (Value.int .i64 x1_3), (Value.bool x1_4)]) 38))), (3, (some (.cells (layT [(Value.func (.func 16) #[] #[(Value.pointer (some ⟨4, 0, none⟩)), (Value.pointer (some ⟨5, 0, none⟩))])]) 43))), (4, (some (.cells (layT [(Value.int .i64 x1_5)]) 3))), (5, (some (.cells (layT [(Value.slice (some ⟨1, 0, some 1⟩) (Args.Y).length Args.cY)]) 23))), (6, (some (.cells (layT [(Value.int .i64 x1_6), (Value.slice none 0 0), (Value.int .i64 x1_7), (Value.int .i64 x1_8), (Value.bool x1_9)]) 38))), (7, (some (.cells (layT [(Value.slice (some ⟨0, 0, some 1⟩) (Args.S).length Args.cS)]) 22)))], 8, 0⟩)
noncomputable def X_slicesValuesapiStyle1q1_1 (x1_5 : Int) (x1_6 : Int) (x1_7 : Int) (x1_8 : Int) (x1_9 : Bool) (x1_10 : Int) (r : Int × List (NL) × Int × Int × Bool) : Ex × XSt := match r with
  | (z1_0, z1_1, z1_2, z1_3, z1_4) => (.exit 0, (sT 16 [], [], ⟨sB [(0, (some (rblk P 14 [false, true, false, true] .ready none [(4, (Value.pointer (some ⟨2, 0, none⟩))), (5, (Value.pointer (some ⟨3, 0, none⟩))), (6, (Value.pointer (some ⟨6, 0, none⟩))), (8, (Value.func (.func 18) #[] #[(Value.pointer (some ⟨7, 0, none⟩))]))] 1))), (1, (some (.marks true))), (2, (some (.cells (layT [(Value.int .i64 z1_0), (nlQ z1_1), (Value.int .i64 z1_2), (Value.int .i64 z1_3), (Value.bool z1_4)]) 38))), (3, (some (.cells (layT [(Value.func (.func 16) #[] #[(Value.pointer (some ⟨4, 0, none⟩)), (Value.pointer (some ⟨5, 0, none⟩))])]) 43))), (4, (some (.cells (layT [(Value.int .i64 x1_5)]) 3))), (5, (some (.cells (layT [(Value.slice (some ⟨1, 0, some 1⟩) (Args.Y).length Args.cY)]) 23))), (6, (some (.cells (layT [(Value.int .i64 x1_6), (Value.slice none 0 0), (Value.int .i64 x1_7), (Value.int .i64 x1_8), (Value.bool x1_9)]) 38))), (7, (some (.cells (layT [(Value.slice (some ⟨0, 0, some 1⟩) (Args.S).length Args.cS)]) 22)))], 8, 0⟩))
def B_slicesValuesapiStyle1q1_1 (n : Nat) (x1_5 : Int) (x1_6 : Int) (x1_7 : Int) (x1_8 : Int) (x1_9 : Bool) (x1_10 : Int) (st : Int × List (NL) × Int × Int × Bool × Int) : Option ((Int × List (NL) × Int × Int × Bool × Int) ⊕ (Int × List (NL) × Int × Int × Bool)) := match st with
  | (x1_0, x1_1, x1_2, x1_3, x1_4, x1_11) =>
    match x1_1 with
    | [] =>
      if x1_11 < x1_10 then
        if 0 ≤ x1_11 ∧ x1_11 < (((Args.S).length : Nat) : Int) then
          (m_foldOverstyleschoice_1010y1 n x1_0 x1_2 x1_3 x1_4 x1_5 x1_6 x1_7 x1_8 x1_9 (((Args.S).getD (x1_11).toNat (0, nl0, 0, 0)).1) (((Args.S).getD (x1_11).toNat (0, nl0, 0, 0)).2.1) (((Args.S).getD (x1_11).toNat (0, nl0, 0, 0)).2.2.1) (((Args.S).getD (x1_11).toNat (0, nl0, 0, 0)).2.2.2)).bind fun t => match t with
          | (y1_3_0, y1_3_1, y1_3_2, y1_3_3, y1_3_4) =>
            match y1_3_1 with
            | [] =>
              some (.inl (y1_3_0, ([] : List (NL)), y1_3_2, y1_3_3, y1_3_4, (w64 (x1_11 + (1 : Int)))))
            | y1_3_1a :: y1_3_1t =>
              some (.inl (y1_3_0, [y1_3_1a], y1_3_2, y1_3_3, y1_3_4, (w64 (x1_11 + (1 : Int)))))
        else none
      else
        some (.inr (x1_0, ([] : List (NL)), x1_2, x1_3, x1_4))
    | x1_1a :: x1_1t =>
      if x1_11 < x1_10 then
        if 0 ≤ x1_11 ∧ x1_11 < (((Args.S).length : Nat) : Int) then
          (m_foldOverstyleschoice_1010y2 n x1_0 x1_1a x1_2 x1_3 x1_4 x1_5 x1_6 x1_7 x1_8 x1_9 (((Args.S).getD (x1_11).toNat (0, nl0, 0, 0)).1) (((Args.S).getD (x1_11).toNat (0, nl0, 0, 0)).2.1) (((Args.S).getD (x1_11).toNat (0, nl0, 0, 0)).2.2.1) (((Args.S).getD (x1_11).toNat (0, nl0, 0, 0)).2.2.2)).bind fun t => match t with
          | (y1_3_0, y1_3_1, y1_3_2, y1_3_3, y1_3_4) =>
            some (.inl (y1_3_0, [y1_3_1], y1_3_2, y1_3_3, y1_3_4, (w64 (x1_11 + (1 : Int)))))
        else none
      else
        some (.inr (x1_0, [x1_1a], x1_2, x1_3, x1_4))
def m_slicesValuesapiStyle1q1_1 (n : Nat) (x1_5 : Int) (x1_6 : Int) (x1_7 : Int) (x1_8 : Int) (x1_9 : Bool) (x1_10 : Int) (st : Int × List (NL) × Int × Int × Bool × Int) : Option (Int × List (NL) × Int × Int × Bool) := iterM (B_slicesValuesapiStyle1q1_1 n x1_5 x1_6 x1_7 x1_8 x1_9 x1_10) n st
set_option maxRecDepth 100000 in
theorem q_slicesValuesapiStyle1q1_1_0 (n : Nat) {rnd : Option Nat} (x1_0 : Int) (x1_2 : Int) (x1_3 : Int) (x1_4 : Bool) (x1_5 : Int) (x1_6 : Int) (x1_7 : Int) (x1_8 : Int) (x1_9 : Bool) (x1_10 : Int) (x1_11 : Int) (hy1_1 : x1_11 < x1_10) (hy1_2 : 0 ≤ x1_11 ∧ x1_11 < (((Args.S).length : Nat) : Int)) (y1_3_0 : Int) (y1_3_2 : Int) (y1_3_3 : Int) (y1_3_4 : Bool) (hy1_3 : m_foldOverstyleschoice_1010y1 n x1_0 x1_2 x1_3 x1_4 x1_5 x1_6 x1_7 x1_8 x1_9 (((Args.S).getD (x1_11).toNat (0, nl0, 0, 0)).1) (((Args.S).getD (x1_11).toNat (0, nl0, 0, 0)).2.1) (((Args.S).getD (x1_11).toNat (0, nl0, 0, 0)).2.2.1) (((Args.S).getD (x1_11).toNat (0, nl0, 0, 0)).2.2.2) = some (y1_3_0, [], y1_3_2, y1_3_3, y1_3_4)) : CG P rnd (fnN P 18) 8 (codeOf P 18 [false, false, true]) (S_slicesValuesapiStyle1q1_1 x1_5 x1_6 x1_7 x1_8 x1_9 x1_10 (x1_0, ([] : List (NL)), x1_2, x1_3, x1_4, x1_11)) (.normal, S_slicesValuesapiStyle1q1_1 x1_5 x1_6 x1_7 x1_8 x1_9 x1_10 (y1_3_0, ([] : List (NL)), y1_3_2, y1_3_3, y1_3_4, (w64 (x1_11 + (1 : Int))))) :=
  runC_ok hm (A := aT [(1, .val (.bool true)), (7, .pur (Value.pointer (some ⟨0, ((x1_11).toNat * 4), some 1⟩))), (8, .ld (Value.agg #[(Value.int .i64 (((Args.S).getD (x1_11).toNat (0, nl0, 0, 0)).1)), (nlV (((Args.S).getD (x1_11).toNat (0, nl0, 0, 0)).2.1)), (Value.int .i64 (((Args.S).getD (x1_11).toNat (0, nl0, 0, 0)).2.2.1)), (Value.int .i64 (((Args.S).getD (x1_11).toNat (0, nl0, 0, 0)).2.2.2))])), (14, .call ⟨8, [(0, 0, false), (1, 1, false), (2, 2, false), (3, 3, false), (4, 4, false), (5, 5, false), (6, 6, false), (7, 7, false)], (V_foldOverstyleschoice_1010y1 x1_0 x1_2 x1_3 x1_4 x1_5 x1_6 x1_7 x1_8 x1_9 (((Args.S).getD (x1_11).toNat (0, nl0, 0, 0)).1) (((Args.S).getD (x1_11).toNat (0, nl0, 0, 0)).2.1) (((Args.S).getD (x1_11).toNat (0, nl0, 0, 0)).2.2.1) (((Args.S).getD (x1_11).toNat (0, nl0, 0, 0)).2.2.2) (y1_3_0, ([] : List (NL)), y1_3_2, y1_3_3, y1_3_4)), (R_foldOverstyleschoice_1010y1 x1_0 x1_2 x1_3 x1_4 x1_5 x1_6 x1_7 x1_8 x1_9 (((Args.S).getD (x1_11).toNat (0, nl0, 0, 0)).1) (((Args.S).getD (x1_11).toNat (0, nl0, 0, 0)).2.1) (((Args.S).getD (x1_11).toNat (0, nl0, 0, 0)).2.2.1) (((Args.S).getD (x1_11).toNat (0, nl0, 0, 0)).2.2.2) (y1_3_0, ([] : List (NL)), y1_3_2, y1_3_3, y1_3_4)), [(0, 0, false), (1, 1, false), (2, 2, false), (3, 3, false), (4, 4, false), (5, 5, false), (6, 6, false), (7, 7, false)]⟩)]) (L := lT []) (wk := ⟨[0, 5, 6, 7], [(0, 0, false), (1, 1, false), (2, 2, false), (3, 3, false), (4, 4, false), (5, 5, false), (6, 6, false), (7, 7, false)], 8, 0⟩)
    (ps := [(Value.bool (decide (x1_11 < x1_10))) = (Value.bool true),
    opIndexAddr P 22 (Value.slice (some ⟨0, 0, some 1⟩) (Args.S).length Args.cS) (Value.int .i64 x1_11) Ax.h0 = some ((Value.pointer (some ⟨0, ((x1_11).toNat * 4), some 1⟩)), Ax.h0),
    loadG P 27 (Value.pointer (some ⟨0, ((x1_11).toNat * 4), some 1⟩)) Ax.h0 = some ((Value.agg #[(Value.int .i64 (((Args.S).getD (x1_11).toNat (0, nl0, 0, 0)).1)), (nlV (((Args.S).getD (x1_11).toNat (0, nl0, 0, 0)).2.1)), (Value.int .i64 (((Args.S).getD (x1_11).toNat (0, nl0, 0, 0)).2.2.1)), (Value.int .i64 (((Args.S).getD (x1_11).toNat (0, nl0, 0, 0)).2.2.2))]), Ax.h0),
    Gv P (.yield 0) (A_foldOverstyleschoice_1010y1 x1_0 x1_2 x1_3 x1_4 x1_5 x1_6 x1_7 x1_8 x1_9 (((Args.S).getD (x1_11).toNat (0, nl0, 0, 0)).1) (((Args.S).getD (x1_11).toNat (0, nl0, 0, 0)).2.1) (((Args.S).getD (x1_11).toNat (0, nl0, 0, 0)).2.2.1) (((Args.S).getD (x1_11).toNat (0, nl0, 0, 0)).2.2.2)) (H_foldOverstyleschoice_1010y1 x1_0 x1_2 x1_3 x1_4 x1_5 x1_6 x1_7 x1_8 x1_9 (((Args.S).getD (x1_11).toNat (0, nl0, 0, 0)).1) (((Args.S).getD (x1_11).toNat (0, nl0, 0, 0)).2.1) (((Args.S).getD (x1_11).toNat (0, nl0, 0, 0)).2.2.1) (((Args.S).getD (x1_11).toNat (0, nl0, 0, 0)).2.2.2)) (V_foldOverstyleschoice_1010y1 x1_0 x1_2 x1_3 x1_4 x1_5 x1_6 x1_7 x1_8 x1_9 (((Args.S).getD (x1_11).toNat (0, nl0, 0, 0)).1) (((Args.S).getD (x1_11).toNat (0, nl0, 0, 0)).2.1) (((Args.S).getD (x1_11).toNat (0, nl0, 0, 0)).2.2.1) (((Args.S).getD (x1_11).toNat (0, nl0, 0, 0)).2.2.2) (y1_3_0, ([] : List (NL)), y1_3_2, y1_3_3, y1_3_4)) (R_foldOverstyleschoice_1010y1 x1_0 x1_2 x1_3 x1_4 x1_5 x1_6 x1_7 x1_8 x1_9 (((Args.S).getD (x1_11).toNat (0, nl0, 0, 0)).1) (((Args.S).getD (x1_11).toNat (0, nl0, 0, 0)).2.1) (((Args.S).getD (x1_11).toNat (0, nl0, 0, 0)).2.2.1) (((Args.S).getD (x1_11).toNat (0, nl0, 0, 0)).2.2.2) (y1_3_0, ([] : List (NL)), y1_3_2, y1_3_3, y1_3_4))]) (by kernel_rfl) ⟨(vbT hy1_1), (ixW (e := 27) (by kernel_rfl) (by kernel_rfl) (hy1_2).1 (hy1_2).2), (ldWA rwf_iLii (0, nl0, 0, 0) (i := (x1_11).toNat) (q := 0) (L := Args.S) (n := 4) ((x1_11).toNat * 4) rfl rfl (by kernel_rfl) (by kernel_rfl) (toNatLt hy1_2) (by decide) rfl), (m_foldOverstyleschoice_1010y1_ok n x1_0 x1_2 x1_3 x1_4 x1_5 x1_6 x1_7 x1_8 x1_9 (((Args.S).getD (x1_11).toNat (0, nl0, 0, 0)).1) (((Args.S).getD (x1_11).toNat (0, nl0, 0, 0)).2.1) (((Args.S).getD (x1_11).toNat (0, nl0, 0, 0)).2.2.1) (((Args.S).getD (x1_11).toNat (0, nl0, 0, 0)).2.2.2) (y1_3_0, ([] : List (NL)), y1_3_2, y1_3_3, y1_3_4) hy1_3), trivial⟩
set_option maxRecDepth 100000 in
theorem q_slicesValuesapiStyle1q1_1_1 (n : Nat) {rnd : Option Nat} (x1_0 : Int) (x1_2 : Int) (x1_3 : Int) (x1_4 : Bool) (x1_5 : Int) (x1_6 : Int) (x1_7 : Int) (x1_8 : Int) (x1_9 : Bool) (x1_10 : Int) (x1_11 : Int) (hy1_1 : x1_11 < x1_10) (hy1_2 : 0 ≤ x1_11 ∧ x1_11 < (((Args.S).length : Nat) : Int)) (y1_3_0 : Int) (y1_3_1a : NL) (y1_3_1t : List (NL)) (y1_3_2 : Int) (y1_3_3 : Int) (y1_3_4 : Bool) (hy1_3 : m_foldOverstyleschoice_1010y1 n x1_0 x1_2 x1_3 x1_4 x1_5 x1_6 x1_7 x1_8 x1_9 (((Args.S).getD (x1_11).toNat (0, nl0, 0, 0)).1) (((Args.S).getD (x1_11).toNat (0, nl0, 0, 0)).2.1) (((Args.S).getD (x1_11).toNat (0, nl0, 0, 0)).2.2.1) (((Args.S).getD (x1_11).toNat (0, nl0, 0, 0)).2.2.2) = some (y1_3_0, (y1_3_1a :: y1_3_1t), y1_3_2, y1_3_3, y1_3_4)) : CG P rnd (fnN P 18) 8 (codeOf P 18 [false, false, true]) (S_slicesValuesapiStyle1q1_1 x1_5 x1_6 x1_7 x1_8 x1_9 x1_10 (x1_0, ([] : List (NL)), x1_2, x1_3, x1_4, x1_11)) (.normal, S_slicesValuesapiStyle1q1_1 x1_5 x1_6 x1_7 x1_8 x1_9 x1_10 (y1_3_0, [y1_3_1a], y1_3_2, y1_3_3, y1_3_4, (w64 (x1_11 + (1 : Int))))) :=
  runC_ok hm (A := aT [(1, .val (.bool true)), (7, .pur (Value.pointer (some ⟨0, ((x1_11).toNat * 4), some 1⟩))), (8, .ld (Value.agg #[(Value.int .i64 (((Args.S).getD (x1_11).toNat (0, nl0, 0, 0)).1)), (nlV (((Args.S).getD (x1_11).toNat (0, nl0, 0, 0)).2.1)), (Value.int .i64 (((Args.S).getD (x1_11).toNat (0, nl0, 0, 0)).2.2.1)), (Value.int .i64 (((Args.S).getD (x1_11).toNat (0, nl0, 0, 0)).2.2.2))])), (14, .call ⟨8, [(0, 0, false), (1, 1, false), (2, 2, false), (3, 3, false), (4, 4, false), (5, 5, false), (6, 6, false), (7, 7, false)], (V_foldOverstyleschoice_1010y1 x1_0 x1_2 x1_3 x1_4 x1_5 x1_6 x1_7 x1_8 x1_9 (((Args.S).getD (x1_11).toNat (0, nl0, 0, 0)).1) (((Args.S).getD (x1_11).toNat (0, nl0, 0, 0)).2.1) (((Args.S).getD (x1_11).toNat (0, nl0, 0, 0)).2.2.1) (((Args.S).getD (x1_11).toNat (0, nl0, 0, 0)).2.2.2) (y1_3_0, (y1_3_1a :: y1_3_1t), y1_3_2, y1_3_3, y1_3_4)), (R_foldOverstyleschoice_1010y1 x1_0 x1_2 x1_3 x1_4 x1_5 x1_6 x1_7 x1_8 x1_9 (((Args.S).getD (x1_11).toNat (0, nl0, 0, 0)).1) (((Args.S).getD (x1_11).toNat (0, nl0, 0, 0)).2.1) (((Args.S).getD (x1_11).toNat (0, nl0, 0, 0)).2.2.1) (((Args.S).getD (x1_11).toNat (0, nl0, 0, 0)).2.2.2) (y1_3_0, (y1_3_1a :: y1_3_1t), y1_3_2, y1_3_3, y1_3_4)), [(0, 0, false), (1, 1, false), (2, 2, false), (3, 3, false), (4, 4, false), (5, 5, false), (6, 6, false), (7, 7, false)]⟩)]) (L := lT []) (wk := ⟨[0, 5, 6, 7], [(0, 0, false), (1, 1, false), (2, 2, false), (3, 3, false), (4, 4, false), (5, 5, false), (6, 6, false), (7, 7, false)], 8, 0⟩)
    (ps := [(Value.bool (decide (x1_11 < x1_10))) = (Value.bool true),
    opIndexAddr P 22 (Value.slice (some ⟨0, 0, some 1⟩) (Args.S).length Args.cS) (Value.int .i64 x1_11) Ax.h0 = some ((Value.pointer (some ⟨0, ((x1_11).toNat * 4), some 1⟩)), Ax.h0),
    loadG P 27 (Value.pointer (some ⟨0, ((x1_11).toNat * 4), some 1⟩)) Ax.h0 = some ((Value.agg #[(Value.int .i64 (((Args.S).getD (x1_11).toNat (0, nl0, 0, 0)).1)), (nlV (((Args.S).getD (x1_11).toNat (0, nl0, 0, 0)).2.1)), (Value.int .i64 (((Args.S).getD (x1_11).toNat (0, nl0, 0, 0)).2.2.1)), (Value.int .i64 (((Args.S).getD (x1_11).toNat (0, nl0, 0, 0)).2.2.2))]), Ax.h0),
    Gv P (.yield 0) (A_foldOverstyleschoice_1010y1 x1_0 x1_2 x1_3 x1_4 x1_5 x1_6 x1_7 x1_8 x1_9 (((Args.S).getD (x1_11).toNat (0, nl0, 0, 0)).1) (((Args.S).getD (x1_11).toNat (0, nl0, 0, 0)).2.1) (((Args.S).getD (x1_11).toNat (0, nl0, 0, 0)).2.2.1) (((Args.S).getD (x1_11).toNat (0, nl0, 0, 0)).2.2.2)) (H_foldOverstyleschoice_1010y1 x1_0 x1_2 x1_3 x1_4 x1_5 x1_6 x1_7 x1_8 x1_9 (((Args.S).getD (x1_11).toNat (0, nl0, 0, 0)).1) (((Args.S).getD (x1_11).toNat (0, nl0, 0, 0)).2.1) (((Args.S).getD (x1_11).toNat (0, nl0, 0, 0)).2.2.1) (((Args.S).getD (x1_11).toNat (0, nl0, 0, 0)).2.2.2)) (V_foldOverstyleschoice_1010y1 x1_0 x1_2 x1_3 x1_4 x1_5 x1_6 x1_7 x1_8 x1_9 (((Args.S).getD (x1_11).toNat (0, nl0, 0, 0)).1) (((Args.S).getD (x1_11).toNat (0, nl0, 0, 0)).2.1) (((Args.S).getD (x1_11).toNat (0, nl0, 0, 0)).2.2.1) (((Args.S).getD (x1_11).toNat (0, nl0, 0, 0)).2.2.2) (y1_3_0, (y1_3_1a :: y1_3_1t), y1_3_2, y1_3_3, y1_3_4)) (R_foldOverstyleschoice_1010y1 x1_0 x1_2 x1_3 x1_4 x1_5 x1_6 x1_7 x1_8 x1_9 (((Args.S).getD (x1_11).toNat (0, nl0, 0, 0)).1) (((Args.S).getD (x1_11).toNat (0, nl0, 0, 0)).2.1) (((Args.S).getD (x1_11).toNat (0, nl0, 0, 0)).2.2.1) (((Args.S).getD (x1_11).toNat (0, nl0, 0, 0)).2.2.2) (y1_3_0, (y1_3_1a :: y1_3_1t), y1_3_2, y1_3_3, y1_3_4))]) (by kernel_rfl) ⟨(vbT hy1_1), (ixW (e := 27) (by kernel_rfl) (by kernel_rfl) (hy1_2).1 (hy1_2).2), (ldWA rwf_iLii (0, nl0, 0, 0) (i := (x1_11).toNat) (q := 0) (L := Args.S) (n := 4) ((x1_11).toNat * 4) rfl rfl (by kernel_rfl) (by kernel_rfl) (toNatLt hy1_2) (by decide) rfl), (m_foldOverstyleschoice_1010y1_ok n x1_0 x1_2 x1_3 x1_4 x1_5 x1_6 x1_7 x1_8 x1_9 (((Args.S).getD (x1_11).toNat (0, nl0, 0, 0)).1) (((Args.S).getD (x1_11).toNat (0, nl0, 0, 0)).2.1) (((Args.S).getD (x1_11).toNat (0, nl0, 0, 0)).2.2.1) (((Args.S).getD (x1_11).toNat (0, nl0, 0, 0)).2.2.2) (y1_3_0, (y1_3_1a :: y1_3_1t), y1_3_2, y1_3_3, y1_3_4) hy1_3), trivial⟩
set_option maxRecDepth 100000 in
theorem q_slicesValuesapiStyle1q1_1_2 (n : Nat) {rnd : Option Nat} (x1_0 : Int) (x1_2 : Int) (x1_3 : Int) (x1_4 : Bool) (x1_5 : Int) (x1_6 : Int) (x1_7 : Int) (x1_8 : Int) (x1_9 : Bool) (x1_10 : Int) (x1_11 : Int) (hy1_1 : ¬ (x1_11 < x1_10)) : CG P rnd (fnN P 18) 8 (codeOf P 18 [false, false, true]) (S_slicesValuesapiStyle1q1_1 x1_5 x1_6 x1_7 x1_8 x1_9 x1_10 (x1_0, ([] : List (NL)), x1_2, x1_3, x1_4, x1_11)) (X_slicesValuesapiStyle1q1_1 x1_5 x1_6 x1_7 x1_8 x1_9 x1_10 (x1_0, ([] : List (NL)), x1_2, x1_3, x1_4)) :=
  runC_ok hm (A := aT [(1, .val (.bool false))]) (L := lT []) (wk := ⟨[], [(0, 0, false), (1, 1, false), (2, 2, false), (3, 3, false), (4, 4, false), (5, 5, false), (6, 6, false), (7, 7, false)], 8, 0⟩)
    (ps := [(Value.bool (decide (x1_11 < x1_10))) = (Value.bool false)]) (by kernel_rfl) ⟨(vbF hy1_1), trivial⟩
set_option maxRecDepth 100000 in
theorem q_slicesValuesapiStyle1q1_1_3 (n : Nat) {rnd : Option Nat} (x1_0 : Int) (x1_1a : NL) (x1_1t : List (NL)) (x1_2 : Int) (x1_3 : Int) (x1_4 : Bool) (x1_5 : Int) (x1_6 : Int) (x1_7 : Int) (x1_8 : Int) (x1_9 : Bool) (x1_10 : Int) (x1_11 : Int) (hy1_1 : x1_11 < x1_10) (hy1_2 : 0 ≤ x1_11 ∧ x1_11 < (((Args.S).length : Nat) : Int)) (y1_3_0 : Int) (y1_3_1 : NL) (y1_3_2 : Int) (y1_3_3 : Int) (y1_3_4 : Bool) (hy1_3 : m_foldOverstyleschoice_1010y2 n x1_0 x1_1a x1_2 x1_3 x1_4 x1_5 x1_6 x1_7 x1_8 x1_9 (((Args.S).getD (x1_11).toNat (0, nl0, 0, 0)).1) (((Args.S).getD (x1_11).toNat (0, nl0, 0, 0)).2.1) (((Args.S).getD (x1_11).toNat (0, nl0, 0, 0)).2.2.1) (((Args.S).getD (x1_11).toNat (0, nl0, 0, 0)).2.2.2) = some (y1_3_0, y1_3_1, y1_3_2, y1_3_3, y1_3_4)) : CG P rnd (fnN P 18) 8 (codeOf P 18 [false, false, true]) (S_slicesValuesapiStyle1q1_1 x1_5 x1_6 x1_7 x1_8 x1_9 x1_10 (x1_0, (x1_1a :: x1_1t), x1_2, x1_3, x1_4, x1_11)) (.normal, S_slicesValuesapiStyle1q1_1 x1_5 x1_6 x1_7 x1_8 x1_9 x1_10 (y1_3_0, [y1_3_1], y1_3_2, y1_3_3, y1_3_4, (w64 (x1_11 + (1 : Int))))) :=
  runC_ok hm (A := aT [(1, .val (.bool true)), (7, .pur (Value.pointer (some ⟨0, ((x1_11).toNat * 4), some 1⟩))), (8, .ld (Value.agg #[(Value.int .i64 (((Args.S).getD (x1_11).toNat (0, nl0, 0, 0)).1)), (nlV (((Args.S).getD (x1_11).toNat (0, nl0, 0, 0)).2.1)), (Value.int .i64 (((Args.S).getD (x1_11).toNat (0, nl0, 0, 0)).2.2.1)), (Value.int .i64 (((Args.S).getD (x1_11).toNat (0, nl0, 0, 0)).2.2.2))])), (14, .call ⟨8, [(0, 0, false), (1, 1, false), (2, 2, false), (3, 3, false), (4, 4, false), (5, 5, false), (6, 6, false), (7, 7, false)], (V_foldOverstyleschoice_1010y2 x1_0 x1_1a x1_2 x1_3 x1_4 x1_5 x1_6 x1_7 x1_8 x1_9 (((Args.S).getD (x1_11).toNat (0, nl0, 0, 0)).1) (((Args.S).getD (x1_11).toNat (0, nl0, 0, 0)).2.1) (((Args.S).getD (x1_11).toNat (0, nl0, 0, 0)).2.2.1) (((Args.S).getD (x1_11).toNat (0, nl0, 0, 0)).2.2.2) (y1_3_0, y1_3_1, y1_3_2, y1_3_3, y1_3_4)), (R_foldOverstyleschoice_1010y2 x1_0 x1_1a x1_2 x1_3 x1_4 x1_5 x1_6 x1_7 x1_8 x1_9 (((Args.S).getD (x1_11).toNat (0, nl0, 0, 0)).1) (((Args.S).getD (x1_11).toNat (0, nl0, 0, 0)).2.1) (((Args.S).getD (x1_11).toNat (0, nl0, 0, 0)).2.2.1) (((Args.S).getD (x1_11).toNat (0, nl0, 0, 0)).2.2.2) (y1_3_0, y1_3_1, y1_3_2, y1_3_3, y1_3_4)), [(0, 0, false), (1, 1, false), (2, 2, false), (3, 3, false), (4, 4, false), (5, 5, false), (6, 6, false), (7, 7, false)]⟩)]) (L := lT []) (wk := ⟨[0, 5, 6, 7], [(0, 0, false), (1, 1, false), (2, 2, false), (3, 3, false), (4, 4, false), (5, 5, false), (6, 6, false), (7, 7, false)], 8, 0⟩)
    (ps := [(Value.bool (decide (x1_11 < x1_10))) = (Value.bool true),
    opIndexAddr P 22 (Value.slice (some ⟨0, 0, some 1⟩) (Args.S).length Args.cS) (Value.int .i64 x1_11) Ax.h0 = some ((Value.pointer (some ⟨0, ((x1_11).toNat * 4), some 1⟩)), Ax.h0),
    loadG P 27 (Value.pointer (some ⟨0, ((x1_11).toNat * 4), some 1⟩)) Ax.h0 = some ((Value.agg #[(Value.int .i64 (((Args.S).getD (x1_11).toNat (0, nl0, 0, 0)).1)), (nlV (((Args.S).getD (x1_11).toNat (0, nl0, 0, 0)).2.1)), (Value.int .i64 (((Args.S).getD (x1_11).toNat (0, nl0, 0, 0)).2.2.1)), (Value.int .i64 (((Args.S).getD (x1_11).toNat (0, nl0, 0, 0)).2.2.2))]), Ax.h0),
    Gv P (.yield 0) (A_foldOverstyleschoice_1010y2 x1_0 x1_1a x1_2 x1_3 x1_4 x1_5 x1_6 x1_7 x1_8 x1_9 (((Args.S).getD (x1_11).toNat (0, nl0, 0, 0)).1) (((Args.S).getD (x1_11).toNat (0, nl0, 0, 0)).2.1) (((Args.S).getD (x1_11).toNat (0, nl0, 0, 0)).2.2.1) (((Args.S).getD (x1_11).toNat (0, nl0, 0, 0)).2.2.2)) (H_foldOverstyleschoice_1010y2 x1_0 x1_1a x1_2 x1_3 x1_4 x1_5 x1_6 x1_7 x1_8 x1_9 (((Args.S).getD (x1_11).toNat (0, nl0, 0, 0)).1) (((Args.S).getD (x1_11).toNat (0, nl0, 0, 0)).2.1) (((Args.S).getD (x1_11).toNat (0, nl0, 0, 0)).2.2.1) (((Args.S).getD (x1_11).toNat (0, nl0, 0, 0)).2.2.2)) (V_foldOverstyleschoice_1010y2 x1_0 x1_1a x1_2 x1_3 x1_4 x1_5 x1_6 x1_7 x1_8 x1_9 (((Args.S).getD (x1_11).toNat (0, nl0, 0, 0)).1) (((Args.S).getD (x1_11).toNat (0, nl0, 0, 0)).2.1) (((Args.S).getD (x1_11).toNat (0, nl0, 0, 0)).2.2.1) (((Args.S).getD (x1_11).toNat (0, nl0, 0, 0)).2.2.2) (y1_3_0, y1_3_1, y1_3_2, y1_3_3, y1_3_4)) (R_foldOverstyleschoice_1010y2 x1_0 x1_1a x1_2 x1_3 x1_4 x1_5 x1_6 x1_7 x1_8 x1_9 (((Args.S).getD (x1_11).toNat (0, nl0, 0, 0)).1) (((Args.S).getD (x1_11).toNat (0, nl0, 0, 0)).2.1) (((Args.S).getD (x1_11).toNat (0, nl0, 0, 0)).2.2.1) (((Args.S).getD (x1_11).toNat (0, nl0, 0, 0)).2.2.2) (y1_3_0, y1_3_1, y1_3_2, y1_3_3, y1_3_4))]) (by kernel_rfl) ⟨(vbT hy1_1), (ixW (e := 27) (by kernel_rfl) (by kernel_rfl) (hy1_2).1 (hy1_2).2), (ldWA rwf_iLii (0, nl0, 0, 0) (i := (x1_11).toNat) (q := 0) (L := Args.S) (n := 4) ((x1_11).toNat * 4) rfl rfl (by kernel_rfl) (by kernel_rfl) (toNatLt hy1_2) (by decide) rfl), (m_foldOverstyleschoice_1010y2_ok n x1_0 x1_1a x1_2 x1_3 x1_4 x1_5 x1_6 x1_7 x1_8 x1_9 (((Args.S).getD (x1_11).toNat (0, nl0, 0, 0)).1) (((Args.S).getD (x1_11).toNat (0, nl0, 0, 0)).2.1) (((Args.S).getD (x1_11).toNat (0, nl0, 0, 0)).2.2.1) (((Args.S).getD (x1_11).toNat (0, nl0, 0, 0)).2.2.2) (y1_3_0, y1_3_1, y1_3_2, y1_3_3, y1_3_4) hy1_3), trivial⟩
set_option maxRecDepth 100000 in
theorem q_slicesValuesapiStyle1q1_1_4 (n : Nat) {rnd : Option Nat} (x1_0 : Int) (x1_1a : NL) (x1_1t : List (NL)) (x1_2 : Int) (x1_3 : Int) (x1_4 : Bool) (x1_5 : Int) (x1_6 : Int) (x1_7 : Int) (x1_8 : Int) (x1_9 : Bool) (x1_10 : Int) (x1_11 : Int) (hy1_1 : ¬ (x1_11 < x1_10)) : CG P rnd (fnN P 18) 8 (codeOf P 18 [false, false, true]) (S_slicesValuesapiStyle1q1_1 x1_5 x1_6 x1_7 x1_8 x1_9 x1_10 (x1_0, (x1_1a :: x1_1t), x1_2, x1_3, x1_4, x1_11)) (X_slicesValuesapiStyle1q1_1 x1_5 x1_6 x1_7 x1_8 x1_9 x1_10 (x1_0, [x1_1a], x1_2, x1_3, x1_4)) :=
  runC_ok hm (A := aT [(1, .val (.bool false))]) (L := lT []) (wk := ⟨[], [(0, 0, false), (1, 1, false), (2, 2, false), (3, 3, false), (4, 4, false), (5, 5, false), (6, 6, false), (7, 7, false)], 8, 0⟩)
    (ps := [(Value.bool (decide (x1_11 < x1_10))) = (Value.bool false)]) (by kernel_rfl) ⟨(vbF hy1_1), trivial⟩
theorem m_slicesValuesapiStyle1q1_1_ok (n : Nat) {rnd : Option Nat} (x1_5 : Int) (x1_6 : Int) (x1_7 : Int) (x1_8 : Int) (x1_9 : Bool) (x1_10 : Int) (st : Int × List (NL) × Int × Int × Bool × Int) (r : Int × List (NL) × Int × Int × Bool) (h : m_slicesValuesapiStyle1q1_1 n x1_5 x1_6 x1_7 x1_8 x1_9 x1_10 st = some r) : CG P rnd (fnN P 18) 8 (codeOf P 18 [false, true]) (S_slicesValuesapiStyle1q1_1 x1_5 x1_6 x1_7 x1_8 x1_9 x1_10 st) (X_slicesValuesapiStyle1q1_1 x1_5 x1_6 x1_7 x1_8 x1_9 x1_10 r) :=
  CG.iter (b := codeOf P 18 [false, false, true]) (by kernel_rfl) (body := B_slicesValuesapiStyle1q1_1 n x1_5 x1_6 x1_7 x1_8 x1_9 x1_10) (S := S_slicesValuesapiStyle1q1_1 x1_5 x1_6 x1_7 x1_8 x1_9 x1_10) (X := X_slicesValuesapiStyle1q1_1 x1_5 x1_6 x1_7 x1_8 x1_9 x1_10)
    (fun s s' h => by
    obtain ⟨x1_0, x1_1, x1_2, x1_3, x1_4, x1_11⟩ := s
    unfold B_slicesValuesapiStyle1q1_1 at h
    dsimp only at h
    cases x1_1 with
    | nil =>
      dsimp only at h
      by_cases hy1_1 : x1_11 < x1_10
      · rw [if_pos hy1_1] at h
        by_cases hy1_2 : 0 ≤ x1_11 ∧ x1_11 < (((Args.S).length : Nat) : Int)
        · rw [if_pos hy1_2] at h
          obtain ⟨⟨y1_3_0, y1_3_1, y1_3_2, y1_3_3, y1_3_4⟩, hy1_3, h⟩ := Option.bind_eq_some_iff.1 h
          dsimp only at h
          cases y1_3_1 with
          | nil =>
            dsimp only at h
            obtain rfl := Sum.inl.inj (Option.some.inj h); exact q_slicesValuesapiStyle1q1_1_0 n x1_0 x1_2 x1_3 x1_4 x1_5 x1_6 x1_7 x1_8 x1_9 x1_10 x1_11 hy1_1 hy1_2 y1_3_0 y1_3_2 y1_3_3 y1_3_4 hy1_3
          | cons y1_3_1a y1_3_1t =>
            dsimp only at h
            obtain rfl := Sum.inl.inj (Option.some.inj h); exact q_slicesValuesapiStyle1q1_1_1 n x1_0 x1_2 x1_3 x1_4 x1_5 x1_6 x1_7 x1_8 x1_9 x1_10 x1_11 hy1_1 hy1_2 y1_3_0 y1_3_1a y1_3_1t y1_3_2 y1_3_3 y1_3_4 hy1_3
        · rw [if_neg hy1_2] at h; cases h
      · rw [if_neg hy1_1] at h
        cases h
    | cons x1_1a x1_1t =>
      dsimp only at h
      by_cases hy1_1 : x1_11 < x1_10
      · rw [if_pos hy1_1] at h
        by_cases hy1_2 : 0 ≤ x1_11 ∧ x1_11 < (((Args.S).length : Nat) : Int)
        · rw [if_pos hy1_2] at h
          obtain ⟨⟨y1_3_0, y1_3_1, y1_3_2, y1_3_3, y1_3_4⟩, hy1_3, h⟩ := Option.bind_eq_some_iff.1 h
          dsimp only at h
          obtain rfl := Sum.inl.inj (Option.some.inj h); exact q_slicesValuesapiStyle1q1_1_3 n x1_0 x1_1a x1_1t x1_2 x1_3 x1_4 x1_5 x1_6 x1_7 x1_8 x1_9 x1_10 x1_11 hy1_1 hy1_2 y1_3_0 y1_3_1 y1_3_2 y1_3_3 y1_3_4 hy1_3
        · rw [if_neg hy1_2] at h; cases h
      · rw [if_neg hy1_1] at h
        cases h)
    (fun s r h => by
    obtain ⟨x1_0, x1_1, x1_2, x1_3, x1_4, x1_11⟩ := s
    unfold B_slicesValuesapiStyle1q1_1 at h
    dsimp only at h
    cases x1_1 with
    | nil =>
      dsimp only at h
      by_cases hy1_1 : x1_11 < x1_10
      · rw [if_pos hy1_1] at h
        by_cases hy1_2 : 0 ≤ x1_11 ∧ x1_11 < (((Args.S).length : Nat) : Int)
        · rw [if_pos hy1_2] at h
          obtain ⟨⟨y1_3_0, y1_3_1, y1_3_2, y1_3_3, y1_3_4⟩, hy1_3, h⟩ := Option.bind_eq_some_iff.1 h
          dsimp only at h
          cases y1_3_1 with
          | nil =>
            dsimp only at h
            cases h
          | cons y1_3_1a y1_3_1t =>
            dsimp only at h
            cases h
        · rw [if_neg hy1_2] at h; cases h
      · rw [if_neg hy1_1] at h
        obtain rfl := Sum.inr.inj (Option.some.inj h); exact q_slicesValuesapiStyle1q1_1_2 n x1_0 x1_2 x1_3 x1_4 x1_5 x1_6 x1_7 x1_8 x1_9 x1_10 x1_11 hy1_1
    | cons x1_1a x1_1t =>
      dsimp only at h
      by_cases hy1_1 : x1_11 < x1_10
      · rw [if_pos hy1_1] at h
        by_cases hy1_2 : 0 ≤ x1_11 ∧ x1_11 < (((Args.S).length : Nat) : Int)
        · rw [if_pos hy1_2] at h
          obtain ⟨⟨y1_3_0, y1_3_1, y1_3_2, y1_3_3, y1_3_4⟩, hy1_3, h⟩ := Option.bind_eq_some_iff.1 h
          dsimp only at h
          cases h
        · rw [if_neg hy1_2] at h; cases h
      · rw [if_neg hy1_1] at h
        obtain rfl := Sum.inr.inj (Option.some.inj h); exact q_slicesValuesapiStyle1q1_1_4 n x1_0 x1_1a x1_1t x1_2 x1_3 x1_4 x1_5 x1_6 x1_7 x1_8 x1_9 x1_10 x1_11 hy1_1)
    (fun r => by intro hx; cases hx) h
noncomputable def A_slicesValuesapiStyle1q1 (a0 : Int) (a1 : Int) (a2 : Int) (a3 : Bool) (a4 : Int) (a5 : Int) (a6 : Int) (a7 : Int) (a8 : Bool) : List Value := [(Value.func (.yield 0) #[] #[]), (Value.pointer (some ⟨7, 0, none⟩))]
noncomputable def H_slicesValuesapiStyle1q1 (a0 : Int) (a1 : Int) (a2 : Int) (a3 : Bool) (a4 : Int) (a5 : Int) (a6 : Int) (a7 : Int) (a8 : Bool) : AH := ⟨sB [(0, (some (rblk P 14 [false, true, false, true] .ready none [(4, (Value.pointer (some ⟨2, 0, none⟩))), (5, (Value.pointer (some ⟨3, 0, none⟩))), (6, (Value.pointer (some ⟨6, 0, none⟩))), (8, (Value.func (.func 18) #[] #[(Value.pointer (some ⟨7, 0, none⟩))]))] 1))), (1, (some (.marks true))), (2, (some (.cells (layT [(Value.int .i64 a0), (Value.slice none 0 0), (Value.int .i64 a1), (Value.int .i64 a2), (Value.bool a3)]) 38))), (3, (some (.cells (layT [(Value.func (.func 16) #[] #[(Value.pointer (some ⟨4, 0, none⟩)), (Value.pointer (some ⟨5, 0, none⟩))])]) 43))), (4, (some (.cells (layT [(Value.int .i64 a4)]) 3))), (5, (some (.cells (layT [(Value.slice (some ⟨1, 0, some 1⟩) (Args.Y).length Args.cY)]) 23))), (6, (some (.cells (layT [(Value.int .i64 a5), (Value.slice none 0 0), (Value.int .i64 a6), (Value.int .i64 a7), (Value.bool a8)]) 38))), (7, (some (.cells (layT [(Value.slice (some ⟨0, 0, some 1⟩) (Args.S).length Args.cS)]) 22)))], 8, 8⟩
noncomputable def V_slicesValuesapiStyle1q1 (a0 : Int) (a1 : Int) (a2 : Int) (a3 : Bool) (a4 : Int) (a5 : Int) (a6 : Int) (a7 : Int) (a8 : Bool) (r : Int × List (NL) × Int × Int × Bool) : Value := match r with
  | (o0, o1, o2, o3, o4) => (Value.tuple #[])
noncomputable def R_slicesValuesapiStyle1q1 (a0 : Int) (a1 : Int) (a2 : Int) (a3 : Bool) (a4 : Int) (a5 : Int) (a6 : Int) (a7 : Int) (a8 : Bool) (r : Int × List (NL) × Int × Int × Bool) : AH := match r with
  | (o0, o1, o2, o3, o4) => ⟨sB [(0, (some (rblk P 14 [false, true, false, true] .ready none [(4, (Value.pointer (some ⟨2, 0, none⟩))), (5, (Value.pointer (some ⟨3, 0, none⟩))), (6, (Value.pointer (some ⟨6, 0, none⟩))), (8, (Value.func (.func 18) #[] #[(Value.pointer (some ⟨7, 0, none⟩))]))] 1))), (1, (some (.marks true))), (2, (some (.cells (layT [(Value.int .i64 o0), (nlQ o1), (Value.int .i64 o2), (Value.int .i64 o3), (Value.bool o4)]) 38))), (3, (some (.cells (layT [(Value.func (.func 16) #[] #[(Value.pointer (some ⟨4, 0, none⟩)), (Value.pointer (some ⟨5, 0, none⟩))])]) 43))), (4, (some (.cells (layT [(Value.int .i64 a4)]) 3))), (5, (some (.cells (layT [(Value.slice (some ⟨1, 0, some 1⟩) (Args.Y).length Args.cY)]) 23))), (6, (some (.cells (layT [(Value.int .i64 a5), (Value.slice none 0 0), (Value.int .i64 a6), (Value.int .i64 a7), (Value.bool a8)]) 38))), (7, (some (.cells (layT [(Value.slice (some ⟨0, 0, some 1⟩) (Args.S).length Args.cS)]) 22)))], 8, 0⟩
def m_slicesValuesapiStyle1q1 (n : Nat) (a0 : Int) (a1 : Int) (a2 : Int) (a3 : Bool) (a4 : Int) (a5 : Int) (a6 : Int) (a7 : Int) (a8 : Bool) : Option (Int × List (NL) × Int × Int × Bool) :=
  (m_slicesValuesapiStyle1q1_1 n a4 a5 a6 a7 a8 (((Args.S).length : Nat) : Int) (a0, ([] : List (NL)), a1, a2, a3, 0)).bind fun t => match t with
  | (c1_0, c1_1, c1_2, c1_3, c1_4) =>
    match c1_1 with
    | [] =>
      some (c1_0, ([] : List (NL)), c1_2, c1_3, c1_4)
    | c1_1a :: c1_1t =>
      some (c1_0, [c1_1a], c1_2, c1_3, c1_4)
set_option maxRecDepth 100000 in
theorem p_slicesValuesapiStyle1q1_0 (n : Nat) (a0 : Int) (a1 : Int) (a2 : Int) (a3 : Bool) (a4 : Int) (a5 : Int) (a6 : Int) (a7 : Int) (a8 : Bool) (c1_0 : Int) (c1_2 : Int) (c1_3 : Int) (c1_4 : Bool) (hc1 : m_slicesValuesapiStyle1q1_1 n a4 a5 a6 a7 a8 (((Args.S).length : Nat) : Int) (a0, ([] : List (NL)), a1, a2, a3, 0) = some (c1_0, [], c1_2, c1_3, c1_4)) : Gv P (.func 18) (A_slicesValuesapiStyle1q1 a0 a1 a2 a3 a4 a5 a6 a7 a8) (H_slicesValuesapiStyle1q1 a0 a1 a2 a3 a4 a5 a6 a7 a8) (V_slicesValuesapiStyle1q1 a0 a1 a2 a3 a4 a5 a6 a7 a8 (c1_0, ([] : List (NL)), c1_2, c1_3, c1_4)) (R_slicesValuesapiStyle1q1 a0 a1 a2 a3 a4 a5 a6 a7 a8 (c1_0, ([] : List (NL)), c1_2, c1_3, c1_4)) :=
  runF_ok hm (A := aT []) (L := lT [(5, ⟨⟨[0, 5, 6, 7], [(0, 0, false), (1, 1, false), (2, 2, false), (3, 3, false), (4, 4, false), (5, 5, false), (6, 6, false), (7, 7, false)], 8, 0⟩, (X_slicesValuesapiStyle1q1_1 a4 a5 a6 a7 a8 (((Args.S).length : Nat) : Int) (c1_0, ([] : List (NL)), c1_2, c1_3, c1_4)).1, (X_slicesValuesapiStyle1q1_1 a4 a5 a6 a7 a8 (((Args.S).length : Nat) : Int) (c1_0, ([] : List (NL)), c1_2, c1_3, c1_4)).2⟩)]) (wk := ⟨[], [(0, 0, false), (1, 1, false), (2, 2, false), (3, 3, false), (4, 4, false), (5, 5, false), (6, 6, false), (7, 7, false)], 8, 0⟩)
    (ps := [CG P none (fnN P 18) 8 (codeOf P 18 [false, true]) (S_slicesValuesapiStyle1q1_1 a4 a5 a6 a7 a8 (((Args.S).length : Nat) : Int) (a0, ([] : List (NL)), a1, a2, a3, 0)) (X_slicesValuesapiStyle1q1_1 a4 a5 a6 a7 a8 (((Args.S).length : Nat) : Int) (c1_0, ([] : List (NL)), c1_2, c1_3, c1_4))]) (by kernel_rfl) ⟨(m_slicesValuesapiStyle1q1_1_ok n a4 a5 a6 a7 a8 (((Args.S).length : Nat) : Int) (a0, ([] : List (NL)), a1, a2, a3, 0) (c1_0, ([] : List (NL)), c1_2, c1_3, c1_4) hc1), trivial⟩
set_option maxRecDepth 100000 in
theorem p_slicesValuesapiStyle1q1_1 (n : Nat) (a0 : Int) (a1 : Int) (a2 : Int) (a3 : Bool) (a4 : Int) (a5 : Int) (a6 : Int) (a7 : Int) (a8 : Bool) (c1_0 : Int) (c1_1a : NL) (c1_1t : List (NL)) (c1_2 : Int) (c1_3 : Int) (c1_4 : Bool) (hc1 : m_slicesValuesapiStyle1q1_1 n a4 a5 a6 a7 a8 (((Args.S).length : Nat) : Int) (a0, ([] : List (NL)), a1, a2, a3, 0) = some (c1_0, (c1_1a :: c1_1t), c1_2, c1_3, c1_4)) : Gv P (.func 18) (A_slicesValuesapiStyle1q1 a0 a1 a2 a3 a4 a5 a6 a7 a8) (H_slicesValuesapiStyle1q1 a0 a1 a2 a3 a4 a5 a6 a7 a8) (V_slicesValuesapiStyle1q1 a0 a1 a2 a3 a4 a5 a6 a7 a8 (c1_0, [c1_1a], c1_2, c1_3, c1_4)) (R_slicesValuesapiStyle1q1 a0 a1 a2 a3 a4 a5 a6 a7 a8 (c1_0, [c1_1a], c1_2, c1_3, c1_4)) :=
  runF_ok hm (A := aT []) (L := lT [(5, ⟨⟨[0, 5, 6, 7], [(0, 0, false), (1, 1, false), (2, 2, false), (3, 3, false), (4, 4, false), (5, 5, false), (6, 6, false), (7, 7, false)], 8, 0⟩, (X_slicesValuesapiStyle1q1_1 a4 a5 a6 a7 a8 (((Args.S).length : Nat) : Int) (c1_0, (c1_1a :: c1_1t), c1_2, c1_3, c1_4)).1, (X_slicesValuesapiStyle1q1_1 a4 a5 a6 a7 a8 (((Args.S).length : Nat) : Int) (c1_0, (c1_1a :: c1_1t), c1_2, c1_3, c1_4)).2⟩)]) (wk := ⟨[], [(0, 0, false), (1, 1, false), (2, 2, false), (3, 3, false), (4, 4, false), (5, 5, false), (6, 6, false), (7, 7, false)], 8, 0⟩)
    (ps := [CG P none (fnN P 18) 8 (codeOf P 18 [false, true]) (S_slicesValuesapiStyle1q1_1 a4 a5 a6 a7 a8 (((Args.S).length : Nat) : Int) (a0, ([] : List (NL)), a1, a2, a3, 0)) (X_slicesValuesapiStyle1q1_1 a4 a5 a6 a7 a8 (((Args.S).length : Nat) : Int) (c1_0, (c1_1a :: c1_1t), c1_2, c1_3, c1_4))]) (by kernel_rfl) ⟨(m_slicesValuesapiStyle1q1_1_ok n a4 a5 a6 a7 a8 (((Args.S).length : Nat) : Int) (a0, ([] : List (NL)), a1, a2, a3, 0) (c1_0, (c1_1a :: c1_1t), c1_2, c1_3, c1_4) hc1), trivial⟩
theorem m_slicesValuesapiStyle1q1_ok (n : Nat) (a0 : Int) (a1 : Int) (a2 : Int) (a3 : Bool) (a4 : Int) (a5 : Int) (a6 : Int) (a7 : Int) (a8 : Bool) (r : Int × List (NL) × Int × Int × Bool) (h : m_slicesValuesapiStyle1q1 n a0 a1 a2 a3 a4 a5 a6 a7 a8 = some r) : Gv P (.func 18) (A_slicesValuesapiStyle1q1 a0 a1 a2 a3 a4 a5 a6 a7 a8) (H_slicesValuesapiStyle1q1 a0 a1 a2 a3 a4 a5 a6 a7 a8) (V_slicesValuesapiStyle1q1 a0 a1 a2 a3 a4 a5 a6 a7 a8 r) (R_slicesValuesapiStyle1q1 a0 a1 a2 a3 a4 a5 a6 a7 a8 r) := by
  unfold m_slicesValuesapiStyle1q1 at h
  obtain ⟨⟨c1_0, c1_1, c1_2, c1_3, c1_4⟩, hc1, h⟩ := Option.bind_eq_some_iff.1 h
  dsimp only at h
  cases c1_1 with
  | nil =>
    dsimp only at h
    obtain rfl := Option.some.inj h; exact p_slicesValuesapiStyle1q1_0 n a0 a1 a2 a3 a4 a5 a6 a7 a8 c1_0 c1_2 c1_3 c1_4 hc1
  | cons c1_1a c1_1t =>
    dsimp only at h
    obtain rfl := Option.some.inj h; exact p_slicesValuesapiStyle1q1_1 n a0 a1 a2 a3 a4 a5 a6 a7 a8 c1_0 c1_1a c1_1t c1_2 c1_3 c1_4 hc1

noncomputable def A_foldOverstyleschoiceq1 (a0 : Int) (a1 : Int) (a2 : Int) (a3 : Bool) (a4 : Int) : List Value := [(Value.func (.func 18) #[] #[(Value.pointer (some ⟨0, 0, none⟩))]), (Value.agg #[(Value.int .i64 a0), (Value.slice none 0 0), (Value.int .i64 a1), (Value.int .i64 a2), (Value.bool a3)]), (Value.func (.func 16) #[] #[(Value.pointer (some ⟨1, 0, none⟩)), (Value.pointer (some ⟨2, 0, none⟩))])]
noncomputable def H_foldOverstyleschoiceq1 (a0 : Int) (a1 : Int) (a2 : Int) (a3 : Bool) (a4 : Int) : AH := ⟨sB [(0, (some (.cells (layT [(Value.slice (some ⟨0, 0, some 1⟩) (Args.S).length Args.cS)]) 22))), (1, (some (.cells (layT [(Value.int .i64 a4)]) 3))), (2, (some (.cells (layT [(Value.slice (some ⟨1, 0, some 1⟩) (Args.Y).length Args.cY)]) 23)))], 3, 3⟩
noncomputable def V_foldOverstyleschoiceq1 (a0 : Int) (a1 : Int) (a2 : Int) (a3 : Bool) (a4 : Int) (r : Int × List (NL) × Int × Int × Bool) : Value := match r with
  | (o0, o1, o2, o3, o4) => (Value.agg #[(Value.int .i64 o0), (nlQ o1), (Value.int .i64 o2), (Value.int .i64 o3), (Value.bool o4)])
noncomputable def R_foldOverstyleschoiceq1 (a0 : Int) (a1 : Int) (a2 : Int) (a3 : Bool) (a4 : Int) (r : Int × List (NL) × Int × Int × Bool) : AH := match r with
  | (o0, o1, o2, o3, o4) => ⟨sB [(0, (some (.cells (layT [(Value.slice (some ⟨0, 0, some 1⟩) (Args.S).length Args.cS)]) 22))), (1, (some (.cells (layT [(Value.int .i64 a4)]) 3))), (2, (some (.cells (layT [(Value.slice (some ⟨1, 0, some 1⟩) (Args.Y).length Args.cY)]) 23))), (3, (some (.marks false))), (4, (some (.cells (layT [(Value.int .i64 o0), (nlQ o1), (Value.int .i64 o2), (Value.int .i64 o3), (Value.bool o4)]) 38)))], 5, 0⟩
def m_foldOverstyleschoiceq1 (n : Nat) (a0 : Int) (a1 : Int) (a2 : Int) (a3 : Bool) (a4 : Int) : Option (Int × List (NL) × Int × Int × Bool) :=
  (m_slicesValuesapiStyle1q1 n a0 a1 a2 a3 a4 0 0 0 false).bind fun t => match t with
  | (c1_0, c1_1, c1_2, c1_3, c1_4) =>
    match c1_1 with
    | [] =>
      some (c1_0, ([] : List (NL)), c1_2, c1_3, c1_4)
    | c1_1a :: c1_1t =>
      some (c1_0, [c1_1a], c1_2, c1_3, c1_4)
set_option maxRecDepth 100000 in
theorem p_foldOverstyleschoiceq1_0 (n : Nat) (a0 : Int) (a1 : Int) (a2 : Int) (a3 : Bool) (a4 : Int) (c1_0 : Int) (c1_2 : Int) (c1_3 : Int) (c1_4 : Bool) (hc1 : m_slicesValuesapiStyle1q1 n a0 a1 a2 a3 a4 0 0 0 false = some (c1_0, [], c1_2, c1_3, c1_4)) : Gv P (.func 14) (A_foldOverstyleschoiceq1 a0 a1 a2 a3 a4) (H_foldOverstyleschoiceq1 a0 a1 a2 a3 a4) (V_foldOverstyleschoiceq1 a0 a1 a2 a3 a4 (c1_0, ([] : List (NL)), c1_2, c1_3, c1_4)) (R_foldOverstyleschoiceq1 a0 a1 a2 a3 a4 (c1_0, ([] : List (NL)), c1_2, c1_3, c1_4)) :=
  runF_ok hm (A := aT [(8, .rng ⟨8, [(0, 7, false), (1, 6, false), (2, 3, false), (3, 4, false), (4, 1, false), (5, 2, false), (6, 5, false), (7, 0, false)], (V_slicesValuesapiStyle1q1 a0 a1 a2 a3 a4 0 0 0 false (c1_0, ([] : List (NL)), c1_2, c1_3, c1_4)), (R_slicesValuesapiStyle1q1 a0 a1 a2 a3 a4 0 0 0 false (c1_0, ([] : List (NL)), c1_2, c1_3, c1_4)), [(7, 0, false), (6, 1, false), (3, 2, false), (4, 3, false), (1, 4, false), (2, 5, false), (5, 6, false), (0, 7, false)]⟩ [4, 5, 6, 8])]) (L := lT []) (wk := ⟨[6], [(0, 0, false), (1, 1, false), (2, 2, false), (3, 6, false), (4, 5, false)], 5, 0⟩)
    (ps := [Gv P (.func 18) (A_slicesValuesapiStyle1q1 a0 a1 a2 a3 a4 0 0 0 false) (H_slicesValuesapiStyle1q1 a0 a1 a2 a3 a4 0 0 0 false) (V_slicesValuesapiStyle1q1 a0 a1 a2 a3 a4 0 0 0 false (c1_0, ([] : List (NL)), c1_2, c1_3, c1_4)) (R_slicesValuesapiStyle1q1 a0 a1 a2 a3 a4 0 0 0 false (c1_0, ([] : List (NL)), c1_2, c1_3, c1_4))]) (by kernel_rfl) ⟨(m_slicesValuesapiStyle1q1_ok n a0 a1 a2 a3 a4 0 0 0 false (c1_0, ([] : List (NL)), c1_2, c1_3, c1_4) hc1), trivial⟩
set_option maxRecDepth 100000 in
theorem p_foldOverstyleschoiceq1_1 (n : Nat) (a0 : Int) (a1 : Int) (a2 : Int) (a3 : Bool) (a4 : Int) (c1_0 : Int) (c1_1a : NL) (c1_1t : List (NL)) (c1_2 : Int) (c1_3 : Int) (c1_4 : Bool) (hc1 : m_slicesValuesapiStyle1q1 n a0 a1 a2 a3 a4 0 0 0 false = some (c1_0, (c1_1a :: c1_1t), c1_2, c1_3, c1_4)) : Gv P (.func 14) (A_foldOverstyleschoiceq1 a0 a1 a2 a3 a4) (H_foldOverstyleschoiceq1 a0 a1 a2 a3 a4) (V_foldOverstyleschoiceq1 a0 a1 a2 a3 a4 (c1_0, [c1_1a], c1_2, c1_3, c1_4)) (R_foldOverstyleschoiceq1 a0 a1 a2 a3 a4 (c1_0, [c1_1a], c1_2, c1_3, c1_4)) :=
  runF_ok hm (A := aT [(8, .rng ⟨8, [(0, 7, false), (1, 6, false), (2, 3, false), (3, 4, false), (4, 1, false), (5, 2, false), (6, 5, false), (7, 0, false)], (V_slicesValuesapiStyle1q1 a0 a1 a2 a3 a4 0 0 0 false (c1_0, (c1_1a :: c1_1t), c1_2, c1_3, c1_4)), (R_slicesValuesapiStyle1q1 a0 a1 a2 a3 a4 0 0 0 false (c1_0, (c1_1a :: c1_1t), c1_2, c1_3, c1_4)), [(7, 0, false), (6, 1, false), (3, 2, false), (4, 3, false), (1, 4, false), (2, 5, false), (5, 6, false), (0, 7, false)]⟩ [4, 5, 6, 8])]) (L := lT []) (wk := ⟨[6], [(0, 0, false), (1, 1, false), (2, 2, false), (3, 6, false), (4, 5, false)], 5, 0⟩)
    (ps := [Gv P (.func 18) (A_slicesValuesapiStyle1q1 a0 a1 a2 a3 a4 0 0 0 false) (H_slicesValuesapiStyle1q1 a0 a1 a2 a3 a4 0 0 0 false) (V_slicesValuesapiStyle1q1 a0 a1 a2 a3 a4 0 0 0 false (c1_0, (c1_1a :: c1_1t), c1_2, c1_3, c1_4)) (R_slicesValuesapiStyle1q1 a0 a1 a2 a3 a4 0 0 0 false (c1_0, (c1_1a :: c1_1t), c1_2, c1_3, c1_4))]) (by kernel_rfl) ⟨(m_slicesValuesapiStyle1q1_ok n a0 a1 a2 a3 a4 0 0 0 false (c1_0, (c1_1a :: c1_1t), c1_2, c1_3, c1_4) hc1), trivial⟩
theorem m_foldOverstyleschoiceq1_ok (n : Nat) (a0 : Int) (a1 : Int) (a2 : Int) (a3 : Bool) (a4 : Int) (r : Int × List (NL) × Int × Int × Bool) (h : m_foldOverstyleschoiceq1 n a0 a1 a2 a3 a4 = some r) : Gv P (.func 14) (A_foldOverstyleschoiceq1 a0 a1 a2 a3 a4) (H_foldOverstyleschoiceq1 a0 a1 a2 a3 a4) (V_foldOverstyleschoiceq1 a0 a1 a2 a3 a4 r) (R_foldOverstyleschoiceq1 a0 a1 a2 a3 a4 r) := by
  unfold m_foldOverstyleschoiceq1 at h
  obtain ⟨⟨c1_0, c1_1, c1_2, c1_3, c1_4⟩, hc1, h⟩ := Option.bind_eq_some_iff.1 h
  dsimp only at h
  cases c1_1 with
  | nil =>
    dsimp only at h
    obtain rfl := Option.some.inj h; exact p_foldOverstyleschoiceq1_0 n a0 a1 a2 a3 a4 c1_0 c1_2 c1_3 c1_4 hc1
  | cons c1_1a c1_1t =>
    dsimp only at h
    obtain rfl := Option.some.inj h; exact p_foldOverstyleschoiceq1_1 n a0 a1 a2 a3 a4 c1_0 c1_1a c1_1t c1_2 c1_3 c1_4 hc1

noncomputable def A_stylesStyleq1 (a0 : Int) : List Value := [(Value.slice (some ⟨0, 0, some 1⟩) (Args.S).length Args.cS), (Value.int .i64 a0), (Value.slice (some ⟨1, 0, some 1⟩) (Args.Y).length Args.cY)]
noncomputable def H_stylesStyleq1 (a0 : Int) : AH := ⟨sB [], 0, 0⟩
noncomputable def V_stylesStyleq1 (a0 : Int) (r : Int) : Value := match r with
  | o0 => (Value.int .i64 o0)
noncomputable def R_stylesStyleq1 (a0 : Int) (r : Int) : AH := match r with
  | o0 => ⟨sB [], 0, 0⟩
def m_stylesStyleq1 (n : Nat) (a0 : Int) : Option (Int) :=
  (m_slicesValuesapiStyleq1 n).bind fun _ =>
  (m_foldOverstyleschoiceq1 n 0 0 0 false a0).bind fun t => match t with
  | (c2_0, c2_1, c2_2, c2_3, c2_4) =>
    match c2_1 with
    | [] =>
      some c2_2
    | c2_1a :: c2_1t =>
      some c2_2
set_option maxRecDepth 100000 in
theorem p_stylesStyleq1_0 (n : Nat) (a0 : Int) (hc1 : m_slicesValuesapiStyleq1 n = some ()) (c2_0 : Int) (c2_2 : Int) (c2_3 : Int) (c2_4 : Bool) (hc2 : m_foldOverstyleschoiceq1 n 0 0 0 false a0 = some (c2_0, [], c2_2, c2_3, c2_4)) : Gv P (.func 9) (A_stylesStyleq1 a0) (H_stylesStyleq1 a0) (V_stylesStyleq1 a0 c2_2) (R_stylesStyleq1 a0 c2_2) :=
  runF_ok hm (A := aT [(6, .call ⟨0, [], (V_slicesValuesapiStyleq1  ()), (R_slicesValuesapiStyleq1  ()), [(2, 0, false)]⟩), (9, .call ⟨3, [(0, 2, false), (1, 0, false), (2, 1, false)], (V_foldOverstyleschoiceq1 0 0 0 false a0 (c2_0, ([] : List (NL)), c2_2, c2_3, c2_4)), (R_foldOverstyleschoiceq1 0 0 0 false a0 (c2_0, ([] : List (NL)), c2_2, c2_3, c2_4)), [(2, 0, false), (0, 1, false), (1, 2, false), (4, 4, false)]⟩)]) (L := lT []) (wk := ⟨[6], [], 0, 0⟩)
    (ps := [Gv P (.func 15) A_slicesValuesapiStyleq1 H_slicesValuesapiStyleq1 (V_slicesValuesapiStyleq1  ()) (R_slicesValuesapiStyleq1  ()),
    Gv P (.func 14) (A_foldOverstyleschoiceq1 0 0 0 false a0) (H_foldOverstyleschoiceq1 0 0 0 false a0) (V_foldOverstyleschoiceq1 0 0 0 false a0 (c2_0, ([] : List (NL)), c2_2, c2_3, c2_4)) (R_foldOverstyleschoiceq1 0 0 0 false a0 (c2_0, ([] : List (NL)), c2_2, c2_3, c2_4))]) (by kernel_rfl) ⟨(m_slicesValuesapiStyleq1_ok n () hc1), (m_foldOverstyleschoiceq1_ok n 0 0 0 false a0 (c2_0, ([] : List (NL)), c2_2, c2_3, c2_4) hc2), trivial⟩
set_option maxRecDepth 100000 in
theorem p_stylesStyleq1_1 (n : Nat) (a0 : Int) (hc1 : m_slicesValuesapiStyleq1 n = some ()) (c2_0 : Int) (c2_1a : NL) (c2_1t : List (NL)) (c2_2 : Int) (c2_3 : Int) (c2_4 : Bool) (hc2 : m_foldOverstyleschoiceq1 n 0 0 0 false a0 = some (c2_0, (c2_1a :: c2_1t), c2_2, c2_3, c2_4)) : Gv P (.func 9) (A_stylesStyleq1 a0) (H_stylesStyleq1 a0) (V_stylesStyleq1 a0 c2_2) (R_stylesStyleq1 a0 c2_2) :=
  runF_ok hm (A := aT [(6, .call ⟨0, [], (V_slicesValuesapiStyleq1  ()), (R_slicesValuesapiStyleq1  ()), [(2, 0, false)]⟩), (9, .call ⟨3, [(0, 2, false), (1, 0, false), (2, 1, false)], (V_foldOverstyleschoiceq1 0 0 0 false a0 (c2_0, (c2_1a :: c2_1t), c2_2, c2_3, c2_4)), (R_foldOverstyleschoiceq1 0 0 0 false a0 (c2_0, (c2_1a :: c2_1t), c2_2, c2_3, c2_4)), [(2, 0, false), (0, 1, false), (1, 2, false), (4, 4, false)]⟩)]) (L := lT []) (wk := ⟨[6], [], 0, 0⟩)
    (ps := [Gv P (.func 15) A_slicesValuesapiStyleq1 H_slicesValuesapiStyleq1 (V_slicesValuesapiStyleq1  ()) (R_slicesValuesapiStyleq1  ()),
    Gv P (.func 14) (A_foldOverstyleschoiceq1 0 0 0 false a0) (H_foldOverstyleschoiceq1 0 0 0 false a0) (V_foldOverstyleschoiceq1 0 0 0 false a0 (c2_0, (c2_1a :: c2_1t), c2_2, c2_3, c2_4)) (R_foldOverstyleschoiceq1 0 0 0 false a0 (c2_0, (c2_1a :: c2_1t), c2_2, c2_3, c2_4))]) (by kernel_rfl) ⟨(m_slicesValuesapiStyleq1_ok n () hc1), (m_foldOverstyleschoiceq1_ok n 0 0 0 false a0 (c2_0, (c2_1a :: c2_1t), c2_2, c2_3, c2_4) hc2), trivial⟩
theorem m_stylesStyleq1_ok (n : Nat) (a0 : Int) (r : Int) (h : m_stylesStyleq1 n a0 = some r) : Gv P (.func 9) (A_stylesStyleq1 a0) (H_stylesStyleq1 a0) (V_stylesStyleq1 a0 r) (R_stylesStyleq1 a0 r) := by
  unfold m_stylesStyleq1 at h
  obtain ⟨_, hc1, h⟩ := Option.bind_eq_some_iff.1 h
  obtain ⟨⟨c2_0, c2_1, c2_2, c2_3, c2_4⟩, hc2, h⟩ := Option.bind_eq_some_iff.1 h
  dsimp only at h
  cases c2_1 with
  | nil =>
    dsimp only at h
    obtain rfl := Option.some.inj h; exact p_stylesStyleq1_0 n a0 hc1 c2_0 c2_2 c2_3 c2_4 hc2
  | cons c2_1a c2_1t =>
    dsimp only at h
    obtain rfl := Option.some.inj h; exact p_stylesStyleq1_1 n a0 hc1 c2_0 c2_1a c2_1t c2_2 c2_3 c2_4 hc2

noncomputable def S_viewportlaw26StylesBest_1 (x1_0 : Int) (st : Int × Int) : XSt := match st with
  | (x1_1, x1_2) => (sT 92 [(0, (Value.slice (some ⟨0, 0, some 1⟩) (Args.S).length Args.cS)), (1, (Value.int .i64 x1_0)), (2, (Value.slice (some ⟨1, 0, some 1⟩) (Args.Y).length Args.cY)), (7, (Value.int .i64 x1_1)), (8, (Value.int .i64 x1_2))], [], ⟨sB [], 0, 0⟩)
noncomputable def X_viewportlaw26StylesBest_1 (x1_0 : Int) (r : Int) : Ex × XSt := match r with
  | z1_0 => (.exit 0, (sT 92 [(0, (Value.slice (some ⟨0, 0, some 1⟩) (Args.S).length Args.cS)), (1, (Value.int .i64 x1_0)), (2, (Value.slice (some ⟨1, 0, some 1⟩) (Args.Y).length Args.cY)), (7, (Value.int .i64 z1_0))], [], ⟨sB [], 0, 0⟩))
def B_viewportlaw26StylesBest_1 (n : Nat) (x1_0 : Int) (st : Int × Int) : Option ((Int × Int) ⊕ (Int)) := match st with
  | (x1_1, x1_2) =>
    if x1_2 < (((Args.S).length : Nat) : Int) then
      if 0 ≤ x1_2 ∧ x1_2 < (((Args.S).length : Nat) : Int) then
        if (((Args.S).getD (x1_2).toNat (0, nl0, 0, 0)).1) = x1_0 then
          if ((((((Args.S).getD (x1_2).toNat (0, nl0, 0, 0)).2.1)).l.length : Nat) : Int) ≤ (((Args.Y).length : Nat) : Int) then
            if 0 ≤ (maxB (0 : Int) (w64 ((((Args.Y).length : Nat) : Int) - ((((((Args.S).getD (x1_2).toNat (0, nl0, 0, 0)).2.1)).l.length : Nat) : Int)))) ∧ (maxB (0 : Int) (w64 ((((Args.Y).length : Nat) : Int) - ((((((Args.S).getD (x1_2).toNat (0, nl0, 0, 0)).2.1)).l.length : Nat) : Int)))) ≤ (((Args.Y).length : Nat) : Int) then
              (m_viewportkitSameintq1 n (((Args.S).getD (x1_2).toNat (0, nl0, 0, 0)).2.1) ((Args.Y).length - ((maxB (0 : Int) (w64 ((((Args.Y).length : Nat) : Int) - ((((((Args.S).getD (x1_2).toNat (0, nl0, 0, 0)).2.1)).l.length : Nat) : Int))))).toNat) (Args.cY - ((maxB (0 : Int) (w64 ((((Args.Y).length : Nat) : Int) - ((((((Args.S).getD (x1_2).toNat (0, nl0, 0, 0)).2.1)).l.length : Nat) : Int))))).toNat) (0 + ((maxB (0 : Int) (w64 ((((Args.Y).length : Nat) : Int) - ((((((Args.S).getD (x1_2).toNat (0, nl0, 0, 0)).2.1)).l.length : Nat) : Int))))).toNat)).bind fun y1_6_ =>
              (m_stylesMatchesq1 n (((Args.S).getD (x1_2).toNat (0, nl0, 0, 0)).1) (((Args.S).getD (x1_2).toNat (0, nl0, 0, 0)).2.1) (((Args.S).getD (x1_2).toNat (0, nl0, 0, 0)).2.2.1) (((Args.S).getD (x1_2).toNat (0, nl0, 0, 0)).2.2.2) x1_0).bind fun y1_7_ =>
              if y1_7_ = true then
                if y1_6_ = true then
                  if x1_1 < (0 : Int) then
                    some (.inl (x1_2, (w64 (x1_2 + (1 : Int)))))
                  else
                    if 0 ≤ x1_1 ∧ x1_1 < (((Args.S).length : Nat) : Int) then
                      if (((Args.S).getD (x1_1).toNat (0, nl0, 0, 0)).2.2.2) < (((Args.S).getD (x1_2).toNat (0, nl0, 0, 0)).2.2.2) then
                        some (.inl (x1_2, (w64 (x1_2 + (1 : Int)))))
                      else
                        some (.inl (x1_1, (w64 (x1_2 + (1 : Int)))))
                    else none
                else
                  none
              else
                if y1_6_ = true then
                  none
                else
                  some (.inl (x1_1, (w64 (x1_2 + (1 : Int)))))
            else none
          else
            (m_stylesMatchesq1 n (((Args.S).getD (x1_2).toNat (0, nl0, 0, 0)).1) (((Args.S).getD (x1_2).toNat (0, nl0, 0, 0)).2.1) (((Args.S).getD (x1_2).toNat (0, nl0, 0, 0)).2.2.1) (((Args.S).getD (x1_2).toNat (0, nl0, 0, 0)).2.2.2) x1_0).bind fun y1_5_ =>
            if y1_5_ = true then
              none
            else
              some (.inl (x1_1, (w64 (x1_2 + (1 : Int)))))
        else
          (m_stylesMatchesq1 n (((Args.S).getD (x1_2).toNat (0, nl0, 0, 0)).1) (((Args.S).getD (x1_2).toNat (0, nl0, 0, 0)).2.1) (((Args.S).getD (x1_2).toNat (0, nl0, 0, 0)).2.2.1) (((Args.S).getD (x1_2).toNat (0, nl0, 0, 0)).2.2.2) x1_0).bind fun y1_4_ =>
          if y1_4_ = true then
            none
          else
            some (.inl (x1_1, (w64 (x1_2 + (1 : Int)))))
      else none
    else
      some (.inr x1_1)
def m_viewportlaw26StylesBest_1 (n : Nat) (x1_0 : Int) (st : Int × Int) : Option (Int) := iterM (B_viewportlaw26StylesBest_1 n x1_0) n st
set_option maxRecDepth 100000 in
theorem q_viewportlaw26StylesBest_1_0 (n : Nat) {rnd : Option Nat} (x1_0 : Int) (x1_1 : Int) (x1_2 : Int) (hy1_1 : x1_2 < (((Args.S).length : Nat) : Int)) (hy1_2 : 0 ≤ x1_2 ∧ x1_2 < (((Args.S).length : Nat) : Int)) (hy1_3 : (((Args.S).getD (x1_2).toNat (0, nl0, 0, 0)).1) = x1_0) (hy1_4 : ((((((Args.S).getD (x1_2).toNat (0, nl0, 0, 0)).2.1)).l.length : Nat) : Int) ≤ (((Args.Y).length : Nat) : Int)) (hy1_5 : 0 ≤ (maxB (0 : Int) (w64 ((((Args.Y).length : Nat) : Int) - ((((((Args.S).getD (x1_2).toNat (0, nl0, 0, 0)).2.1)).l.length : Nat) : Int)))) ∧ (maxB (0 : Int) (w64 ((((Args.Y).length : Nat) : Int) - ((((((Args.S).getD (x1_2).toNat (0, nl0, 0, 0)).2.1)).l.length : Nat) : Int)))) ≤ (((Args.Y).length : Nat) : Int)) (y1_6_ : Bool) (hy1_6 : m_viewportkitSameintq1 n (((Args.S).getD (x1_2).toNat (0, nl0, 0, 0)).2.1) ((Args.Y).length - ((maxB (0 : Int) (w64 ((((Args.Y).length : Nat) : Int) - ((((((Args.S).getD (x1_2).toNat (0, nl0, 0, 0)).2.1)).l.length : Nat) : Int))))).toNat) (Args.cY - ((maxB (0 : Int) (w64 ((((Args.Y).length : Nat) : Int) - ((((((Args.S).getD (x1_2).toNat (0, nl0, 0, 0)).2.1)).l.length : Nat) : Int))))).toNat) (0 + ((maxB (0 : Int) (w64 ((((Args.Y).length : Nat) : Int) - ((((((Args.S).getD (x1_2).toNat (0, nl0, 0, 0)).2.1)).l.length : Nat) : Int))))).toNat) = some y1_6_) (y1_7_ : Bool) (hy1_7 : m_stylesMatchesq1 n (((Args.S).getD (x1_2).toNat (0, nl0, 0, 0)).1) (((Args.S).getD (x1_2).toNat (0, nl0, 0, 0)).2.1) (((Args.S).getD (x1_2).toNat (0, nl0, 0, 0)).2.2.1) (((Args.S).getD (x1_2).toNat (0, nl0, 0, 0)).2.2.2) x1_0 = some y1_7_) (hy1_8 : y1_7_ = true) (hy1_9 : y1_6_ = true) (hy1_10 : x1_1 < (0 : Int)) : CG P rnd (fnN P 3) 0 (codeOf P 3 [false, false, true, false, true, true, true, true]) (S_viewportlaw26StylesBest_1 x1_0 (x1_1, x1_2)) (.normal, S_viewportlaw26StylesBest_1 x1_0 (x1_2, (w64 (x1_2 + (1 : Int))))) :=
  runC_ok hm (A := aT [(5, .val (.bool true)), (12, .pur (Value.pointer (some ⟨0, ((x1_2).toNat * 4), some 1⟩))), (13, .ld (Value.agg #[(Value.int .i64 (((Args.S).getD (x1_2).toNat (0, nl0, 0, 0)).1)), (nlV (((Args.S).getD (x1_2).toNat (0, nl0, 0, 0)).2.1)), (Value.int .i64 (((Args.S).getD (x1_2).toNat (0, nl0, 0, 0)).2.2.1)), (Value.int .i64 (((Args.S).getD (x1_2).toNat (0, nl0, 0, 0)).2.2.2))])), (20, .val (.bool true)), (27, .val (.bool true)), (40, .pur (Value.slice (some ⟨1, (0 + ((maxB (0 : Int) (w64 ((((Args.Y).length : Nat) : Int) - ((((((Args.S).getD (x1_2).toNat (0, nl0, 0, 0)).2.1)).l.length : Nat) : Int))))).toNat), some 1⟩) ((Args.Y).length - ((maxB (0 : Int) (w64 ((((Args.Y).length : Nat) : Int) - ((((((Args.S).getD (x1_2).toNat (0, nl0, 0, 0)).2.1)).l.length : Nat) : Int))))).toNat) (Args.cY - ((maxB (0 : Int) (w64 ((((Args.Y).length : Nat) : Int) - ((((((Args.S).getD (x1_2).toNat (0, nl0, 0, 0)).2.1)).l.length : Nat) : Int))))).toNat))), (41, .call ⟨0, [], (V_viewportkitSameintq1 (((Args.S).getD (x1_2).toNat (0, nl0, 0, 0)).2.1) ((Args.Y).length - ((maxB (0 : Int) (w64 ((((Args.Y).length : Nat) : Int) - ((((((Args.S).getD (x1_2).toNat (0, nl0, 0, 0)).2.1)).l.length : Nat) : Int))))).toNat) (Args.cY - ((maxB (0 : Int) (w64 ((((Args.Y).length : Nat) : Int) - ((((((Args.S).getD (x1_2).toNat (0, nl0, 0, 0)).2.1)).l.length : Nat) : Int))))).toNat) (0 + ((maxB (0 : Int) (w64 ((((Args.Y).length : Nat) : Int) - ((((((Args.S).getD (x1_2).toNat (0, nl0, 0, 0)).2.1)).l.length : Nat) : Int))))).toNat) y1_6_), (R_viewportkitSameintq1 (((Args.S).getD (x1_2).toNat (0, nl0, 0, 0)).2.1) ((Args.Y).length - ((maxB (0 : Int) (w64 ((((Args.Y).length : Nat) : Int) - ((((((Args.S).getD (x1_2).toNat (0, nl0, 0, 0)).2.1)).l.length : Nat) : Int))))).toNat) (Args.cY - ((maxB (0 : Int) (w64 ((((Args.Y).length : Nat) : Int) - ((((((Args.S).getD (x1_2).toNat (0, nl0, 0, 0)).2.1)).l.length : Nat) : Int))))).toNat) (0 + ((maxB (0 : Int) (w64 ((((Args.Y).length : Nat) : Int) - ((((((Args.S).getD (x1_2).toNat (0, nl0, 0, 0)).2.1)).l.length : Nat) : Int))))).toNat) y1_6_), []⟩), (49, .call ⟨0, [], (V_stylesMatchesq1 (((Args.S).getD (x1_2).toNat (0, nl0, 0, 0)).1) (((Args.S).getD (x1_2).toNat (0, nl0, 0, 0)).2.1) (((Args.S).getD (x1_2).toNat (0, nl0, 0, 0)).2.2.1) (((Args.S).getD (x1_2).toNat (0, nl0, 0, 0)).2.2.2) x1_0 y1_7_), (R_stylesMatchesq1 (((Args.S).getD (x1_2).toNat (0, nl0, 0, 0)).1) (((Args.S).getD (x1_2).toNat (0, nl0, 0, 0)).2.1) (((Args.S).getD (x1_2).toNat (0, nl0, 0, 0)).2.2.1) (((Args.S).getD (x1_2).toNat (0, nl0, 0, 0)).2.2.2) x1_0 y1_7_), []⟩), (51, .val (.bool false)), (55, .val (.bool true)), (57, .val (.bool true))]) (L := lT []) (wk := ⟨[0, 1, 2, 7, 8], [], 0, 0⟩)
    (ps := [(Value.bool (decide (x1_2 < (((Args.S).length : Nat) : Int)))) = (Value.bool true),
    opIndexAddr P 22 (Value.slice (some ⟨0, 0, some 1⟩) (Args.S).length Args.cS) (Value.int .i64 x1_2) Ax.h0 = some ((Value.pointer (some ⟨0, ((x1_2).toNat * 4), some 1⟩)), Ax.h0),
    loadG P 27 (Value.pointer (some ⟨0, ((x1_2).toNat * 4), some 1⟩)) Ax.h0 = some ((Value.agg #[(Value.int .i64 (((Args.S).getD (x1_2).toNat (0, nl0, 0, 0)).1)), (nlV (((Args.S).getD (x1_2).toNat (0, nl0, 0, 0)).2.1)), (Value.int .i64 (((Args.S).getD (x1_2).toNat (0, nl0, 0, 0)).2.2.1)), (Value.int .i64 (((Args.S).getD (x1_2).toNat (0, nl0, 0, 0)).2.2.2))]), Ax.h0),
    (Value.bool ((((Args.S).getD (x1_2).toNat (0, nl0, 0, 0)).1) == x1_0)) = (Value.bool true),
    (Value.bool (decide (((((((Args.S).getD (x1_2).toNat (0, nl0, 0, 0)).2.1)).l.length : Nat) : Int) ≤ (((Args.Y).length : Nat) : Int)))) = (Value.bool true),
    opSlice P 23 (Value.slice (some ⟨1, 0, some 1⟩) (Args.Y).length Args.cY) (some (Value.int .i64 (maxB (0 : Int) (w64 ((((Args.Y).length : Nat) : Int) - ((((((Args.S).getD (x1_2).toNat (0, nl0, 0, 0)).2.1)).l.length : Nat) : Int)))))) none none Ax.h0 = some ((Value.slice (some ⟨1, (0 + ((maxB (0 : Int) (w64 ((((Args.Y).length : Nat) : Int) - ((((((Args.S).getD (x1_2).toNat (0, nl0, 0, 0)).2.1)).l.length : Nat) : Int))))).toNat), some 1⟩) ((Args.Y).length - ((maxB (0 : Int) (w64 ((((Args.Y).length : Nat) : Int) - ((((((Args.S).getD (x1_2).toNat (0, nl0, 0, 0)).2.1)).l.length : Nat) : Int))))).toNat) (Args.cY - ((maxB (0 : Int) (w64 ((((Args.Y).length : Nat) : Int) - ((((((Args.S).getD (x1_2).toNat (0, nl0, 0, 0)).2.1)).l.length : Nat) : Int))))).toNat)), Ax.h0),
    Gv P (.func 7) (A_viewportkitSameintq1 (((Args.S).getD (x1_2).toNat (0, nl0, 0, 0)).2.1) ((Args.Y).length - ((maxB (0 : Int) (w64 ((((Args.Y).length : Nat) : Int) - ((((((Args.S).getD (x1_2).toNat (0, nl0, 0, 0)).2.1)).l.length : Nat) : Int))))).toNat) (Args.cY - ((maxB (0 : Int) (w64 ((((Args.Y).length : Nat) : Int) - ((((((Args.S).getD (x1_2).toNat (0, nl0, 0, 0)).2.1)).l.length : Nat) : Int))))).toNat) (0 + ((maxB (0 : Int) (w64 ((((Args.Y).length : Nat) : Int) - ((((((Args.S).getD (x1_2).toNat (0, nl0, 0, 0)).2.1)).l.length : Nat) : Int))))).toNat)) (H_viewportkitSameintq1 (((Args.S).getD (x1_2).toNat (0, nl0, 0, 0)).2.1) ((Args.Y).length - ((maxB (0 : Int) (w64 ((((Args.Y).length : Nat) : Int) - ((((((Args.S).getD (x1_2).toNat (0, nl0, 0, 0)).2.1)).l.length : Nat) : Int))))).toNat) (Args.cY - ((maxB (0 : Int) (w64 ((((Args.Y).length : Nat) : Int) - ((((((Args.S).getD (x1_2).toNat (0, nl0, 0, 0)).2.1)).l.length : Nat) : Int))))).toNat) (0 + ((maxB (0 : Int) (w64 ((((Args.Y).length : Nat) : Int) - ((((((Args.S).getD (x1_2).toNat (0, nl0, 0, 0)).2.1)).l.length : Nat) : Int))))).toNat)) (V_viewportkitSameintq1 (((Args.S).getD (x1_2).toNat (0, nl0, 0, 0)).2.1) ((Args.Y).length - ((maxB (0 : Int) (w64 ((((Args.Y).length : Nat) : Int) - ((((((Args.S).getD (x1_2).toNat (0, nl0, 0, 0)).2.1)).l.length : Nat) : Int))))).toNat) (Args.cY - ((maxB (0 : Int) (w64 ((((Args.Y).length : Nat) : Int) - ((((((Args.S).getD (x1_2).toNat (0, nl0, 0, 0)).2.1)).l.length : Nat) : Int))))).toNat) (0 + ((maxB (0 : Int) (w64 ((((Args.Y).length : Nat) : Int) - ((((((Args.S).getD (x1_2).toNat (0, nl0, 0, 0)).2.1)).l.length : Nat) : Int))))).toNat) y1_6_) (R_viewportkitSameintq1 (((Args.S).getD (x1_2).toNat (0, nl0, 0, 0)).2.1) ((Args.Y).length - ((maxB (0 : Int) (w64 ((((Args.Y).length : Nat) : Int) - ((((((Args.S).getD (x1_2).toNat (0, nl0, 0, 0)).2.1)).l.length : Nat) : Int))))).toNat) (Args.cY - ((maxB (0 : Int) (w64 ((((Args.Y).length : Nat) : Int) - ((((((Args.S).getD (x1_2).toNat (0, nl0, 0, 0)).2.1)).l.length : Nat) : Int))))).toNat) (0 + ((maxB (0 : Int) (w64 ((((Args.Y).length : Nat) : Int) - ((((((Args.S).getD (x1_2).toNat (0, nl0, 0, 0)).2.1)).l.length : Nat) : Int))))).toNat) y1_6_),
    Gv P (.func 8) (A_stylesMatchesq1 (((Args.S).getD (x1_2).toNat (0, nl0, 0, 0)).1) (((Args.S).getD (x1_2).toNat (0, nl0, 0, 0)).2.1) (((Args.S).getD (x1_2).toNat (0, nl0, 0, 0)).2.2.1) (((Args.S).getD (x1_2).toNat (0, nl0, 0, 0)).2.2.2) x1_0) (H_stylesMatchesq1 (((Args.S).getD (x1_2).toNat (0, nl0, 0, 0)).1) (((Args.S).getD (x1_2).toNat (0, nl0, 0, 0)).2.1) (((Args.S).getD (x1_2).toNat (0, nl0, 0, 0)).2.2.1) (((Args.S).getD (x1_2).toNat (0, nl0, 0, 0)).2.2.2) x1_0) (V_stylesMatchesq1 (((Args.S).getD (x1_2).toNat (0, nl0, 0, 0)).1) (((Args.S).getD (x1_2).toNat (0, nl0, 0, 0)).2.1) (((Args.S).getD (x1_2).toNat (0, nl0, 0, 0)).2.2.1) (((Args.S).getD (x1_2).toNat (0, nl0, 0, 0)).2.2.2) x1_0 y1_7_) (R_stylesMatchesq1 (((Args.S).getD (x1_2).toNat (0, nl0, 0, 0)).1) (((Args.S).getD (x1_2).toNat (0, nl0, 0, 0)).2.1) (((Args.S).getD (x1_2).toNat (0, nl0, 0, 0)).2.2.1) (((Args.S).getD (x1_2).toNat (0, nl0, 0, 0)).2.2.2) x1_0 y1_7_),
    (Value.bool (!(y1_7_ == y1_6_))) = (Value.bool false),
    (Value.bool y1_6_) = (Value.bool true),
    (Value.bool (decide (x1_1 < (0 : Int)))) = (Value.bool true)]) (by kernel_rfl) ⟨(vbT hy1_1), (ixW (e := 27) (by kernel_rfl) (by kernel_rfl) (hy1_2).1 (hy1_2).2), (ldWA rwf_iLii (0, nl0, 0, 0) (i := (x1_2).toNat) (q := 0) (L := Args.S) (n := 4) ((x1_2).toNat * 4) rfl rfl (by kernel_rfl) (by kernel_rfl) (toNatLt hy1_2) (by decide) rfl), (veT hy1_3), (vbT hy1_4), (slWinLo (e := 3) (by kernel_rfl) (by kernel_rfl) hy1_5), (m_viewportkitSameintq1_ok n (((Args.S).getD (x1_2).toNat (0, nl0, 0, 0)).2.1) ((Args.Y).length - ((maxB (0 : Int) (w64 ((((Args.Y).length : Nat) : Int) - ((((((Args.S).getD (x1_2).toNat (0, nl0, 0, 0)).2.1)).l.length : Nat) : Int))))).toNat) (Args.cY - ((maxB (0 : Int) (w64 ((((Args.Y).length : Nat) : Int) - ((((((Args.S).getD (x1_2).toNat (0, nl0, 0, 0)).2.1)).l.length : Nat) : Int))))).toNat) (0 + ((maxB (0 : Int) (w64 ((((Args.Y).length : Nat) : Int) - ((((((Args.S).getD (x1_2).toNat (0, nl0, 0, 0)).2.1)).l.length : Nat) : Int))))).toNat) y1_6_ hy1_6), (m_stylesMatchesq1_ok n (((Args.S).getD (x1_2).toNat (0, nl0, 0, 0)).1) (((Args.S).getD (x1_2).toNat (0, nl0, 0, 0)).2.1) (((Args.S).getD (x1_2).toNat (0, nl0, 0, 0)).2.2.1) (((Args.S).getD (x1_2).toNat (0, nl0, 0, 0)).2.2.2) x1_0 y1_7_ hy1_7), (vNeB hy1_8 hy1_9), (vB hy1_9), (vbT hy1_10), trivial⟩
set_option maxRecDepth 100000 in
theorem q_viewportlaw26StylesBest_1_1 (n : Nat) {rnd : Option Nat} (x1_0 : Int) (x1_1 : Int) (x1_2 : Int) (hy1_1 : x1_2 < (((Args.S).length : Nat) : Int)) (hy1_2 : 0 ≤ x1_2 ∧ x1_2 < (((Args.S).length : Nat) : Int)) (hy1_3 : (((Args.S).getD (x1_2).toNat (0, nl0, 0, 0)).1) = x1_0) (hy1_4 : ((((((Args.S).getD (x1_2).toNat (0, nl0, 0, 0)).2.1)).l.length : Nat) : Int) ≤ (((Args.Y).length : Nat) : Int)) (hy1_5 : 0 ≤ (maxB (0 : Int) (w64 ((((Args.Y).length : Nat) : Int) - ((((((Args.S).getD (x1_2).toNat (0, nl0, 0, 0)).2.1)).l.length : Nat) : Int)))) ∧ (maxB (0 : Int) (w64 ((((Args.Y).length : Nat) : Int) - ((((((Args.S).getD (x1_2).toNat (0, nl0, 0, 0)).2.1)).l.length : Nat) : Int)))) ≤ (((Args.Y).length : Nat) : Int)) (y1_6_ : Bool) (hy1_6 : m_viewportkitSameintq1 n (((Args.S).getD (x1_2).toNat (0, nl0, 0, 0)).2.1) ((Args.Y).length - ((maxB (0 : Int) (w64 ((((Args.Y).length : Nat) : Int) - ((((((Args.S).getD (x1_2).toNat (0, nl0, 0, 0)).2.1)).l.length : Nat) : Int))))).toNat) (Args.cY - ((maxB (0 : Int) (w64 ((((Args.Y).length : Nat) : Int) - ((((((Args.S).getD (x1_2).toNat (0, nl0, 0, 0)).2.1)).l.length : Nat) : Int))))).toNat) (0 + ((maxB (0 : Int) (w64 ((((Args.Y).length : Nat) : Int) - ((((((Args.S).getD (x1_2).toNat (0, nl0, 0, 0)).2.1)).l.length : Nat) : Int))))).toNat) = some y1_6_) (y1_7_ : Bool) (hy1_7 : m_stylesMatchesq1 n (((Args.S).getD (x1_2).toNat (0, nl0, 0, 0)).1) (((Args.S).getD (x1_2).toNat (0, nl0, 0, 0)).2.1) (((Args.S).getD (x1_2).toNat (0, nl0, 0, 0)).2.2.1) (((Args.S).getD (x1_2).toNat (0, nl0, 0, 0)).2.2.2) x1_0 = some y1_7_) (hy1_8 : y1_7_ = true) (hy1_9 : y1_6_ = true) (hy1_10 : ¬ (x1_1 < (0 : Int))) (hy1_11 : 0 ≤ x1_1 ∧ x1_1 < (((Args.S).length : Nat) : Int)) (hy1_12 : (((Args.S).getD (x1_1).toNat (0, nl0, 0, 0)).2.2.2) < (((Args.S).getD (x1_2).toNat (0, nl0, 0, 0)).2.2.2)) : CG P rnd (fnN P 3) 0 (codeOf P 3 [false, false, true, false, true, true, true, true]) (S_viewportlaw26StylesBest_1 x1_0 (x1_1, x1_2)) (.normal, S_viewportlaw26StylesBest_1 x1_0 (x1_2, (w64 (x1_2 + (1 : Int))))) :=
  runC_ok hm (A := aT [(5, .val (.bool true)), (12, .pur (Value.pointer (some ⟨0, ((x1_2).toNat * 4), some 1⟩))), (13, .ld (Value.agg #[(Value.int .i64 (((Args.S).getD (x1_2).toNat (0, nl0, 0, 0)).1)), (nlV (((Args.S).getD (x1_2).toNat (0, nl0, 0, 0)).2.1)), (Value.int .i64 (((Args.S).getD (x1_2).toNat (0, nl0, 0, 0)).2.2.1)), (Value.int .i64 (((Args.S).getD (x1_2).toNat (0, nl0, 0, 0)).2.2.2))])), (20, .val (.bool true)), (27, .val (.bool true)), (40, .pur (Value.slice (some ⟨1, (0 + ((maxB (0 : Int) (w64 ((((Args.Y).length : Nat) : Int) - ((((((Args.S).getD (x1_2).toNat (0, nl0, 0, 0)).2.1)).l.length : Nat) : Int))))).toNat), some 1⟩) ((Args.Y).length - ((maxB (0 : Int) (w64 ((((Args.Y).length : Nat) : Int) - ((((((Args.S).getD (x1_2).toNat (0, nl0, 0, 0)).2.1)).l.length : Nat) : Int))))).toNat) (Args.cY - ((maxB (0 : Int) (w64 ((((Args.Y).length : Nat) : Int) - ((((((Args.S).getD (x1_2).toNat (0, nl0, 0, 0)).2.1)).l.length : Nat) : Int))))).toNat))), (41, .call ⟨0, [], (V_viewportkitSameintq1 (((Args.S).getD (x1_2).toNat (0, nl0, 0, 0)).2.1) ((Args.Y).length - ((maxB (0 : Int) (w64 ((((Args.Y).length : Nat) : Int) - ((((((Args.S).getD (x1_2).toNat (0, nl0, 0, 0)).2.1)).l.length : Nat) : Int))))).toNat) (Args.cY - ((maxB (0 : Int) (w64 ((((Args.Y).length : Nat) : Int) - ((((((Args.S).getD (x1_2).toNat (0, nl0, 0, 0)).2.1)).l.length : Nat) : Int))))).toNat) (0 + ((maxB (0 : Int) (w64 ((((Args.Y).length : Nat) : Int) - ((((((Args.S).getD (x1_2).toNat (0, nl0, 0, 0)).2.1)).l.length : Nat) : Int))))).toNat) y1_6_), (R_viewportkitSameintq1 (((Args.S).getD (x1_2).toNat (0, nl0, 0, 0)).2.1) ((Args.Y).length - ((maxB (0 : Int) (w64 ((((Args.Y).length : Nat) : Int) - ((((((Args.S).getD (x1_2).toNat (0, nl0, 0, 0)).2.1)).l.length : Nat) : Int))))).toNat) (Args.cY - ((maxB (0 : Int) (w64 ((((Args.Y).length : Nat) : Int) - ((((((Args.S).getD (x1_2).toNat (0, nl0, 0, 0)).2.1)).l.length : Nat) : Int))))).toNat) (0 + ((maxB (0 : Int) (w64 ((((Args.Y).length : Nat) : Int) - ((((((Args.S).getD (x1_2).toNat (0, nl0, 0, 0)).2.1)).l.length : Nat) : Int))))).toNat) y1_6_), []⟩), (49, .call ⟨0, [], (V_stylesMatchesq1 (((Args.S).getD (x1_2).toNat (0, nl0, 0, 0)).1) (((Args.S).getD (x1_2).toNat (0, nl0, 0, 0)).2.1) (((Args.S).getD (x1_2).toNat (0, nl0, 0, 0)).2.2.1) (((Args.S).getD (x1_2).toNat (0, nl0, 0, 0)).2.2.2) x1_0 y1_7_), (R_stylesMatchesq1 (((Args.S).getD (x1_2).toNat (0, nl0, 0, 0)).1) (((Args.S).getD (x1_2).toNat (0, nl0, 0, 0)).2.1) (((Args.S).getD (x1_2).toNat (0, nl0, 0, 0)).2.2.1) (((Args.S).getD (x1_2).toNat (0, nl0, 0, 0)).2.2.2) x1_0 y1_7_), []⟩), (51, .val (.bool false)), (55, .val (.bool true)), (57, .val (.bool false)), (61, .pur (Value.pointer (some ⟨0, ((x1_1).toNat * 4), some 1⟩))), (62, .pur (Value.pointer (some ⟨0, (Nat.add ((x1_1).toNat * 4) 3), some 1⟩))), (63, .ld (Value.int .i64 (((Args.S).getD (x1_1).toNat (0, nl0, 0, 0)).2.2.2))), (66, .val (.bool true))]) (L := lT []) (wk := ⟨[0, 1, 2, 7, 8], [], 0, 0⟩)
    (ps := [(Value.bool (decide (x1_2 < (((Args.S).length : Nat) : Int)))) = (Value.bool true),
    opIndexAddr P 22 (Value.slice (some ⟨0, 0, some 1⟩) (Args.S).length Args.cS) (Value.int .i64 x1_2) Ax.h0 = some ((Value.pointer (some ⟨0, ((x1_2).toNat * 4), some 1⟩)), Ax.h0),
    loadG P 27 (Value.pointer (some ⟨0, ((x1_2).toNat * 4), some 1⟩)) Ax.h0 = some ((Value.agg #[(Value.int .i64 (((Args.S).getD (x1_2).toNat (0, nl0, 0, 0)).1)), (nlV (((Args.S).getD (x1_2).toNat (0, nl0, 0, 0)).2.1)), (Value.int .i64 (((Args.S).getD (x1_2).toNat (0, nl0, 0, 0)).2.2.1)), (Value.int .i64 (((Args.S).getD (x1_2).toNat (0, nl0, 0, 0)).2.2.2))]), Ax.h0),
    (Value.bool ((((Args.S).getD (x1_2).toNat (0, nl0, 0, 0)).1) == x1_0)) = (Value.bool true),
    (Value.bool (decide (((((((Args.S).getD (x1_2).toNat (0, nl0, 0, 0)).2.1)).l.length : Nat) : Int) ≤ (((Args.Y).length : Nat) : Int)))) = (Value.bool true),
    opSlice P 23 (Value.slice (some ⟨1, 0, some 1⟩) (Args.Y).length Args.cY) (some (Value.int .i64 (maxB (0 : Int) (w64 ((((Args.Y).length : Nat) : Int) - ((((((Args.S).getD (x1_2).toNat (0, nl0, 0, 0)).2.1)).l.length : Nat) : Int)))))) none none Ax.h0 = some ((Value.slice (some ⟨1, (0 + ((maxB (0 : Int) (w64 ((((Args.Y).length : Nat) : Int) - ((((((Args.S).getD (x1_2).toNat (0, nl0, 0, 0)).2.1)).l.length : Nat) : Int))))).toNat), some 1⟩) ((Args.Y).length - ((maxB (0 : Int) (w64 ((((Args.Y).length : Nat) : Int) - ((((((Args.S).getD (x1_2).toNat (0, nl0, 0, 0)).2.1)).l.length : Nat) : Int))))).toNat) (Args.cY - ((maxB (0 : Int) (w64 ((((Args.Y).length : Nat) : Int) - ((((((Args.S).getD (x1_2).toNat (0, nl0, 0, 0)).2.1)).l.length : Nat) : Int))))).toNat)), Ax.h0),
    Gv P (.func 7) (A_viewportkitSameintq1 (((Args.S).getD (x1_2).toNat (0, nl0, 0, 0)).2.1) ((Args.Y).length - ((maxB (0 : Int) (w64 ((((Args.Y).length : Nat) : Int) - ((((((Args.S).getD (x1_2).toNat (0, nl0, 0, 0)).2.1)).l.length : Nat) : Int))))).toNat) (Args.cY - ((maxB (0 : Int) (w64 ((((Args.Y).length : Nat) : Int) - ((((((Args.S).getD (x1_2).toNat (0, nl0, 0, 0)).2.1)).l.length : Nat) : Int))))).toNat) (0 + ((maxB (0 : Int) (w64 ((((Args.Y).length : Nat) : Int) - ((((((Args.S).getD (x1_2).toNat (0, nl0, 0, 0)).2.1)).l.length : Nat) : Int))))).toNat)) (H_viewportkitSameintq1 (((Args.S).getD (x1_2).toNat (0, nl0, 0, 0)).2.1) ((Args.Y).length - ((maxB (0 : Int) (w64 ((((Args.Y).length : Nat) : Int) - ((((((Args.S).getD (x1_2).toNat (0, nl0, 0, 0)).2.1)).l.length : Nat) : Int))))).toNat) (Args.cY - ((maxB (0 : Int) (w64 ((((Args.Y).length : Nat) : Int) - ((((((Args.S).getD (x1_2).toNat (0, nl0, 0, 0)).2.1)).l.length : Nat) : Int))))).toNat) (0 + ((maxB (0 : Int) (w64 ((((Args.Y).length : Nat) : Int) - ((((((Args.S).getD (x1_2).toNat (0, nl0, 0, 0)).2.1)).l.length : Nat) : Int))))).toNat)) (V_viewportkitSameintq1 (((Args.S).getD (x1_2).toNat (0, nl0, 0, 0)).2.1) ((Args.Y).length - ((maxB (0 : Int) (w64 ((((Args.Y).length : Nat) : Int) - ((((((Args.S).getD (x1_2).toNat (0, nl0, 0, 0)).2.1)).l.length : Nat) : Int))))).toNat) (Args.cY - ((maxB (0 : Int) (w64 ((((Args.Y).length : Nat) : Int) - ((((((Args.S).getD (x1_2).toNat (0, nl0, 0, 0)).2.1)).l.length : Nat) : Int))))).toNat) (0 + ((maxB (0 : Int) (w64 ((((Args.Y).length : Nat) : Int) - ((((((Args.S).getD (x1_2).toNat (0, nl0, 0, 0)).2.1)).l.length : Nat) : Int))))).toNat) y1_6_) (R_viewportkitSameintq1 (((Args.S).getD (x1_2).toNat (0, nl0, 0, 0)).2.1) ((Args.Y).length - ((maxB (0 : Int) (w64 ((((Args.Y).length : Nat) : Int) - ((((((Args.S).getD (x1_2).toNat (0, nl0, 0, 0)).2.1)).l.length : Nat) : Int))))).toNat) (Args.cY - ((maxB (0 : Int) (w64 ((((Args.Y).length : Nat) : Int) - ((((((Args.S).getD (x1_2).toNat (0, nl0, 0, 0)).2.1)).l.length : Nat) : Int))))).toNat) (0 + ((maxB (0 : Int) (w64 ((((Args.Y).length : Nat) : Int) - ((((((Args.S).getD (x1_2).toNat (0, nl0, 0, 0)).2.1)).l.length : Nat) : Int))))).toNat) y1_6_),
    Gv P (.func 8) (A_stylesMatchesq1 (((Args.S).getD (x1_2).toNat (0, nl0, 0, 0)).1) (((Args.S).getD (x1_2).toNat (0, nl0, 0, 0)).2.1) (((Args.S).getD (x1_2).toNat (0, nl0, 0, 0)).2.2.1) (((Args.S).getD (x1_2).toNat (0, nl0, 0, 0)).2.2.2) x1_0) (H_stylesMatchesq1 (((Args.S).getD (x1_2).toNat (0, nl0, 0, 0)).1) (((Args.S).getD (x1_2).toNat (0, nl0, 0, 0)).2.1) (((Args.S).getD (x1_2).toNat (0, nl0, 0, 0)).2.2.1) (((Args.S).getD (x1_2).toNat (0, nl0, 0, 0)).2.2.2) x1_0) (V_stylesMatchesq1 (((Args.S).getD (x1_2).toNat (0, nl0, 0, 0)).1) (((Args.S).getD (x1_2).toNat (0, nl0, 0, 0)).2.1) (((Args.S).getD (x1_2).toNat (0, nl0, 0, 0)).2.2.1) (((Args.S).getD (x1_2).toNat (0, nl0, 0, 0)).2.2.2) x1_0 y1_7_) (R_stylesMatchesq1 (((Args.S).getD (x1_2).toNat (0, nl0, 0, 0)).1) (((Args.S).getD (x1_2).toNat (0, nl0, 0, 0)).2.1) (((Args.S).getD (x1_2).toNat (0, nl0, 0, 0)).2.2.1) (((Args.S).getD (x1_2).toNat (0, nl0, 0, 0)).2.2.2) x1_0 y1_7_),
    (Value.bool (!(y1_7_ == y1_6_))) = (Value.bool false),
    (Value.bool y1_6_) = (Value.bool true),
    (Value.bool (decide (x1_1 < (0 : Int)))) = (Value.bool false),
    opIndexAddr P 22 (Value.slice (some ⟨0, 0, some 1⟩) (Args.S).length Args.cS) (Value.int .i64 x1_1) Ax.h0 = some ((Value.pointer (some ⟨0, ((x1_1).toNat * 4), some 1⟩)), Ax.h0),
    opFieldAddr P 27 (Value.pointer (some ⟨0, ((x1_1).toNat * 4), some 1⟩)) 3 Ax.h0 = some ((Value.pointer (some ⟨0, (Nat.add ((x1_1).toNat * 4) 3), some 1⟩)), Ax.h0),
    loadG P 3 (Value.pointer (some ⟨0, (Nat.add ((x1_1).toNat * 4) 3), some 1⟩)) Ax.h0 = some ((Value.int .i64 (((Args.S).getD (x1_1).toNat (0, nl0, 0, 0)).2.2.2)), Ax.h0),
    (Value.bool (decide ((((Args.S).getD (x1_1).toNat (0, nl0, 0, 0)).2.2.2) < (((Args.S).getD (x1_2).toNat (0, nl0, 0, 0)).2.2.2)))) = (Value.bool true)]) (by kernel_rfl) ⟨(vbT hy1_1), (ixW (e := 27) (by kernel_rfl) (by kernel_rfl) (hy1_2).1 (hy1_2).2), (ldWA rwf_iLii (0, nl0, 0, 0) (i := (x1_2).toNat) (q := 0) (L := Args.S) (n := 4) ((x1_2).toNat * 4) rfl rfl (by kernel_rfl) (by kernel_rfl) (toNatLt hy1_2) (by decide) rfl), (veT hy1_3), (vbT hy1_4), (slWinLo (e := 3) (by kernel_rfl) (by kernel_rfl) hy1_5), (m_viewportkitSameintq1_ok n (((Args.S).getD (x1_2).toNat (0, nl0, 0, 0)).2.1) ((Args.Y).length - ((maxB (0 : Int) (w64 ((((Args.Y).length : Nat) : Int) - ((((((Args.S).getD (x1_2).toNat (0, nl0, 0, 0)).2.1)).l.length : Nat) : Int))))).toNat) (Args.cY - ((maxB (0 : Int) (w64 ((((Args.Y).length : Nat) : Int) - ((((((Args.S).getD (x1_2).toNat (0, nl0, 0, 0)).2.1)).l.length : Nat) : Int))))).toNat) (0 + ((maxB (0 : Int) (w64 ((((Args.Y).length : Nat) : Int) - ((((((Args.S).getD (x1_2).toNat (0, nl0, 0, 0)).2.1)).l.length : Nat) : Int))))).toNat) y1_6_ hy1_6), (m_stylesMatchesq1_ok n (((Args.S).getD (x1_2).toNat (0, nl0, 0, 0)).1) (((Args.S).getD (x1_2).toNat (0, nl0, 0, 0)).2.1) (((Args.S).getD (x1_2).toNat (0, nl0, 0, 0)).2.2.1) (((Args.S).getD (x1_2).toNat (0, nl0, 0, 0)).2.2.2) x1_0 y1_7_ hy1_7), (vNeB hy1_8 hy1_9), (vB hy1_9), (vbF hy1_10), (ixW (e := 27) (by kernel_rfl) (by kernel_rfl) (hy1_11).1 (hy1_11).2), (by kernel_rfl), (ldWS rwf_iLii (0, nl0, 0, 0) (i := (x1_1).toNat) (q := 3) (L := Args.S) (Nat.add ((x1_1).toNat * 4) 3) rfl rfl (by kernel_rfl) (toNatLt hy1_11) (by decide) rfl), (vbT hy1_12), trivial⟩
set_option maxRecDepth 100000 in
theorem q_viewportlaw26StylesBest_1_2 (n : Nat) {rnd : Option Nat} (x1_0 : Int) (x1_1 : Int) (x1_2 : Int) (hy1_1 : x1_2 < (((Args.S).length : Nat) : Int)) (hy1_2 : 0 ≤ x1_2 ∧ x1_2 < (((Args.S).length : Nat) : Int)) (hy1_3 : (((Args.S).getD (x1_2).toNat (0, nl0, 0, 0)).1) = x1_0) (hy1_4 : ((((((Args.S).getD (x1_2).toNat (0, nl0, 0, 0)).2.1)).l.length : Nat) : Int) ≤ (((Args.Y).length : Nat) : Int)) (hy1_5 : 0 ≤ (maxB (0 : Int) (w64 ((((Args.Y).length : Nat) : Int) - ((((((Args.S).getD (x1_2).toNat (0, nl0, 0, 0)).2.1)).l.length : Nat) : Int)))) ∧ (maxB (0 : Int) (w64 ((((Args.Y).length : Nat) : Int) - ((((((Args.S).getD (x1_2).toNat (0, nl0, 0, 0)).2.1)).l.length : Nat) : Int)))) ≤ (((Args.Y).length : Nat) : Int)) (y1_6_ : Bool) (hy1_6 : m_viewportkitSameintq1 n (((Args.S).getD (x1_2).toNat (0, nl0, 0, 0)).2.1) ((Args.Y).length - ((maxB (0 : Int) (w64 ((((Args.Y).length : Nat) : Int) - ((((((Args.S).getD (x1_2).toNat (0, nl0, 0, 0)).2.1)).l.length : Nat) : Int))))).toNat) (Args.cY - ((maxB (0 : Int) (w64 ((((Args.Y).length : Nat) : Int) - ((((((Args.S).getD (x1_2).toNat (0, nl0, 0, 0)).2.1)).l.length : Nat) : Int))))).toNat) (0 + ((maxB (0 : Int) (w64 ((((Args.Y).length : Nat) : Int) - ((((((Args.S).getD (x1_2).toNat (0, nl0, 0, 0)).2.1)).l.length : Nat) : Int))))).toNat) = some y1_6_) (y1_7_ : Bool) (hy1_7 : m_stylesMatchesq1 n (((Args.S).getD (x1_2).toNat (0, nl0, 0, 0)).1) (((Args.S).getD (x1_2).toNat (0, nl0, 0, 0)).2.1) (((Args.S).getD (x1_2).toNat (0, nl0, 0, 0)).2.2.1) (((Args.S).getD (x1_2).toNat (0, nl0, 0, 0)).2.2.2) x1_0 = some y1_7_) (hy1_8 : y1_7_ = true) (hy1_9 : y1_6_ = true) (hy1_10 : ¬ (x1_1 < (0 : Int))) (hy1_11 : 0 ≤ x1_1 ∧ x1_1 < (((Args.S).length : Nat) : Int)) (hy1_12 : ¬ ((((Args.S).getD (x1_1).toNat (0, nl0, 0, 0)).2.2.2) < (((Args.S).getD (x1_2).toNat (0, nl0, 0, 0)).2.2.2))) : CG P rnd (fnN P 3) 0 (codeOf P 3 [false, false, true, false, true, true, true, true]) (S_viewportlaw26StylesBest_1 x1_0 (x1_1, x1_2)) (.normal, S_viewportlaw26StylesBest_1 x1_0 (x1_1, (w64 (x1_2 + (1 : Int))))) :=
  runC_ok hm (A := aT [(5, .val (.bool true)), (12, .pur (Value.pointer (some ⟨0, ((x1_2).toNat * 4), some 1⟩))), (13, .ld (Value.agg #[(Value.int .i64 (((Args.S).getD (x1_2).toNat (0, nl0, 0, 0)).1)), (nlV (((Args.S).getD (x1_2).toNat (0, nl0, 0, 0)).2.1)), (Value.int .i64 (((Args.S).getD (x1_2).toNat (0, nl0, 0, 0)).2.2.1)), (Value.int .i64 (((Args.S).getD (x1_2).toNat (0, nl0, 0, 0)).2.2.2))])), (20, .val (.bool true)), (27, .val (.bool true)), (40, .pur (Value.slice (some ⟨1, (0 + ((maxB (0 : Int) (w64 ((((Args.Y).length : Nat) : Int) - ((((((Args.S).getD (x1_2).toNat (0, nl0, 0, 0)).2.1)).l.length : Nat) : Int))))).toNat), some 1⟩) ((Args.Y).length - ((maxB (0 : Int) (w64 ((((Args.Y).length : Nat) : Int) - ((((((Args.S).getD (x1_2).toNat (0, nl0, 0, 0)).2.1)).l.length : Nat) : Int))))).toNat) (Args.cY - ((maxB (0 : Int) (w64 ((((Args.Y).length : Nat) : Int) - ((((((Args.S).getD (x1_2).toNat (0, nl0, 0, 0)).2.1)).l.length : Nat) : Int))))).toNat))), (41, .call ⟨0, [], (V_viewportkitSameintq1 (((Args.S).getD (x1_2).toNat (0, nl0, 0, 0)).2.1) ((Args.Y).length - ((maxB (0 : Int) (w64 ((((Args.Y).length : Nat) : Int) - ((((((Args.S).getD (x1_2).toNat (0, nl0, 0, 0)).2.1)).l.length : Nat) : Int))))).toNat) (Args.cY - ((maxB (0 : Int) (w64 ((((Args.Y).length : Nat) : Int) - ((((((Args.S).getD (x1_2).toNat (0, nl0, 0, 0)).2.1)).l.length : Nat) : Int))))).toNat) (0 + ((maxB (0 : Int) (w64 ((((Args.Y).length : Nat) : Int) - ((((((Args.S).getD (x1_2).toNat (0, nl0, 0, 0)).2.1)).l.length : Nat) : Int))))).toNat) y1_6_), (R_viewportkitSameintq1 (((Args.S).getD (x1_2).toNat (0, nl0, 0, 0)).2.1) ((Args.Y).length - ((maxB (0 : Int) (w64 ((((Args.Y).length : Nat) : Int) - ((((((Args.S).getD (x1_2).toNat (0, nl0, 0, 0)).2.1)).l.length : Nat) : Int))))).toNat) (Args.cY - ((maxB (0 : Int) (w64 ((((Args.Y).length : Nat) : Int) - ((((((Args.S).getD (x1_2).toNat (0, nl0, 0, 0)).2.1)).l.length : Nat) : Int))))).toNat) (0 + ((maxB (0 : Int) (w64 ((((Args.Y).length : Nat) : Int) - ((((((Args.S).getD (x1_2).toNat (0, nl0, 0, 0)).2.1)).l.length : Nat) : Int))))).toNat) y1_6_), []⟩), (49, .call ⟨0, [], (V_stylesMatchesq1 (((Args.S).getD (x1_2).toNat (0, nl0, 0, 0)).1) (((Args.S).getD (x1_2).toNat (0, nl0, 0, 0)).2.1) (((Args.S).getD (x1_2).toNat (0, nl0, 0, 0)).2.2.1) (((Args.S).getD (x1_2).toNat (0, nl0, 0, 0)).2.2.2) x1_0 y1_7_), (R_stylesMatchesq1 (((Args.S).getD (x1_2).toNat (0, nl0, 0, 0)).1) (((Args.S).getD (x1_2).toNat (0, nl0, 0, 0)).2.1) (((Args.S).getD (x1_2).toNat (0, nl0, 0, 0)).2.2.1) (((Args.S).getD (x1_2).toNat (0, nl0, 0, 0)).2.2.2) x1_0 y1_7_), []⟩), (51, .val (.bool false)), (55, .val (.bool true)), (57, .val (.bool false)), (61, .pur (Value.pointer (some ⟨0, ((x1_1).toNat * 4), some 1⟩))), (62, .pur (Value.pointer (some ⟨0, (Nat.add ((x1_1).toNat * 4) 3), some 1⟩))), (63, .ld (Value.int .i64 (((Args.S).getD (x1_1).toNat (0, nl0, 0, 0)).2.2.2))), (66, .val (.bool false))]) (L := lT []) (wk := ⟨[0, 1, 2, 7, 8], [], 0, 0⟩)
    (ps := [(Value.bool (decide (x1_2 < (((Args.S).length : Nat) : Int)))) = (Value.bool true),
    opIndexAddr P 22 (Value.slice (some ⟨0, 0, some 1⟩) (Args.S).length Args.cS) (Value.int .i64 x1_2) Ax.h0 = some ((Value.pointer (some ⟨0, ((x1_2).toNat * 4), some 1⟩)), Ax.h0),
    loadG P 27 (Value.pointer (some ⟨0, ((x1_2).toNat * 4), some 1⟩)) Ax.h0 = some ((Value.agg #[(Value.int .i64 (((Args.S).getD (x1_2).toNat (0, nl0, 0, 0)).1)), (nlV (((Args.S).getD (x1_2).toNat (0, nl0, 0, 0)).2.1)), (Value.int .i64 (((Args.S).getD (x1_2).toNat (0, nl0, 0, 0)).2.2.1)), (Value.int .i64 (((Args.S).getD (x1_2).toNat (0, nl0, 0, 0)).2.2.2))]), Ax.h0),
    (Value.bool ((((Args.S).getD (x1_2).toNat (0, nl0, 0, 0)).1) == x1_0)) = (Value.bool true),
    (Value.bool (decide (((((((Args.S).getD (x1_2).toNat (0, nl0, 0, 0)).2.1)).l.length : Nat) : Int) ≤ (((Args.Y).length : Nat) : Int)))) = (Value.bool true),
    opSlice P 23 (Value.slice (some ⟨1, 0, some 1⟩) (Args.Y).length Args.cY) (some (Value.int .i64 (maxB (0 : Int) (w64 ((((Args.Y).length : Nat) : Int) - ((((((Args.S).getD (x1_2).toNat (0, nl0, 0, 0)).2.1)).l.length : Nat) : Int)))))) none none Ax.h0 = some ((Value.slice (some ⟨1, (0 + ((maxB (0 : Int) (w64 ((((Args.Y).length : Nat) : Int) - ((((((Args.S).getD (x1_2).toNat (0, nl0, 0, 0)).2.1)).l.length : Nat) : Int))))).toNat), some 1⟩) ((Args.Y).length - ((maxB (0 : Int) (w64 ((((Args.Y).length : Nat) : Int) - ((((((Args.S).getD (x1_2).toNat (0, nl0, 0, 0)).2.1)).l.length : Nat) : Int))))).toNat) (Args.cY - ((maxB (0 : Int) (w64 ((((Args.Y).length : Nat) : Int) - ((((((Args.S).getD (x1_2).toNat (0, nl0, 0, 0)).2.1)).l.length : Nat) : Int))))).toNat)), Ax.h0),
    Gv P (.func 7) (A_viewportkitSameintq1 (((Args.S).getD (x1_2).toNat (0, nl0, 0, 0)).2.1) ((Args.Y).length - ((maxB (0 : Int) (w64 ((((Args.Y).length : Nat) : Int) - ((((((Args.S).getD (x1_2).toNat (0, nl0, 0, 0)).2.1)).l.length : Nat) : Int))))).toNat) (Args.cY - ((maxB (0 : Int) (w64 ((((Args.Y).length : Nat) : Int) - ((((((Args.S).getD (x1_2).toNat (0, nl0, 0, 0)).2.1)).l.length : Nat) : Int))))).toNat) (0 + ((maxB (0 : Int) (w64 ((((Args.Y).length : Nat) : Int) - ((((((Args.S).getD (x1_2).toNat (0, nl0, 0, 0)).2.1)).l.length : Nat) : Int))))).toNat)) (H_viewportkitSameintq1 (((Args.S).getD (x1_2).toNat (0, nl0, 0, 0)).2.1) ((Args.Y).length - ((maxB (0 : Int) (w64 ((((Args.Y).length : Nat) : Int) - ((((((Args.S).getD (x1_2).toNat (0, nl0, 0, 0)).2.1)).l.length : Nat) : Int))))).toNat) (Args.cY - ((maxB (0 : Int) (w64 ((((Args.Y).length : Nat) : Int) - ((((((Args.S).getD (x1_2).toNat (0, nl0, 0, 0)).2.1)).l.length : Nat) : Int))))).toNat) (0 + ((maxB (0 : Int) (w64 ((((Args.Y).length : Nat) : Int) - ((((((Args.S).getD (x1_2).toNat (0, nl0, 0, 0)).2.1)).l.length : Nat) : Int))))).toNat)) (V_viewportkitSameintq1 (((Args.S).getD (x1_2).toNat (0, nl0, 0, 0)).2.1) ((Args.Y).length - ((maxB (0 : Int) (w64 ((((Args.Y).length : Nat) : Int) - ((((((Args.S).getD (x1_2).toNat (0, nl0, 0, 0)).2.1)).l.length : Nat) : Int))))).toNat) (Args.cY - ((maxB (0 : Int) (w64 ((((Args.Y).length : Nat) : Int) - ((((((Args.S).getD (x1_2).toNat (0, nl0, 0, 0)).2.1)).l.length : Nat) : Int))))).toNat) (0 + ((maxB (0 : Int) (w64 ((((Args.Y).length : Nat) : Int) - ((((((Args.S).getD (x1_2).toNat (0, nl0, 0, 0)).2.1)).l.length : Nat) : Int))))).toNat) y1_6_) (R_viewportkitSameintq1 (((Args.S).getD (x1_2).toNat (0, nl0, 0, 0)).2.1) ((Args.Y).length - ((maxB (0 : Int) (w64 ((((Args.Y).length : Nat) : Int) - ((((((Args.S).getD (x1_2).toNat (0, nl0, 0, 0)).2.1)).l.length : Nat) : Int))))).toNat) (Args.cY - ((maxB (0 : Int) (w64 ((((Args.Y).length : Nat) : Int) - ((((((Args.S).getD (x1_2).toNat (0, nl0, 0, 0)).2.1)).l.length : Nat) : Int))))).toNat) (0 + ((maxB (0 : Int) (w64 ((((Args.Y).length : Nat) : Int) - ((((((Args.S).getD (x1_2).toNat (0, nl0, 0, 0)).2.1)).l.length : Nat) : Int))))).toNat) y1_6_),
    Gv P (.func 8) (A_stylesMatchesq1 (((Args.S).getD (x1_2).toNat (0, nl0, 0, 0)).1) (((Args.S).getD (x1_2).toNat (0, nl0, 0, 0)).2.1) (((Args.S).getD (x1_2).toNat (0, nl0, 0, 0)).2.2.1) (((Args.S).getD (x1_2).toNat (0, nl0, 0, 0)).2.2.2) x1_0) (H_stylesMatchesq1 (((Args.S).getD (x1_2).toNat (0, nl0, 0, 0)).1) (((Args.S).getD (x1_2).toNat (0, nl0, 0, 0)).2.1) (((Args.S).getD (x1_2).toNat (0, nl0, 0, 0)).2.2.1) (((Args.S).getD (x1_2).toNat (0, nl0, 0, 0)).2.2.2) x1_0) (V_stylesMatchesq1 (((Args.S).getD (x1_2).toNat (0, nl0, 0, 0)).1) (((Args.S).getD (x1_2).toNat (0, nl0, 0, 0)).2.1) (((Args.S).getD (x1_2).toNat (0, nl0, 0, 0)).2.2.1) (((Args.S).getD (x1_2).toNat (0, nl0, 0, 0)).2.2.2) x1_0 y1_7_) (R_stylesMatchesq1 (((Args.S).getD (x1_2).toNat (0, nl0, 0, 0)).1) (((Args.S).getD (x1_2).toNat (0, nl0, 0, 0)).2.1) (((Args.S).getD (x1_2).toNat (0, nl0, 0, 0)).2.2.1) (((Args.S).getD (x1_2).toNat (0, nl0, 0, 0)).2.2.2) x1_0 y1_7_),
    (Value.bool (!(y1_7_ == y1_6_))) = (Value.bool false),
    (Value.bool y1_6_) = (Value.bool true),
    (Value.bool (decide (x1_1 < (0 : Int)))) = (Value.bool false),
    opIndexAddr P 22 (Value.slice (some ⟨0, 0, some 1⟩) (Args.S).length Args.cS) (Value.int .i64 x1_1) Ax.h0 = some ((Value.pointer (some ⟨0, ((x1_1).toNat * 4), some 1⟩)), Ax.h0),
    opFieldAddr P 27 (Value.pointer (some ⟨0, ((x1_1).toNat * 4), some 1⟩)) 3 Ax.h0 = some ((Value.pointer (some ⟨0, (Nat.add ((x1_1).toNat * 4) 3), some 1⟩)), Ax.h0),
    loadG P 3 (Value.pointer (some ⟨0, (Nat.add ((x1_1).toNat * 4) 3), some 1⟩)) Ax.h0 = some ((Value.int .i64 (((Args.S).getD (x1_1).toNat (0, nl0, 0, 0)).2.2.2)), Ax.h0),
    (Value.bool (decide ((((Args.S).getD (x1_1).toNat (0, nl0, 0, 0)).2.2.2) < (((Args.S).getD (x1_2).toNat (0, nl0, 0, 0)).2.2.2)))) = (Value.bool false)]) (by kernel_rfl) ⟨(vbT hy1_1), (ixW (e := 27) (by kernel_rfl) (by kernel_rfl) (hy1_2).1 (hy1_2).2), (ldWA rwf_iLii (0, nl0, 0, 0) (i := (x1_2).toNat) (q := 0) (L := Args.S) (n := 4) ((x1_2).toNat * 4) rfl rfl (by kernel_rfl) (by kernel_rfl) (toNatLt hy1_2) (by decide) rfl), (veT hy1_3), (vbT hy1_4), (slWinLo (e := 3) (by kernel_rfl) (by kernel_rfl) hy1_5), (m_viewportkitSameintq1_ok n (((Args.S).getD (x1_2).toNat (0, nl0, 0, 0)).2.1) ((Args.Y).length - ((maxB (0 : Int) (w64 ((((Args.Y).length : Nat) : Int) - ((((((Args.S).getD (x1_2).toNat (0, nl0, 0, 0)).2.1)).l.length : Nat) : Int))))).toNat) (Args.cY - ((maxB (0 : Int) (w64 ((((Args.Y).length : Nat) : Int) - ((((((Args.S).getD (x1_2).toNat (0, nl0, 0, 0)).2.1)).l.length : Nat) : Int))))).toNat) (0 + ((maxB (0 : Int) (w64 ((((Args.Y).length : Nat) : Int) - ((((((Args.S).getD (x1_2).toNat (0, nl0, 0, 0)).2.1)).l.length : Nat) : Int))))).toNat) y1_6_ hy1_6), (m_stylesMatchesq1_ok n (((Args.S).getD (x1_2).toNat (0, nl0, 0, 0)).1) (((Args.S).getD (x1_2).toNat (0, nl0, 0, 0)).2.1) (((Args.S).getD (x1_2).toNat (0, nl0, 0, 0)).2.2.1) (((Args.S).getD (x1_2).toNat (0, nl0, 0, 0)).2.2.2) x1_0 y1_7_ hy1_7), (vNeB hy1_8 hy1_9), (vB hy1_9), (vbF hy1_10), (ixW (e := 27) (by kernel_rfl) (by kernel_rfl) (hy1_11).1 (hy1_11).2), (by kernel_rfl), (ldWS rwf_iLii (0, nl0, 0, 0) (i := (x1_1).toNat) (q := 3) (L := Args.S) (Nat.add ((x1_1).toNat * 4) 3) rfl rfl (by kernel_rfl) (toNatLt hy1_11) (by decide) rfl), (vbF hy1_12), trivial⟩
set_option maxRecDepth 100000 in
theorem q_viewportlaw26StylesBest_1_3 (n : Nat) {rnd : Option Nat} (x1_0 : Int) (x1_1 : Int) (x1_2 : Int) (hy1_1 : x1_2 < (((Args.S).length : Nat) : Int)) (hy1_2 : 0 ≤ x1_2 ∧ x1_2 < (((Args.S).length : Nat) : Int)) (hy1_3 : (((Args.S).getD (x1_2).toNat (0, nl0, 0, 0)).1) = x1_0) (hy1_4 : ((((((Args.S).getD (x1_2).toNat (0, nl0, 0, 0)).2.1)).l.length : Nat) : Int) ≤ (((Args.Y).length : Nat) : Int)) (hy1_5 : 0 ≤ (maxB (0 : Int) (w64 ((((Args.Y).length : Nat) : Int) - ((((((Args.S).getD (x1_2).toNat (0, nl0, 0, 0)).2.1)).l.length : Nat) : Int)))) ∧ (maxB (0 : Int) (w64 ((((Args.Y).length : Nat) : Int) - ((((((Args.S).getD (x1_2).toNat (0, nl0, 0, 0)).2.1)).l.length : Nat) : Int)))) ≤ (((Args.Y).length : Nat) : Int)) (y1_6_ : Bool) (hy1_6 : m_viewportkitSameintq1 n (((Args.S).getD (x1_2).toNat (0, nl0, 0, 0)).2.1) ((Args.Y).length - ((maxB (0 : Int) (w64 ((((Args.Y).length : Nat) : Int) - ((((((Args.S).getD (x1_2).toNat (0, nl0, 0, 0)).2.1)).l.length : Nat) : Int))))).toNat) (Args.cY - ((maxB (0 : Int) (w64 ((((Args.Y).length : Nat) : Int) - ((((((Args.S).getD (x1_2).toNat (0, nl0, 0, 0)).2.1)).l.length : Nat) : Int))))).toNat) (0 + ((maxB (0 : Int) (w64 ((((Args.Y).length : Nat) : Int) - ((((((Args.S).getD (x1_2).toNat (0, nl0, 0, 0)).2.1)).l.length : Nat) : Int))))).toNat) = some y1_6_) (y1_7_ : Bool) (hy1_7 : m_stylesMatchesq1 n (((Args.S).getD (x1_2).toNat (0, nl0, 0, 0)).1) (((Args.S).getD (x1_2).toNat (0, nl0, 0, 0)).2.1) (((Args.S).getD (x1_2).toNat (0, nl0, 0, 0)).2.2.1) (((Args.S).getD (x1_2).toNat (0, nl0, 0, 0)).2.2.2) x1_0 = some y1_7_) (hy1_8 : ¬ (y1_7_ = true)) (hy1_9 : ¬ (y1_6_ = true)) : CG P rnd (fnN P 3) 0 (codeOf P 3 [false, false, true, false, true, true, true, true]) (S_viewportlaw26StylesBest_1 x1_0 (x1_1, x1_2)) (.normal, S_viewportlaw26StylesBest_1 x1_0 (x1_1, (w64 (x1_2 + (1 : Int))))) :=
  runC_ok hm (A := aT [(5, .val (.bool true)), (12, .pur (Value.pointer (some ⟨0, ((x1_2).toNat * 4), some 1⟩))), (13, .ld (Value.agg #[(Value.int .i64 (((Args.S).getD (x1_2).toNat (0, nl0, 0, 0)).1)), (nlV (((Args.S).getD (x1_2).toNat (0, nl0, 0, 0)).2.1)), (Value.int .i64 (((Args.S).getD (x1_2).toNat (0, nl0, 0, 0)).2.2.1)), (Value.int .i64 (((Args.S).getD (x1_2).toNat (0, nl0, 0, 0)).2.2.2))])), (20, .val (.bool true)), (27, .val (.bool true)), (40, .pur (Value.slice (some ⟨1, (0 + ((maxB (0 : Int) (w64 ((((Args.Y).length : Nat) : Int) - ((((((Args.S).getD (x1_2).toNat (0, nl0, 0, 0)).2.1)).l.length : Nat) : Int))))).toNat), some 1⟩) ((Args.Y).length - ((maxB (0 : Int) (w64 ((((Args.Y).length : Nat) : Int) - ((((((Args.S).getD (x1_2).toNat (0, nl0, 0, 0)).2.1)).l.length : Nat) : Int))))).toNat) (Args.cY - ((maxB (0 : Int) (w64 ((((Args.Y).length : Nat) : Int) - ((((((Args.S).getD (x1_2).toNat (0, nl0, 0, 0)).2.1)).l.length : Nat) : Int))))).toNat))), (41, .call ⟨0, [], (V_viewportkitSameintq1 (((Args.S).getD (x1_2).toNat (0, nl0, 0, 0)).2.1) ((Args.Y).length - ((maxB (0 : Int) (w64 ((((Args.Y).length : Nat) : Int) - ((((((Args.S).getD (x1_2).toNat (0, nl0, 0, 0)).2.1)).l.length : Nat) : Int))))).toNat) (Args.cY - ((maxB (0 : Int) (w64 ((((Args.Y).length : Nat) : Int) - ((((((Args.S).getD (x1_2).toNat (0, nl0, 0, 0)).2.1)).l.length : Nat) : Int))))).toNat) (0 + ((maxB (0 : Int) (w64 ((((Args.Y).length : Nat) : Int) - ((((((Args.S).getD (x1_2).toNat (0, nl0, 0, 0)).2.1)).l.length : Nat) : Int))))).toNat) y1_6_), (R_viewportkitSameintq1 (((Args.S).getD (x1_2).toNat (0, nl0, 0, 0)).2.1) ((Args.Y).length - ((maxB (0 : Int) (w64 ((((Args.Y).length : Nat) : Int) - ((((((Args.S).getD (x1_2).toNat (0, nl0, 0, 0)).2.1)).l.length : Nat) : Int))))).toNat) (Args.cY - ((maxB (0 : Int) (w64 ((((Args.Y).length : Nat) : Int) - ((((((Args.S).getD (x1_2).toNat (0, nl0, 0, 0)).2.1)).l.length : Nat) : Int))))).toNat) (0 + ((maxB (0 : Int) (w64 ((((Args.Y).length : Nat) : Int) - ((((((Args.S).getD (x1_2).toNat (0, nl0, 0, 0)).2.1)).l.length : Nat) : Int))))).toNat) y1_6_), []⟩), (49, .call ⟨0, [], (V_stylesMatchesq1 (((Args.S).getD (x1_2).toNat (0, nl0, 0, 0)).1) (((Args.S).getD (x1_2).toNat (0, nl0, 0, 0)).2.1) (((Args.S).getD (x1_2).toNat (0, nl0, 0, 0)).2.2.1) (((Args.S).getD (x1_2).toNat (0, nl0, 0, 0)).2.2.2) x1_0 y1_7_), (R_stylesMatchesq1 (((Args.S).getD (x1_2).toNat (0, nl0, 0, 0)).1) (((Args.S).getD (x1_2).toNat (0, nl0, 0, 0)).2.1) (((Args.S).getD (x1_2).toNat (0, nl0, 0, 0)).2.2.1) (((Args.S).getD (x1_2).toNat (0, nl0, 0, 0)).2.2.2) x1_0 y1_7_), []⟩), (51, .val (.bool false)), (55, .val (.bool false))]) (L := lT []) (wk := ⟨[0, 1, 2, 7, 8], [], 0, 0⟩)
    (ps := [(Value.bool (decide (x1_2 < (((Args.S).length : Nat) : Int)))) = (Value.bool true),
    opIndexAddr P 22 (Value.slice (some ⟨0, 0, some 1⟩) (Args.S).length Args.cS) (Value.int .i64 x1_2) Ax.h0 = some ((Value.pointer (some ⟨0, ((x1_2).toNat * 4), some 1⟩)), Ax.h0),
    loadG P 27 (Value.pointer (some ⟨0, ((x1_2).toNat * 4), some 1⟩)) Ax.h0 = some ((Value.agg #[(Value.int .i64 (((Args.S).getD (x1_2).toNat (0, nl0, 0, 0)).1)), (nlV (((Args.S).getD (x1_2).toNat (0, nl0, 0, 0)).2.1)), (Value.int .i64 (((Args.S).getD (x1_2).toNat (0, nl0, 0, 0)).2.2.1)), (Value.int .i64 (((Args.S).getD (x1_2).toNat (0, nl0, 0, 0)).2.2.2))]), Ax.h0),
    (Value.bool ((((Args.S).getD (x1_2).toNat (0, nl0, 0, 0)).1) == x1_0)) = (Value.bool true),
    (Value.bool (decide (((((((Args.S).getD (x1_2).toNat (0, nl0, 0, 0)).2.1)).l.length : Nat) : Int) ≤ (((Args.Y).length : Nat) : Int)))) = (Value.bool true),
    opSlice P 23 (Value.slice (some ⟨1, 0, some 1⟩) (Args.Y).length Args.cY) (some (Value.int .i64 (maxB (0 : Int) (w64 ((((Args.Y).length : Nat) : Int) - ((((((Args.S).getD (x1_2).toNat (0, nl0, 0, 0)).2.1)).l.length : Nat) : Int)))))) none none Ax.h0 = some ((Value.slice (some ⟨1, (0 + ((maxB (0 : Int) (w64 ((((Args.Y).length : Nat) : Int) - ((((((Args.S).getD (x1_2).toNat (0, nl0, 0, 0)).2.1)).l.length : Nat) : Int))))).toNat), some 1⟩) ((Args.Y).length - ((maxB (0 : Int) (w64 ((((Args.Y).length : Nat) : Int) - ((((((Args.S).getD (x1_2).toNat (0, nl0, 0, 0)).2.1)).l.length : Nat) : Int))))).toNat) (Args.cY - ((maxB (0 : Int) (w64 ((((Args.Y).length : Nat) : Int) - ((((((Args.S).getD (x1_2).toNat (0, nl0, 0, 0)).2.1)).l.length : Nat) : Int))))).toNat)), Ax.h0),
    Gv P (.func 7) (A_viewportkitSameintq1 (((Args.S).getD (x1_2).toNat (0, nl0, 0, 0)).2.1) ((Args.Y).length - ((maxB (0 : Int) (w64 ((((Args.Y).length : Nat) : Int) - ((((((Args.S).getD (x1_2).toNat (0, nl0, 0, 0)).2.1)).l.length : Nat) : Int))))).toNat) (Args.cY - ((maxB (0 : Int) (w64 ((((Args.Y).length : Nat) : Int) - ((((((Args.S).getD (x1_2).toNat (0, nl0, 0, 0)).2.1)).l.length : Nat) : Int))))).toNat) (0 + ((maxB (0 : Int) (w64 ((((Args.Y).length : Nat) : Int) - ((((((Args.S).getD (x1_2).toNat (0, nl0, 0, 0)).2.1)).l.length : Nat) : Int))))).toNat)) (H_viewportkitSameintq1 (((Args.S).getD (x1_2).toNat (0, nl0, 0, 0)).2.1) ((Args.Y).length - ((maxB (0 : Int) (w64 ((((Args.Y).length : Nat) : Int) - ((((((Args.S).getD (x1_2).toNat (0, nl0, 0, 0)).2.1)).l.length : Nat) : Int))))).toNat) (Args.cY - ((maxB (0 : Int) (w64 ((((Args.Y).length : Nat) : Int) - ((((((Args.S).getD (x1_2).toNat (0, nl0, 0, 0)).2.1)).l.length : Nat) : Int))))).toNat) (0 + ((maxB (0 : Int) (w64 ((((Args.Y).length : Nat) : Int) - ((((((Args.S).getD (x1_2).toNat (0, nl0, 0, 0)).2.1)).l.length : Nat) : Int))))).toNat)) (V_viewportkitSameintq1 (((Args.S).getD (x1_2).toNat (0, nl0, 0, 0)).2.1) ((Args.Y).length - ((maxB (0 : Int) (w64 ((((Args.Y).length : Nat) : Int) - ((((((Args.S).getD (x1_2).toNat (0, nl0, 0, 0)).2.1)).l.length : Nat) : Int))))).toNat) (Args.cY - ((maxB (0 : Int) (w64 ((((Args.Y).length : Nat) : Int) - ((((((Args.S).getD (x1_2).toNat (0, nl0, 0, 0)).2.1)).l.length : Nat) : Int))))).toNat) (0 + ((maxB (0 : Int) (w64 ((((Args.Y).length : Nat) : Int) - ((((((Args.S).getD (x1_2).toNat (0, nl0, 0, 0)).2.1)).l.length : Nat) : Int))))).toNat) y1_6_) (R_viewportkitSameintq1 (((Args.S).getD (x1_2).toNat (0, nl0, 0, 0)).2.1) ((Args.Y).length - ((maxB (0 : Int) (w64 ((((Args.Y).length : Nat) : Int) - ((((((Args.S).getD (x1_2).toNat (0, nl0, 0, 0)).2.1)).l.length : Nat) : Int))))).toNat) (Args.cY - ((maxB (0 : Int) (w64 ((((Args.Y).length : Nat) : Int) - ((((((Args.S).getD (x1_2).toNat (0, nl0, 0, 0)).2.1)).l.length : Nat) : Int))))).toNat) (0 + ((maxB (0 : Int) (w64 ((((Args.Y).length : Nat) : Int) - ((((((Args.S).getD (x1_2).toNat (0, nl0, 0, 0)).2.1)).l.length : Nat) : Int))))).toNat) y1_6_),
    Gv P (.func 8) (A_stylesMatchesq1 (((Args.S).getD (x1_2).toNat (0, nl0, 0, 0)).1) (((Args.S).getD (x1_2).toNat (0, nl0, 0, 0)).2.1) (((Args.S).getD (x1_2).toNat (0, nl0, 0, 0)).2.2.1) (((Args.S).getD (x1_2).toNat (0, nl0, 0, 0)).2.2.2) x1_0) (H_stylesMatchesq1 (((Args.S).getD (x1_2).toNat (0, nl0, 0, 0)).1) (((Args.S).getD (x1_2).toNat (0, nl0, 0, 0)).2.1) (((Args.S).getD (x1_2).toNat (0, nl0, 0, 0)).2.2.1) (((Args.S).getD (x1_2).toNat (0, nl0, 0, 0)).2.2.2) x1_0) (V_stylesMatchesq1 (((Args.S).getD (x1_2).toNat (0, nl0, 0, 0)).1) (((Args.S).getD (x1_2).toNat (0, nl0, 0, 0)).2.1) (((Args.S).getD (x1_2).toNat (0, nl0, 0, 0)).2.2.1) (((Args.S).getD (x1_2).toNat (0, nl0, 0, 0)).2.2.2) x1_0 y1_7_) (R_stylesMatchesq1 (((Args.S).getD (x1_2).toNat (0, nl0, 0, 0)).1) (((Args.S).getD (x1_2).toNat (0, nl0, 0, 0)).2.1) (((Args.S).getD (x1_2).toNat (0, nl0, 0, 0)).2.2.1) (((Args.S).getD (x1_2).toNat (0, nl0, 0, 0)).2.2.2) x1_0 y1_7_),
    (Value.bool (!(y1_7_ == y1_6_))) = (Value.bool false),
    (Value.bool y1_6_) = (Value.bool false)]) (by kernel_rfl) ⟨(vbT hy1_1), (ixW (e := 27) (by kernel_rfl) (by kernel_rfl) (hy1_2).1 (hy1_2).2), (ldWA rwf_iLii (0, nl0, 0, 0) (i := (x1_2).toNat) (q := 0) (L := Args.S) (n := 4) ((x1_2).toNat * 4) rfl rfl (by kernel_rfl) (by kernel_rfl) (toNatLt hy1_2) (by decide) rfl), (veT hy1_3), (vbT hy1_4), (slWinLo (e := 3) (by kernel_rfl) (by kernel_rfl) hy1_5), (m_viewportkitSameintq1_ok n (((Args.S).getD (x1_2).toNat (0, nl0, 0, 0)).2.1) ((Args.Y).length - ((maxB (0 : Int) (w64 ((((Args.Y).length : Nat) : Int) - ((((((Args.S).getD (x1_2).toNat (0, nl0, 0, 0)).2.1)).l.length : Nat) : Int))))).toNat) (Args.cY - ((maxB (0 : Int) (w64 ((((Args.Y).length : Nat) : Int) - ((((((Args.S).getD (x1_2).toNat (0, nl0, 0, 0)).2.1)).l.length : Nat) : Int))))).toNat) (0 + ((maxB (0 : Int) (w64 ((((Args.Y).length : Nat) : Int) - ((((((Args.S).getD (x1_2).toNat (0, nl0, 0, 0)).2.1)).l.length : Nat) : Int))))).toNat) y1_6_ hy1_6), (m_stylesMatchesq1_ok n (((Args.S).getD (x1_2).toNat (0, nl0, 0, 0)).1) (((Args.S).getD (x1_2).toNat (0, nl0, 0, 0)).2.1) (((Args.S).getD (x1_2).toNat (0, nl0, 0, 0)).2.2.1) (((Args.S).getD (x1_2).toNat (0, nl0, 0, 0)).2.2.2) x1_0 y1_7_ hy1_7), (vNeB (Bool.eq_false_iff.2 hy1_8) (Bool.eq_false_iff.2 hy1_9)), (vB (Bool.eq_false_iff.2 hy1_9)), trivial⟩
set_option maxRecDepth 100000 in
theorem q_viewportlaw26StylesBest_1_4 (n : Nat) {rnd : Option Nat} (x1_0 : Int) (x1_1 : Int) (x1_2 : Int) (hy1_1 : x1_2 < (((Args.S).length : Nat) : Int)) (hy1_2 : 0 ≤ x1_2 ∧ x1_2 < (((Args.S).length : Nat) : Int)) (hy1_3 : (((Args.S).getD (x1_2).toNat (0, nl0, 0, 0)).1) = x1_0) (hy1_4 : ¬ (((((((Args.S).getD (x1_2).toNat (0, nl0, 0, 0)).2.1)).l.length : Nat) : Int) ≤ (((Args.Y).length : Nat) : Int))) (y1_5_ : Bool) (hy1_5 : m_stylesMatchesq1 n (((Args.S).getD (x1_2).toNat (0, nl0, 0, 0)).1) (((Args.S).getD (x1_2).toNat (0, nl0, 0, 0)).2.1) (((Args.S).getD (x1_2).toNat (0, nl0, 0, 0)).2.2.1) (((Args.S).getD (x1_2).toNat (0, nl0, 0, 0)).2.2.2) x1_0 = some y1_5_) (hy1_6 : ¬ (y1_5_ = true)) : CG P rnd (fnN P 3) 0 (codeOf P 3 [false, false, true, false, true, true, true, true]) (S_viewportlaw26StylesBest_1 x1_0 (x1_1, x1_2)) (.normal, S_viewportlaw26StylesBest_1 x1_0 (x1_1, (w64 (x1_2 + (1 : Int))))) :=
  runC_ok hm (A := aT [(5, .val (.bool true)), (12, .pur (Value.pointer (some ⟨0, ((x1_2).toNat * 4), some 1⟩))), (13, .ld (Value.agg #[(Value.int .i64 (((Args.S).getD (x1_2).toNat (0, nl0, 0, 0)).1)), (nlV (((Args.S).getD (x1_2).toNat (0, nl0, 0, 0)).2.1)), (Value.int .i64 (((Args.S).getD (x1_2).toNat (0, nl0, 0, 0)).2.2.1)), (Value.int .i64 (((Args.S).getD (x1_2).toNat (0, nl0, 0, 0)).2.2.2))])), (20, .val (.bool true)), (27, .val (.bool false)), (49, .call ⟨0, [], (V_stylesMatchesq1 (((Args.S).getD (x1_2).toNat (0, nl0, 0, 0)).1) (((Args.S).getD (x1_2).toNat (0, nl0, 0, 0)).2.1) (((Args.S).getD (x1_2).toNat (0, nl0, 0, 0)).2.2.1) (((Args.S).getD (x1_2).toNat (0, nl0, 0, 0)).2.2.2) x1_0 y1_5_), (R_stylesMatchesq1 (((Args.S).getD (x1_2).toNat (0, nl0, 0, 0)).1) (((Args.S).getD (x1_2).toNat (0, nl0, 0, 0)).2.1) (((Args.S).getD (x1_2).toNat (0, nl0, 0, 0)).2.2.1) (((Args.S).getD (x1_2).toNat (0, nl0, 0, 0)).2.2.2) x1_0 y1_5_), []⟩), (51, .val (.bool false))]) (L := lT []) (wk := ⟨[0, 1, 2, 7, 8], [], 0, 0⟩)
    (ps := [(Value.bool (decide (x1_2 < (((Args.S).length : Nat) : Int)))) = (Value.bool true),
    opIndexAddr P 22 (Value.slice (some ⟨0, 0, some 1⟩) (Args.S).length Args.cS) (Value.int .i64 x1_2) Ax.h0 = some ((Value.pointer (some ⟨0, ((x1_2).toNat * 4), some 1⟩)), Ax.h0),
    loadG P 27 (Value.pointer (some ⟨0, ((x1_2).toNat * 4), some 1⟩)) Ax.h0 = some ((Value.agg #[(Value.int .i64 (((Args.S).getD (x1_2).toNat (0, nl0, 0, 0)).1)), (nlV (((Args.S).getD (x1_2).toNat (0, nl0, 0, 0)).2.1)), (Value.int .i64 (((Args.S).getD (x1_2).toNat (0, nl0, 0, 0)).2.2.1)), (Value.int .i64 (((Args.S).getD (x1_2).toNat (0, nl0, 0, 0)).2.2.2))]), Ax.h0),
    (Value.bool ((((Args.S).getD (x1_2).toNat (0, nl0, 0, 0)).1) == x1_0)) = (Value.bool true),
    (Value.bool (decide (((((((Args.S).getD (x1_2).toNat (0, nl0, 0, 0)).2.1)).l.length : Nat) : Int) ≤ (((Args.Y).length : Nat) : Int)))) = (Value.bool false),
    Gv P (.func 8) (A_stylesMatchesq1 (((Args.S).getD (x1_2).toNat (0, nl0, 0, 0)).1) (((Args.S).getD (x1_2).toNat (0, nl0, 0, 0)).2.1) (((Args.S).getD (x1_2).toNat (0, nl0, 0, 0)).2.2.1) (((Args.S).getD (x1_2).toNat (0, nl0, 0, 0)).2.2.2) x1_0) (H_stylesMatchesq1 (((Args.S).getD (x1_2).toNat (0, nl0, 0, 0)).1) (((Args.S).getD (x1_2).toNat (0, nl0, 0, 0)).2.1) (((Args.S).getD (x1_2).toNat (0, nl0, 0, 0)).2.2.1) (((Args.S).getD (x1_2).toNat (0, nl0, 0, 0)).2.2.2) x1_0) (V_stylesMatchesq1 (((Args.S).getD (x1_2).toNat (0, nl0, 0, 0)).1) (((Args.S).getD (x1_2).toNat (0, nl0, 0, 0)).2.1) (((Args.S).getD (x1_2).toNat (0, nl0, 0, 0)).2.2.1) (((Args.S).getD (x1_2).toNat (0, nl0, 0, 0)).2.2.2) x1_0 y1_5_) (R_stylesMatchesq1 (((Args.S).getD (x1_2).toNat (0, nl0, 0, 0)).1) (((Args.S).getD (x1_2).toNat (0, nl0, 0, 0)).2.1) (((Args.S).getD (x1_2).toNat (0, nl0, 0, 0)).2.2.1) (((Args.S).getD (x1_2).toNat (0, nl0, 0, 0)).2.2.2) x1_0 y1_5_),
    (Value.bool (!(y1_5_ == false))) = (Value.bool false)]) (by kernel_rfl) ⟨(vbT hy1_1), (ixW (e := 27) (by kernel_rfl) (by kernel_rfl) (hy1_2).1 (hy1_2).2), (ldWA rwf_iLii (0, nl0, 0, 0) (i := (x1_2).toNat) (q := 0) (L := Args.S) (n := 4) ((x1_2).toNat * 4) rfl rfl (by kernel_rfl) (by kernel_rfl) (toNatLt hy1_2) (by decide) rfl), (veT hy1_3), (vbF hy1_4), (m_stylesMatchesq1_ok n (((Args.S).getD (x1_2).toNat (0, nl0, 0, 0)).1) (((Args.S).getD (x1_2).toNat (0, nl0, 0, 0)).2.1) (((Args.S).getD (x1_2).toNat (0, nl0, 0, 0)).2.2.1) (((Args.S).getD (x1_2).toNat (0, nl0, 0, 0)).2.2.2) x1_0 y1_5_ hy1_5), (vNeB (Bool.eq_false_iff.2 hy1_6) rfl), trivial⟩
set_option maxRecDepth 100000 in
theorem q_viewportlaw26StylesBest_1_5 (n : Nat) {rnd : Option Nat} (x1_0 : Int) (x1_1 : Int) (x1_2 : Int) (hy1_1 : x1_2 < (((Args.S).length : Nat) : Int)) (hy1_2 : 0 ≤ x1_2 ∧ x1_2 < (((Args.S).length : Nat) : Int)) (hy1_3 : ¬ ((((Args.S).getD (x1_2).toNat (0, nl0, 0, 0)).1) = x1_0)) (y1_4_ : Bool) (hy1_4 : m_stylesMatchesq1 n (((Args.S).getD (x1_2).toNat (0, nl0, 0, 0)).1) (((Args.S).getD (x1_2).toNat (0, nl0, 0, 0)).2.1) (((Args.S).getD (x1_2).toNat (0, nl0, 0, 0)).2.2.1) (((Args.S).getD (x1_2).toNat (0, nl0, 0, 0)).2.2.2) x1_0 = some y1_4_) (hy1_5 : ¬ (y1_4_ = true)) : CG P rnd (fnN P 3) 0 (codeOf P 3 [false, false, true, false, true, true, true, true]) (S_viewportlaw26StylesBest_1 x1_0 (x1_1, x1_2)) (.normal, S_viewportlaw26StylesBest_1 x1_0 (x1_1, (w64 (x1_2 + (1 : Int))))) :=
  runC_ok hm (A := aT [(5, .val (.bool true)), (12, .pur (Value.pointer (some ⟨0, ((x1_2).toNat * 4), some 1⟩))), (13, .ld (Value.agg #[(Value.int .i64 (((Args.S).getD (x1_2).toNat (0, nl0, 0, 0)).1)), (nlV (((Args.S).getD (x1_2).toNat (0, nl0, 0, 0)).2.1)), (Value.int .i64 (((Args.S).getD (x1_2).toNat (0, nl0, 0, 0)).2.2.1)), (Value.int .i64 (((Args.S).getD (x1_2).toNat (0, nl0, 0, 0)).2.2.2))])), (20, .val (.bool false)), (49, .call ⟨0, [], (V_stylesMatchesq1 (((Args.S).getD (x1_2).toNat (0, nl0, 0, 0)).1) (((Args.S).getD (x1_2).toNat (0, nl0, 0, 0)).2.1) (((Args.S).getD (x1_2).toNat (0, nl0, 0, 0)).2.2.1) (((Args.S).getD (x1_2).toNat (0, nl0, 0, 0)).2.2.2) x1_0 y1_4_), (R_stylesMatchesq1 (((Args.S).getD (x1_2).toNat (0, nl0, 0, 0)).1) (((Args.S).getD (x1_2).toNat (0, nl0, 0, 0)).2.1) (((Args.S).getD (x1_2).toNat (0, nl0, 0, 0)).2.2.1) (((Args.S).getD (x1_2).toNat (0, nl0, 0, 0)).2.2.2) x1_0 y1_4_), []⟩), (51, .val (.bool false))]) (L := lT []) (wk := ⟨[0, 1, 2, 7, 8], [], 0, 0⟩)
    (ps := [(Value.bool (decide (x1_2 < (((Args.S).length : Nat) : Int)))) = (Value.bool true),
    opIndexAddr P 22 (Value.slice (some ⟨0, 0, some 1⟩) (Args.S).length Args.cS) (Value.int .i64 x1_2) Ax.h0 = some ((Value.pointer (some ⟨0, ((x1_2).toNat * 4), some 1⟩)), Ax.h0),
    loadG P 27 (Value.pointer (some ⟨0, ((x1_2).toNat * 4), some 1⟩)) Ax.h0 = some ((Value.agg #[(Value.int .i64 (((Args.S).getD (x1_2).toNat (0, nl0, 0, 0)).1)), (nlV (((Args.S).getD (x1_2).toNat (0, nl0, 0, 0)).2.1)), (Value.int .i64 (((Args.S).getD (x1_2).toNat (0, nl0, 0, 0)).2.2.1)), (Value.int .i64 (((Args.S).getD (x1_2).toNat (0, nl0, 0, 0)).2.2.2))]), Ax.h0),
    (Value.bool ((((Args.S).getD (x1_2).toNat (0, nl0, 0, 0)).1) == x1_0)) = (Value.bool false),
    Gv P (.func 8) (A_stylesMatchesq1 (((Args.S).getD (x1_2).toNat (0, nl0, 0, 0)).1) (((Args.S).getD (x1_2).toNat (0, nl0, 0, 0)).2.1) (((Args.S).getD (x1_2).toNat (0, nl0, 0, 0)).2.2.1) (((Args.S).getD (x1_2).toNat (0, nl0, 0, 0)).2.2.2) x1_0) (H_stylesMatchesq1 (((Args.S).getD (x1_2).toNat (0, nl0, 0, 0)).1) (((Args.S).getD (x1_2).toNat (0, nl0, 0, 0)).2.1) (((Args.S).getD (x1_2).toNat (0, nl0, 0, 0)).2.2.1) (((Args.S).getD (x1_2).toNat (0, nl0, 0, 0)).2.2.2) x1_0) (V_stylesMatchesq1 (((Args.S).getD (x1_2).toNat (0, nl0, 0, 0)).1) (((Args.S).getD (x1_2).toNat (0, nl0, 0, 0)).2.1) (((Args.S).getD (x1_2).toNat (0, nl0, 0, 0)).2.2.1) (((Args.S).getD (x1_2).toNat (0, nl0, 0, 0)).2.2.2) x1_0 y1_4_) (R_stylesMatchesq1 (((Args.S).getD (x1_2).toNat (0, nl0, 0, 0)).1) (((Args.S).getD (x1_2).toNat (0, nl0, 0, 0)).2.1) (((Args.S).getD (x1_2).toNat (0, nl0, 0, 0)).2.2.1) (((Args.S).getD (x1_2).toNat (0, nl0, 0, 0)).2.2.2) x1_0 y1_4_),
    (Value.bool (!(y1_4_ == false))) = (Value.bool false)]) (by kernel_rfl) ⟨(vbT hy1_1), (ixW (e := 27) (by kernel_rfl) (by kernel_rfl) (hy1_2).1 (hy1_2).2), (ldWA rwf_iLii (0, nl0, 0, 0) (i := (x1_2).toNat) (q := 0) (L := Args.S) (n := 4) ((x1_2).toNat * 4) rfl rfl (by kernel_rfl) (by kernel_rfl) (toNatLt hy1_2) (by decide) rfl), (veF hy1_3), (m_stylesMatchesq1_ok n (((Args.S).getD (x1_2).toNat (0, nl0, 0, 0)).1) (((Args.S).getD (x1_2).toNat (0, nl0, 0, 0)).2.1) (((Args.S).getD (x1_2).toNat (0, nl0, 0, 0)).2.2.1) (((Args.S).getD (x1_2).toNat (0, nl0, 0, 0)).2.2.2) x1_0 y1_4_ hy1_4), (vNeB (Bool.eq_false_iff.2 hy1_5) rfl), trivial⟩
set_option maxRecDepth 100000 in
theorem q_viewportlaw26StylesBest_1_6 (n : Nat) {rnd : Option Nat} (x1_0 : Int) (x1_1 : Int) (x1_2 : Int) (hy1_1 : ¬ (x1_2 < (((Args.S).length : Nat) : Int))) : CG P rnd (fnN P 3) 0 (codeOf P 3 [false, false, true, false, true, true, true, true]) (S_viewportlaw26StylesBest_1 x1_0 (x1_1, x1_2)) (X_viewportlaw26StylesBest_1 x1_0 x1_1) :=
  runC_ok hm (A := aT [(5, .val (.bool false))]) (L := lT []) (wk := ⟨[0, 1, 2, 7], [], 0, 0⟩)
    (ps := [(Value.bool (decide (x1_2 < (((Args.S).length : Nat) : Int)))) = (Value.bool false)]) (by kernel_rfl) ⟨(vbF hy1_1), trivial⟩
theorem m_viewportlaw26StylesBest_1_ok (n : Nat) {rnd : Option Nat} (x1_0 : Int) (st : Int × Int) (r : Int) (h : m_viewportlaw26StylesBest_1 n x1_0 st = some r) : CG P rnd (fnN P 3) 0 (codeOf P 3 [false, true, false, true, true, true, true]) (S_viewportlaw26StylesBest_1 x1_0 st) (X_viewportlaw26StylesBest_1 x1_0 r) :=
  CG.iter (b := codeOf P 3 [false, false, true, false, true, true, true, true]) (by kernel_rfl) (body := B_viewportlaw26StylesBest_1 n x1_0) (S := S_viewportlaw26StylesBest_1 x1_0) (X := X_viewportlaw26StylesBest_1 x1_0)
    (fun s s' h => by
    obtain ⟨x1_1, x1_2⟩ := s
    unfold B_viewportlaw26StylesBest_1 at h
    dsimp only at h
    by_cases hy1_1 : x1_2 < (((Args.S).length : Nat) : Int)
    · rw [if_pos hy1_1] at h
      by_cases hy1_2 : 0 ≤ x1_2 ∧ x1_2 < (((Args.S).length : Nat) : Int)
      · rw [if_pos hy1_2] at h
        by_cases hy1_3 : (((Args.S).getD (x1_2).toNat (0, nl0, 0, 0)).1) = x1_0
        · rw [if_pos hy1_3] at h
          by_cases hy1_4 : ((((((Args.S).getD (x1_2).toNat (0, nl0, 0, 0)).2.1)).l.length : Nat) : Int) ≤ (((Args.Y).length : Nat) : Int)
          · rw [if_pos hy1_4] at h
            by_cases hy1_5 : 0 ≤ (maxB (0 : Int) (w64 ((((Args.Y).length : Nat) : Int) - ((((((Args.S).getD (x1_2).toNat (0, nl0, 0, 0)).2.1)).l.length : Nat) : Int)))) ∧ (maxB (0 : Int) (w64 ((((Args.Y).length : Nat) : Int) - ((((((Args.S).getD (x1_2).toNat (0, nl0, 0, 0)).2.1)).l.length : Nat) : Int)))) ≤ (((Args.Y).length : Nat) : Int)
            · rw [if_pos hy1_5] at h
              obtain ⟨y1_6_, hy1_6, h⟩ := Option.bind_eq_some_iff.1 h
              obtain ⟨y1_7_, hy1_7, h⟩ := Option.bind_eq_some_iff.1 h
              by_cases hy1_8 : y1_7_ = true
              · rw [if_pos hy1_8] at h
                by_cases hy1_9 : y1_6_ = true
                · rw [if_pos hy1_9] at h
                  by_cases hy1_10 : x1_1 < (0 : Int)
                  · rw [if_pos hy1_10] at h
                    obtain rfl := Sum.inl.inj (Option.some.inj h); exact q_viewportlaw26StylesBest_1_0 n x1_0 x1_1 x1_2 hy1_1 hy1_2 hy1_3 hy1_4 hy1_5 y1_6_ hy1_6 y1_7_ hy1_7 hy1_8 hy1_9 hy1_10
                  · rw [if_neg hy1_10] at h
                    by_cases hy1_11 : 0 ≤ x1_1 ∧ x1_1 < (((Args.S).length : Nat) : Int)
                    · rw [if_pos hy1_11] at h
                      by_cases hy1_12 : (((Args.S).getD (x1_1).toNat (0, nl0, 0, 0)).2.2.2) < (((Args.S).getD (x1_2).toNat (0, nl0, 0, 0)).2.2.2)
                      · rw [if_pos hy1_12] at h
                        obtain rfl := Sum.inl.inj (Option.some.inj h); exact q_viewportlaw26StylesBest_1_1 n x1_0 x1_1 x1_2 hy1_1 hy1_2 hy1_3 hy1_4 hy1_5 y1_6_ hy1_6 y1_7_ hy1_7 hy1_8 hy1_9 hy1_10 hy1_11 hy1_12
                      · rw [if_neg hy1_12] at h
                        obtain rfl := Sum.inl.inj (Option.some.inj h); exact q_viewportlaw26StylesBest_1_2 n x1_0 x1_1 x1_2 hy1_1 hy1_2 hy1_3 hy1_4 hy1_5 y1_6_ hy1_6 y1_7_ hy1_7 hy1_8 hy1_9 hy1_10 hy1_11 hy1_12
                    · rw [if_neg hy1_11] at h; cases h
                · rw [if_neg hy1_9] at h
                  cases h
              · rw [if_neg hy1_8] at h
                by_cases hy1_9 : y1_6_ = true
                · rw [if_pos hy1_9] at h
                  cases h
                · rw [if_neg hy1_9] at h
                  obtain rfl := Sum.inl.inj (Option.some.inj h); exact q_viewportlaw26StylesBest_1_3 n x1_0 x1_1 x1_2 hy1_1 hy1_2 hy1_3 hy1_4 hy1_5 y1_6_ hy1_6 y1_7_ hy1_7 hy1_8 hy1_9
            · rw [if_neg hy1_5] at h; cases h
          · rw [if_neg hy1_4] at h
            obtain ⟨y1_5_, hy1_5, h⟩ := Option.bind_eq_some_iff.1 h
            by_cases hy1_6 : y1_5_ = true
            · rw [if_pos hy1_6] at h
              cases h
            · rw [if_neg hy1_6] at h
              obtain rfl := Sum.inl.inj (Option.some.inj h); exact q_viewportlaw26StylesBest_1_4 n x1_0 x1_1 x1_2 hy1_1 hy1_2 hy1_3 hy1_4 y1_5_ hy1_5 hy1_6
        · rw [if_neg hy1_3] at h
          obtain ⟨y1_4_, hy1_4, h⟩ := Option.bind_eq_some_iff.1 h
          by_cases hy1_5 : y1_4_ = true
          · rw [if_pos hy1_5] at h
            cases h
          · rw [if_neg hy1_5] at h
            obtain rfl := Sum.inl.inj (Option.some.inj h); exact q_viewportlaw26StylesBest_1_5 n x1_0 x1_1 x1_2 hy1_1 hy1_2 hy1_3 y1_4_ hy1_4 hy1_5
      · rw [if_neg hy1_2] at h; cases h
    · rw [if_neg hy1_1] at h
      cases h)
    (fun s r h => by
    obtain ⟨x1_1, x1_2⟩ := s
    unfold B_viewportlaw26StylesBest_1 at h
    dsimp only at h
    by_cases hy1_1 : x1_2 < (((Args.S).length : Nat) : Int)
    · rw [if_pos hy1_1] at h
      by_cases hy1_2 : 0 ≤ x1_2 ∧ x1_2 < (((Args.S).length : Nat) : Int)
      · rw [if_pos hy1_2] at h
        by_cases hy1_3 : (((Args.S).getD (x1_2).toNat (0, nl0, 0, 0)).1) = x1_0
        · rw [if_pos hy1_3] at h
          by_cases hy1_4 : ((((((Args.S).getD (x1_2).toNat (0, nl0, 0, 0)).2.1)).l.length : Nat) : Int) ≤ (((Args.Y).length : Nat) : Int)
          · rw [if_pos hy1_4] at h
            by_cases hy1_5 : 0 ≤ (maxB (0 : Int) (w64 ((((Args.Y).length : Nat) : Int) - ((((((Args.S).getD (x1_2).toNat (0, nl0, 0, 0)).2.1)).l.length : Nat) : Int)))) ∧ (maxB (0 : Int) (w64 ((((Args.Y).length : Nat) : Int) - ((((((Args.S).getD (x1_2).toNat (0, nl0, 0, 0)).2.1)).l.length : Nat) : Int)))) ≤ (((Args.Y).length : Nat) : Int)
            · rw [if_pos hy1_5] at h
              obtain ⟨y1_6_, hy1_6, h⟩ := Option.bind_eq_some_iff.1 h
              obtain ⟨y1_7_, hy1_7, h⟩ := Option.bind_eq_some_iff.1 h
              by_cases hy1_8 : y1_7_ = true
              · rw [if_pos hy1_8] at h
                by_cases hy1_9 : y1_6_ = true
                · rw [if_pos hy1_9] at h
                  by_cases hy1_10 : x1_1 < (0 : Int)
                  · rw [if_pos hy1_10] at h
                    cases h
                  · rw [if_neg hy1_10] at h
                    by_cases hy1_11 : 0 ≤ x1_1 ∧ x1_1 < (((Args.S).length : Nat) : Int)
                    · rw [if_pos hy1_11] at h
                      by_cases hy1_12 : (((Args.S).getD (x1_1).toNat (0, nl0, 0, 0)).2.2.2) < (((Args.S).getD (x1_2).toNat (0, nl0, 0, 0)).2.2.2)
                      · rw [if_pos hy1_12] at h
                        cases h
                      · rw [if_neg hy1_12] at h
                        cases h
                    · rw [if_neg hy1_11] at h; cases h
                · rw [if_neg hy1_9] at h
                  cases h
              · rw [if_neg hy1_8] at h
                by_cases hy1_9 : y1_6_ = true
                · rw [if_pos hy1_9] at h
                  cases h
                · rw [if_neg hy1_9] at h
                  cases h
            · rw [if_neg hy1_5] at h; cases h
          · rw [if_neg hy1_4] at h
            obtain ⟨y1_5_, hy1_5, h⟩ := Option.bind_eq_some_iff.1 h
            by_cases hy1_6 : y1_5_ = true
            · rw [if_pos hy1_6] at h
              cases h
            · rw [if_neg hy1_6] at h
              cases h
        · rw [if_neg hy1_3] at h
          obtain ⟨y1_4_, hy1_4, h⟩ := Option.bind_eq_some_iff.1 h
          by_cases hy1_5 : y1_4_ = true
          · rw [if_pos hy1_5] at h
            cases h
          · rw [if_neg hy1_5] at h
            cases h
      · rw [if_neg hy1_2] at h; cases h
    · rw [if_neg hy1_1] at h
      obtain rfl := Sum.inr.inj (Option.some.inj h); exact q_viewportlaw26StylesBest_1_6 n x1_0 x1_1 x1_2 hy1_1)
    (fun r => by intro hx; cases hx) h
noncomputable def A_viewportlaw26StylesBest (kind : Int) : List Value := [(Value.slice (some ⟨0, 0, some 1⟩) (Args.S).length Args.cS), (Value.int .i64 kind), (Value.slice (some ⟨1, 0, some 1⟩) (Args.Y).length Args.cY)]
noncomputable def H_viewportlaw26StylesBest (kind : Int) : AH := ⟨sB [], 0, 0⟩
noncomputable def V_viewportlaw26StylesBest (kind : Int) (r : Unit) : Value := match r with
  | _ => (Value.bool true)
noncomputable def R_viewportlaw26StylesBest (kind : Int) (r : Unit) : AH := match r with
  | _ => ⟨sB [], 0, 0⟩
def m_viewportlaw26StylesBest (n : Nat) (kind : Int) : Option (Unit) :=
  (m_viewportlaw26lives n).bind fun _ =>
  (m_viewportlaw26lightq1 n).bind fun c2_ =>
  if c2_ = true then
    (m_viewportlaw26StylesBest_1 n kind ((-1), 0)).bind fun c4_ =>
    if c4_ < (0 : Int) then
      (m_stylesStyleq1 n kind).bind fun c6_ =>
      if c6_ = (0 : Int) then
        some ()
      else
        none
    else
      (m_stylesStyleq1 n kind).bind fun c6_ =>
      if 0 ≤ c4_ ∧ c4_ < (((Args.S).length : Nat) : Int) then
        if c6_ = (((Args.S).getD (c4_).toNat (0, nl0, 0, 0)).2.2.1) then
          some ()
        else
          none
      else none
  else
    some ()
set_option maxRecDepth 100000 in
theorem p_viewportlaw26StylesBest_0 (n : Nat) (kind : Int) (hc1 : m_viewportlaw26lives n = some ()) (c2_ : Bool) (hc2 : m_viewportlaw26lightq1 n = some c2_) (hc3 : c2_ = true) (c4_ : Int) (hc4 : m_viewportlaw26StylesBest_1 n kind ((-1), 0) = some c4_) (hc5 : c4_ < (0 : Int)) (c6_ : Int) (hc6 : m_stylesStyleq1 n kind = some c6_) (hc7 : c6_ = (0 : Int)) : Gv P (.func 3) (A_viewportlaw26StylesBest kind) (H_viewportlaw26StylesBest kind) (V_viewportlaw26StylesBest kind ()) (R_viewportlaw26StylesBest kind ()) :=
  runF_ok hm (A := aT [(4, .call ⟨0, [], (Value.bool true), Ax.h0, []⟩), (11, .call ⟨0, [], (V_viewportlaw26lightq1  c2_), (R_viewportlaw26lightq1  c2_), []⟩), (12, .val (.bool false)), (24, .val (.bool true)), (30, .call ⟨0, [], (V_stylesStyleq1 kind c6_), (R_stylesStyleq1 kind c6_), []⟩), (31, .val (.bool true))]) (L := lT [(20, ⟨⟨[0, 1, 2, 7, 8], [], 0, 0⟩, (X_viewportlaw26StylesBest_1 kind c4_).1, (X_viewportlaw26StylesBest_1 kind c4_).2⟩)]) (wk := ⟨[6], [], 0, 0⟩)
    (ps := [Gv P (.func 5) [] Ax.h0 (Value.bool true) Ax.h0,
    Gv P (.func 6) A_viewportlaw26lightq1 H_viewportlaw26lightq1 (V_viewportlaw26lightq1  c2_) (R_viewportlaw26lightq1  c2_),
    (Value.bool (!c2_)) = (Value.bool false),
    CG P none (fnN P 3) 0 (codeOf P 3 [false, true, false, true, true, true, true]) (S_viewportlaw26StylesBest_1 kind ((-1), 0)) (X_viewportlaw26StylesBest_1 kind c4_),
    (Value.bool (decide (c4_ < (0 : Int)))) = (Value.bool true),
    Gv P (.func 9) (A_stylesStyleq1 kind) (H_stylesStyleq1 kind) (V_stylesStyleq1 kind c6_) (R_stylesStyleq1 kind c6_),
    (Value.bool (c6_ == (0 : Int))) = (Value.bool true)]) (by kernel_rfl) ⟨(m_viewportlaw26lives_ok n () hc1), (m_viewportlaw26lightq1_ok n c2_ hc2), (vBn hc3), (m_viewportlaw26StylesBest_1_ok n kind ((-1), 0) c4_ hc4), (vbT hc5), (m_stylesStyleq1_ok n kind c6_ hc6), (veT hc7), trivial⟩
set_option maxRecDepth 100000 in
theorem p_viewportlaw26StylesBest_1 (n : Nat) (kind : Int) (hc1 : m_viewportlaw26lives n = some ()) (c2_ : Bool) (hc2 : m_viewportlaw26lightq1 n = some c2_) (hc3 : c2_ = true) (c4_ : Int) (hc4 : m_viewportlaw26StylesBest_1 n kind ((-1), 0) = some c4_) (hc5 : ¬ (c4_ < (0 : Int))) (c6_ : Int) (hc6 : m_stylesStyleq1 n kind = some c6_) (hc7 : 0 ≤ c4_ ∧ c4_ < (((Args.S).length : Nat) : Int)) (hc8 : c6_ = (((Args.S).getD (c4_).toNat (0, nl0, 0, 0)).2.2.1)) : Gv P (.func 3) (A_viewportlaw26StylesBest kind) (H_viewportlaw26StylesBest kind) (V_viewportlaw26StylesBest kind ()) (R_viewportlaw26StylesBest kind ()) :=
  runF_ok hm (A := aT [(4, .call ⟨0, [], (Value.bool true), Ax.h0, []⟩), (11, .call ⟨0, [], (V_viewportlaw26lightq1  c2_), (R_viewportlaw26lightq1  c2_), []⟩), (12, .val (.bool false)), (24, .val (.bool false)), (30, .call ⟨0, [], (V_stylesStyleq1 kind c6_), (R_stylesStyleq1 kind c6_), []⟩), (33, .pur (Value.pointer (some ⟨0, ((c4_).toNat * 4), some 1⟩))), (34, .pur (Value.pointer (some ⟨0, (Nat.add ((c4_).toNat * 4) 2), some 1⟩))), (35, .ld (Value.int .i64 (((Args.S).getD (c4_).toNat (0, nl0, 0, 0)).2.2.1))), (36, .val (.bool true))]) (L := lT [(20, ⟨⟨[0, 1, 2, 7, 8], [], 0, 0⟩, (X_viewportlaw26StylesBest_1 kind c4_).1, (X_viewportlaw26StylesBest_1 kind c4_).2⟩)]) (wk := ⟨[6], [], 0, 0⟩)
    (ps := [Gv P (.func 5) [] Ax.h0 (Value.bool true) Ax.h0,
    Gv P (.func 6) A_viewportlaw26lightq1 H_viewportlaw26lightq1 (V_viewportlaw26lightq1  c2_) (R_viewportlaw26lightq1  c2_),
    (Value.bool (!c2_)) = (Value.bool false),
    CG P none (fnN P 3) 0 (codeOf P 3 [false, true, false, true, true, true, true]) (S_viewportlaw26StylesBest_1 kind ((-1), 0)) (X_viewportlaw26StylesBest_1 kind c4_),
    (Value.bool (decide (c4_ < (0 : Int)))) = (Value.bool false),
    Gv P (.func 9) (A_stylesStyleq1 kind) (H_stylesStyleq1 kind) (V_stylesStyleq1 kind c6_) (R_stylesStyleq1 kind c6_),
    opIndexAddr P 22 (Value.slice (some ⟨0, 0, some 1⟩) (Args.S).length Args.cS) (Value.int .i64 c4_) Ax.h0 = some ((Value.pointer (some ⟨0, ((c4_).toNat * 4), some 1⟩)), Ax.h0),
    opFieldAddr P 27 (Value.pointer (some ⟨0, ((c4_).toNat * 4), some 1⟩)) 2 Ax.h0 = some ((Value.pointer (some ⟨0, (Nat.add ((c4_).toNat * 4) 2), some 1⟩)), Ax.h0),
    loadG P 3 (Value.pointer (some ⟨0, (Nat.add ((c4_).toNat * 4) 2), some 1⟩)) Ax.h0 = some ((Value.int .i64 (((Args.S).getD (c4_).toNat (0, nl0, 0, 0)).2.2.1)), Ax.h0),
    (Value.bool (c6_ == (((Args.S).getD (c4_).toNat (0, nl0, 0, 0)).2.2.1))) = (Value.bool true)]) (by kernel_rfl) ⟨(m_viewportlaw26lives_ok n () hc1), (m_viewportlaw26lightq1_ok n c2_ hc2), (vBn hc3), (m_viewportlaw26StylesBest_1_ok n kind ((-1), 0) c4_ hc4), (vbF hc5), (m_stylesStyleq1_ok n kind c6_ hc6), (ixW (e := 27) (by kernel_rfl) (by kernel_rfl) (hc7).1 (hc7).2), (by kernel_rfl), (ldWS rwf_iLii (0, nl0, 0, 0) (i := (c4_).toNat) (q := 2) (L := Args.S) (Nat.add ((c4_).toNat * 4) 2) rfl rfl (by kernel_rfl) (toNatLt hc7) (by decide) rfl), (veT hc8), trivial⟩
set_option maxRecDepth 100000 in
theorem p_viewportlaw26StylesBest_2 (n : Nat) (kind : Int) (hc1 : m_viewportlaw26lives n = some ()) (c2_ : Bool) (hc2 : m_viewportlaw26lightq1 n = some c2_) (hc3 : ¬ (c2_ = true)) : Gv P (.func 3) (A_viewportlaw26StylesBest kind) (H_viewportlaw26StylesBest kind) (V_viewportlaw26StylesBest kind ()) (R_viewportlaw26StylesBest kind ()) :=
  runF_ok hm (A := aT [(4, .call ⟨0, [], (Value.bool true), Ax.h0, []⟩), (11, .call ⟨0, [], (V_viewportlaw26lightq1  c2_), (R_viewportlaw26lightq1  c2_), []⟩), (12, .val (.bool true))]) (L := lT []) (wk := ⟨[6], [], 0, 0⟩)
    (ps := [Gv P (.func 5) [] Ax.h0 (Value.bool true) Ax.h0,
    Gv P (.func 6) A_viewportlaw26lightq1 H_viewportlaw26lightq1 (V_viewportlaw26lightq1  c2_) (R_viewportlaw26lightq1  c2_),
    (Value.bool (!c2_)) = (Value.bool true)]) (by kernel_rfl) ⟨(m_viewportlaw26lives_ok n () hc1), (m_viewportlaw26lightq1_ok n c2_ hc2), (vBn (Bool.eq_false_iff.2 hc3)), trivial⟩
theorem m_viewportlaw26StylesBest_ok (n : Nat) (kind : Int) (r : Unit) (h : m_viewportlaw26StylesBest n kind = some r) : Gv P (.func 3) (A_viewportlaw26StylesBest kind) (H_viewportlaw26StylesBest kind) (V_viewportlaw26StylesBest kind r) (R_viewportlaw26StylesBest kind r) := by
  unfold m_viewportlaw26StylesBest at h
  obtain ⟨_, hc1, h⟩ := Option.bind_eq_some_iff.1 h
  obtain ⟨c2_, hc2, h⟩ := Option.bind_eq_some_iff.1 h
  by_cases hc3 : c2_ = true
  · rw [if_pos hc3] at h
    obtain ⟨c4_, hc4, h⟩ := Option.bind_eq_some_iff.1 h
    by_cases hc5 : c4_ < (0 : Int)
    · rw [if_pos hc5] at h
      obtain ⟨c6_, hc6, h⟩ := Option.bind_eq_some_iff.1 h
      by_cases hc7 : c6_ = (0 : Int)
      · rw [if_pos hc7] at h
        obtain rfl := Option.some.inj h; exact p_viewportlaw26StylesBest_0 n kind hc1 c2_ hc2 hc3 c4_ hc4 hc5 c6_ hc6 hc7
      · rw [if_neg hc7] at h
        cases h
    · rw [if_neg hc5] at h
      obtain ⟨c6_, hc6, h⟩ := Option.bind_eq_some_iff.1 h
      by_cases hc7 : 0 ≤ c4_ ∧ c4_ < (((Args.S).length : Nat) : Int)
      · rw [if_pos hc7] at h
        by_cases hc8 : c6_ = (((Args.S).getD (c4_).toNat (0, nl0, 0, 0)).2.2.1)
        · rw [if_pos hc8] at h
          obtain rfl := Option.some.inj h; exact p_viewportlaw26StylesBest_1 n kind hc1 c2_ hc2 hc3 c4_ hc4 hc5 c6_ hc6 hc7 hc8
        · rw [if_neg hc8] at h
          cases h
      · rw [if_neg hc7] at h; cases h
  · rw [if_neg hc3] at h
    obtain rfl := Option.some.inj h; exact p_viewportlaw26StylesBest_2 n kind hc1 c2_ hc2 hc3

end Go.Proofs.Ytliifcfgcfenkaa.styw
