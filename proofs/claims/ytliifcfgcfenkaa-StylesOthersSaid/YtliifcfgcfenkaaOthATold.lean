/-
  What functions do, told by pure functions. No condition.
-/
import Derived.Test.YtliifcfgcfenkaaStyOLives
set_option linter.unusedSimpArgs false
set_option linter.unusedVariables false
set_option linter.unusedSectionVars false
set_option linter.unnecessarySimpa false
namespace Go.Proofs.Ytliifcfgcfenkaa.styow
open Go Go.Proofs.Ytliifcfgcfenkaa Ax
variable [Args]
def m_viewportlaw26lives (n : Nat) : Option Unit := some ()
theorem m_viewportlaw26lives_ok (n : Nat) (r : Unit) (h : m_viewportlaw26lives n = some r) : Gv P (.func 5) [] Ax.h0 (.bool true) Ax.h0 := lives_gv

noncomputable def S_viewportkitLightStylesq1_1 (st : Int) : XSt := match st with
  | x1_0 => (sT 20 [(0, (Value.slice (some ⟨0, 0, some 1⟩) (Args.S).length Args.cS)), (3, (Value.int .i64 x1_0))], [], ⟨sB [], 0, 0⟩)
noncomputable def X_viewportkitLightStylesq1_1 (r : (Unit) ⊕ (Unit)) : Ex × XSt := match r with
  | .inl _ => (.ret, (sT 20 [(2, (Value.bool false))], [], ⟨sB [], 0, 0⟩))
  | .inr _ => (.exit 0, (sT 20 [(0, (Value.slice (some ⟨0, 0, some 1⟩) (Args.S).length Args.cS))], [], ⟨sB [], 0, 0⟩))
def B_viewportkitLightStylesq1_1 (n : Nat) (st : Int) : Option ((Int) ⊕ ((Unit) ⊕ (Unit))) := match st with
  | x1_0 =>
    if x1_0 < (((Args.S).length : Nat) : Int) then
      if 0 ≤ x1_0 ∧ x1_0 < (((Args.S).length : Nat) : Int) then
        if ((((((Args.S).getD (x1_0).toNat (0, nl0, 0, 0)).2.1)).l.length : Nat) : Int) > (20 : Int) then
          some (.inr (.inl ()))
        else
          some (.inl (w64 (x1_0 + (1 : Int))))
      else none
    else
      some (.inr (.inr ()))
def m_viewportkitLightStylesq1_1 (n : Nat) (st : Int) : Option ((Unit) ⊕ (Unit)) := iterM (B_viewportkitLightStylesq1_1 n) n st
set_option maxRecDepth 100000 in
theorem q_viewportkitLightStylesq1_1_0 (n : Nat) {rnd : Option Nat} (x1_0 : Int) (hy1_1 : x1_0 < (((Args.S).length : Nat) : Int)) (hy1_2 : 0 ≤ x1_0 ∧ x1_0 < (((Args.S).length : Nat) : Int)) (hy1_3 : ((((((Args.S).getD (x1_0).toNat (0, nl0, 0, 0)).2.1)).l.length : Nat) : Int) > (20 : Int)) : CG P rnd (fnN P 11) 0 (codeOf P 11 [false, false, true, false, true]) (S_viewportkitLightStylesq1_1 x1_0) (X_viewportkitLightStylesq1_1 (.inl ())) :=
  runC_ok hm (A := aT [(5, .val (.bool true)), (12, .pur (Value.pointer (some ⟨0, ((x1_0).toNat * 4), some 1⟩))), (13, .pur (Value.pointer (some ⟨0, (Nat.add ((x1_0).toNat * 4) 1), some 1⟩))), (14, .ld (nlV (((Args.S).getD (x1_0).toNat (0, nl0, 0, 0)).2.1))), (16, .val (.bool true))]) (L := lT []) (wk := ⟨[2], [], 0, 0⟩)
    (ps := [(Value.bool (decide (x1_0 < (((Args.S).length : Nat) : Int)))) = (Value.bool true),
    opIndexAddr P 22 (Value.slice (some ⟨0, 0, some 1⟩) (Args.S).length Args.cS) (Value.int .i64 x1_0) Ax.h0 = some ((Value.pointer (some ⟨0, ((x1_0).toNat * 4), some 1⟩)), Ax.h0),
    opFieldAddr P 27 (Value.pointer (some ⟨0, ((x1_0).toNat * 4), some 1⟩)) 1 Ax.h0 = some ((Value.pointer (some ⟨0, (Nat.add ((x1_0).toNat * 4) 1), some 1⟩)), Ax.h0),
    loadG P 23 (Value.pointer (some ⟨0, (Nat.add ((x1_0).toNat * 4) 1), some 1⟩)) Ax.h0 = some ((nlV (((Args.S).getD (x1_0).toNat (0, nl0, 0, 0)).2.1)), Ax.h0),
    (Value.bool (decide (((((((Args.S).getD (x1_0).toNat (0, nl0, 0, 0)).2.1)).l.length : Nat) : Int) > (20 : Int)))) = (Value.bool true)]) (by kernel_rfl) ⟨(vbT hy1_1), (ixW (e := 27) (by kernel_rfl) (by kernel_rfl) (hy1_2).1 (hy1_2).2), (by kernel_rfl), (ldWS rwf_iLii (0, nl0, 0, 0) (i := (x1_0).toNat) (q := 1) (L := Args.S) (Nat.add ((x1_0).toNat * 4) 1) rfl rfl (by kernel_rfl) (toNatLt hy1_2) (by decide) rfl), (vbT hy1_3), trivial⟩
set_option maxRecDepth 100000 in
theorem q_viewportkitLightStylesq1_1_1 (n : Nat) {rnd : Option Nat} (x1_0 : Int) (hy1_1 : x1_0 < (((Args.S).length : Nat) : Int)) (hy1_2 : 0 ≤ x1_0 ∧ x1_0 < (((Args.S).length : Nat) : Int)) (hy1_3 : ¬ (((((((Args.S).getD (x1_0).toNat (0, nl0, 0, 0)).2.1)).l.length : Nat) : Int) > (20 : Int))) : CG P rnd (fnN P 11) 0 (codeOf P 11 [false, false, true, false, true]) (S_viewportkitLightStylesq1_1 x1_0) (.normal, S_viewportkitLightStylesq1_1 (w64 (x1_0 + (1 : Int)))) :=
  runC_ok hm (A := aT [(5, .val (.bool true)), (12, .pur (Value.pointer (some ⟨0, ((x1_0).toNat * 4), some 1⟩))), (13, .pur (Value.pointer (some ⟨0, (Nat.add ((x1_0).toNat * 4) 1), some 1⟩))), (14, .ld (nlV (((Args.S).getD (x1_0).toNat (0, nl0, 0, 0)).2.1))), (16, .val (.bool false))]) (L := lT []) (wk := ⟨[0, 3], [], 0, 0⟩)
    (ps := [(Value.bool (decide (x1_0 < (((Args.S).length : Nat) : Int)))) = (Value.bool true),
    opIndexAddr P 22 (Value.slice (some ⟨0, 0, some 1⟩) (Args.S).length Args.cS) (Value.int .i64 x1_0) Ax.h0 = some ((Value.pointer (some ⟨0, ((x1_0).toNat * 4), some 1⟩)), Ax.h0),
    opFieldAddr P 27 (Value.pointer (some ⟨0, ((x1_0).toNat * 4), some 1⟩)) 1 Ax.h0 = some ((Value.pointer (some ⟨0, (Nat.add ((x1_0).toNat * 4) 1), some 1⟩)), Ax.h0),
    loadG P 23 (Value.pointer (some ⟨0, (Nat.add ((x1_0).toNat * 4) 1), some 1⟩)) Ax.h0 = some ((nlV (((Args.S).getD (x1_0).toNat (0, nl0, 0, 0)).2.1)), Ax.h0),
    (Value.bool (decide (((((((Args.S).getD (x1_0).toNat (0, nl0, 0, 0)).2.1)).l.length : Nat) : Int) > (20 : Int)))) = (Value.bool false)]) (by kernel_rfl) ⟨(vbT hy1_1), (ixW (e := 27) (by kernel_rfl) (by kernel_rfl) (hy1_2).1 (hy1_2).2), (by kernel_rfl), (ldWS rwf_iLii (0, nl0, 0, 0) (i := (x1_0).toNat) (q := 1) (L := Args.S) (Nat.add ((x1_0).toNat * 4) 1) rfl rfl (by kernel_rfl) (toNatLt hy1_2) (by decide) rfl), (vbF hy1_3), trivial⟩
set_option maxRecDepth 100000 in
theorem q_viewportkitLightStylesq1_1_2 (n : Nat) {rnd : Option Nat} (x1_0 : Int) (hy1_1 : ¬ (x1_0 < (((Args.S).length : Nat) : Int))) : CG P rnd (fnN P 11) 0 (codeOf P 11 [false, false, true, false, true]) (S_viewportkitLightStylesq1_1 x1_0) (X_viewportkitLightStylesq1_1 (.inr ())) :=
  runC_ok hm (A := aT [(5, .val (.bool false))]) (L := lT []) (wk := ⟨[0], [], 0, 0⟩)
    (ps := [(Value.bool (decide (x1_0 < (((Args.S).length : Nat) : Int)))) = (Value.bool false)]) (by kernel_rfl) ⟨(vbF hy1_1), trivial⟩
theorem m_viewportkitLightStylesq1_1_ok (n : Nat) {rnd : Option Nat} (st : Int) (r : (Unit) ⊕ (Unit)) (h : m_viewportkitLightStylesq1_1 n st = some r) : CG P rnd (fnN P 11) 0 (codeOf P 11 [false, true, false, true]) (S_viewportkitLightStylesq1_1 st) (X_viewportkitLightStylesq1_1 r) :=
  CG.iter (b := codeOf P 11 [false, false, true, false, true]) (by kernel_rfl) (body := B_viewportkitLightStylesq1_1 n) (S := S_viewportkitLightStylesq1_1) (X := X_viewportkitLightStylesq1_1)
    (fun x1_0 s' h => by
    unfold B_viewportkitLightStylesq1_1 at h
    dsimp only at h
    by_cases hy1_1 : x1_0 < (((Args.S).length : Nat) : Int)
    · rw [if_pos hy1_1] at h
      by_cases hy1_2 : 0 ≤ x1_0 ∧ x1_0 < (((Args.S).length : Nat) : Int)
      · rw [if_pos hy1_2] at h
        by_cases hy1_3 : ((((((Args.S).getD (x1_0).toNat (0, nl0, 0, 0)).2.1)).l.length : Nat) : Int) > (20 : Int)
        · rw [if_pos hy1_3] at h
          cases h
        · rw [if_neg hy1_3] at h
          obtain rfl := Sum.inl.inj (Option.some.inj h); exact q_viewportkitLightStylesq1_1_1 n x1_0 hy1_1 hy1_2 hy1_3
      · rw [if_neg hy1_2] at h; cases h
    · rw [if_neg hy1_1] at h
      cases h)
    (fun x1_0 r h => by
    unfold B_viewportkitLightStylesq1_1 at h
    dsimp only at h
    by_cases hy1_1 : x1_0 < (((Args.S).length : Nat) : Int)
    · rw [if_pos hy1_1] at h
      by_cases hy1_2 : 0 ≤ x1_0 ∧ x1_0 < (((Args.S).length : Nat) : Int)
      · rw [if_pos hy1_2] at h
        by_cases hy1_3 : ((((((Args.S).getD (x1_0).toNat (0, nl0, 0, 0)).2.1)).l.length : Nat) : Int) > (20 : Int)
        · rw [if_pos hy1_3] at h
          obtain rfl := Sum.inr.inj (Option.some.inj h); exact q_viewportkitLightStylesq1_1_0 n x1_0 hy1_1 hy1_2 hy1_3
        · rw [if_neg hy1_3] at h
          cases h
      · rw [if_neg hy1_2] at h; cases h
    · rw [if_neg hy1_1] at h
      obtain rfl := Sum.inr.inj (Option.some.inj h); exact q_viewportkitLightStylesq1_1_2 n x1_0 hy1_1)
    (fun r => by intro hx; rcases r with _ | _ <;> cases hx) h
noncomputable def A_viewportkitLightStylesq1 : List Value := [(Value.slice (some ⟨0, 0, some 1⟩) (Args.S).length Args.cS)]
noncomputable def H_viewportkitLightStylesq1 : AH := ⟨sB [], 0, 0⟩
noncomputable def V_viewportkitLightStylesq1 (r : Bool) : Value := match r with
  | o0 => (Value.bool o0)
noncomputable def R_viewportkitLightStylesq1 (r : Bool) : AH := match r with
  | o0 => ⟨sB [], 0, 0⟩
noncomputable abbrev G_viewportkitLightStylesq1  (r : Bool) : Prop := Gv P (.func 11) (A_viewportkitLightStylesq1 ) (H_viewportkitLightStylesq1 ) (V_viewportkitLightStylesq1  r) (R_viewportkitLightStylesq1  r)
def m_viewportkitLightStylesq1 (n : Nat) : Option (Bool) :=
  match m_viewportkitLightStylesq1_1 n 0 with
  | none => none
  | some (.inl _) =>
    some false
  | some (.inr _) =>
    if (((Args.S).length : Nat) : Int) ≤ (70 : Int) then
      some true
    else
      some false
set_option maxRecDepth 100000 in
theorem p_viewportkitLightStylesq1_0 (n : Nat) (hc1 : m_viewportkitLightStylesq1_1 n 0 = some (.inl ())) : G_viewportkitLightStylesq1  false :=
  runF_ok hm (A := aT []) (L := lT [(6, ⟨⟨[0, 3], [], 0, 0⟩, (X_viewportkitLightStylesq1_1 (.inl ())).1, (X_viewportkitLightStylesq1_1 (.inl ())).2⟩)]) (wk := ⟨[2], [], 0, 0⟩)
    (ps := [CG P none (fnN P 11) 0 (codeOf P 11 [false, true, false, true]) (S_viewportkitLightStylesq1_1 0) (X_viewportkitLightStylesq1_1 (.inl ()))]) (by kernel_rfl) ⟨(m_viewportkitLightStylesq1_1_ok n 0 (.inl ()) hc1), trivial⟩
set_option maxRecDepth 100000 in
theorem p_viewportkitLightStylesq1_1 (n : Nat) (hc1 : m_viewportkitLightStylesq1_1 n 0 = some (.inr ())) (hc2 : (((Args.S).length : Nat) : Int) ≤ (70 : Int)) : G_viewportkitLightStylesq1  true :=
  runF_ok hm (A := aT [(10, .val (.bool true))]) (L := lT [(6, ⟨⟨[0, 3], [], 0, 0⟩, (X_viewportkitLightStylesq1_1 (.inr ())).1, (X_viewportkitLightStylesq1_1 (.inr ())).2⟩)]) (wk := ⟨[2], [], 0, 0⟩)
    (ps := [CG P none (fnN P 11) 0 (codeOf P 11 [false, true, false, true]) (S_viewportkitLightStylesq1_1 0) (X_viewportkitLightStylesq1_1 (.inr ())),
    (Value.bool (decide ((((Args.S).length : Nat) : Int) ≤ (70 : Int)))) = (Value.bool true)]) (by kernel_rfl) ⟨(m_viewportkitLightStylesq1_1_ok n 0 (.inr ()) hc1), (vbT hc2), trivial⟩
set_option maxRecDepth 100000 in
theorem p_viewportkitLightStylesq1_2 (n : Nat) (hc1 : m_viewportkitLightStylesq1_1 n 0 = some (.inr ())) (hc2 : ¬ ((((Args.S).length : Nat) : Int) ≤ (70 : Int))) : G_viewportkitLightStylesq1  false :=
  runF_ok hm (A := aT [(10, .val (.bool false))]) (L := lT [(6, ⟨⟨[0, 3], [], 0, 0⟩, (X_viewportkitLightStylesq1_1 (.inr ())).1, (X_viewportkitLightStylesq1_1 (.inr ())).2⟩)]) (wk := ⟨[2], [], 0, 0⟩)
    (ps := [CG P none (fnN P 11) 0 (codeOf P 11 [false, true, false, true]) (S_viewportkitLightStylesq1_1 0) (X_viewportkitLightStylesq1_1 (.inr ())),
    (Value.bool (decide ((((Args.S).length : Nat) : Int) ≤ (70 : Int)))) = (Value.bool false)]) (by kernel_rfl) ⟨(m_viewportkitLightStylesq1_1_ok n 0 (.inr ()) hc1), (vbF hc2), trivial⟩
theorem m_viewportkitLightStylesq1_ok (n : Nat) (r : Bool) (h : m_viewportkitLightStylesq1 n = some r) : G_viewportkitLightStylesq1  r := by
  unfold m_viewportkitLightStylesq1 at h
  rcases hc1 : m_viewportkitLightStylesq1_1 n 0 with _ | (⟨⟩ | ⟨⟩)
  · rw [hc1] at h; cases h
  · rw [hc1] at h
    dsimp only at h
    obtain rfl := Option.some.inj h; exact p_viewportkitLightStylesq1_0 n hc1
  · rw [hc1] at h
    dsimp only at h
    by_cases hc2 : (((Args.S).length : Nat) : Int) ≤ (70 : Int)
    · rw [if_pos hc2] at h
      obtain rfl := Option.some.inj h; exact p_viewportkitLightStylesq1_1 n hc1 hc2
    · rw [if_neg hc2] at h
      obtain rfl := Option.some.inj h; exact p_viewportkitLightStylesq1_2 n hc1 hc2

noncomputable def S_viewportkitLightPartsq1_1 (x1_0 : Int) (st : Unit) : XSt := match st with
  | _ => (sT 66 [(0, (Value.slice none 0 0)), (1, (Value.int .i64 x1_0)), (5, (Value.int .i64 (0 : Int))), (6, (Value.int .i64 (0 : Int)))], [], ⟨sB [], 0, 0⟩)
noncomputable def X_viewportkitLightPartsq1_1 (x1_0 : Int) (r : Unit) : Ex × XSt := match r with
  | _ => (.exit 0, (sT 66 [(0, (Value.slice none 0 0)), (1, (Value.int .i64 x1_0)), (5, (Value.int .i64 (0 : Int)))], [], ⟨sB [], 0, 0⟩))
def B_viewportkitLightPartsq1_1 (n : Nat) (x1_0 : Int) (st : Unit) : Option ((Unit) ⊕ (Unit)) := match st with
  | _ =>
    some (.inr ())
def m_viewportkitLightPartsq1_1 (n : Nat) (x1_0 : Int) (st : Unit) : Option (Unit) := iterM (B_viewportkitLightPartsq1_1 n x1_0) n st
set_option maxRecDepth 100000 in
theorem q_viewportkitLightPartsq1_1_0 (n : Nat) {rnd : Option Nat} (x1_0 : Int) : CG P rnd (fnN P 12) 0 (codeOf P 12 [false, false, true, false, true, true]) (S_viewportkitLightPartsq1_1 x1_0 ()) (X_viewportkitLightPartsq1_1 x1_0 ()) :=
  runC_ok hm (A := aT []) (L := lT []) (wk := ⟨[0, 1, 5], [], 0, 0⟩)
    (ps := []) (by kernel_rfl) trivial
theorem m_viewportkitLightPartsq1_1_ok (n : Nat) {rnd : Option Nat} (x1_0 : Int) (st : Unit) (r : Unit) (h : m_viewportkitLightPartsq1_1 n x1_0 st = some r) : CG P rnd (fnN P 12) 0 (codeOf P 12 [false, true, false, true, true]) (S_viewportkitLightPartsq1_1 x1_0 st) (X_viewportkitLightPartsq1_1 x1_0 r) :=
  CG.iter (b := codeOf P 12 [false, false, true, false, true, true]) (by kernel_rfl) (body := B_viewportkitLightPartsq1_1 n x1_0) (S := S_viewportkitLightPartsq1_1 x1_0) (X := X_viewportkitLightPartsq1_1 x1_0)
    (fun s s' h => by
    unfold B_viewportkitLightPartsq1_1 at h
    dsimp only at h
    cases h)
    (fun s r h => by
    unfold B_viewportkitLightPartsq1_1 at h
    dsimp only at h
    obtain rfl := Sum.inr.inj (Option.some.inj h); exact q_viewportkitLightPartsq1_1_0 n x1_0)
    (fun r => by intro hx; cases hx) h
noncomputable def A_viewportkitLightPartsq1 (a0 : Int) : List Value := [(Value.slice none 0 0), (Value.int .i64 a0)]
noncomputable def H_viewportkitLightPartsq1 (a0 : Int) : AH := ⟨sB [], 0, 0⟩
noncomputable def V_viewportkitLightPartsq1 (a0 : Int) (r : Bool) : Value := match r with
  | o0 => (Value.bool o0)
noncomputable def R_viewportkitLightPartsq1 (a0 : Int) (r : Bool) : AH := match r with
  | o0 => ⟨sB [], 0, 0⟩
noncomputable abbrev G_viewportkitLightPartsq1 (a0 : Int) (r : Bool) : Prop := Gv P (.func 12) (A_viewportkitLightPartsq1 a0) (H_viewportkitLightPartsq1 a0) (V_viewportkitLightPartsq1 a0 r) (R_viewportkitLightPartsq1 a0 r)
def m_viewportkitLightPartsq1 (n : Nat) (a0 : Int) : Option (Bool) :=
  (m_viewportkitLightPartsq1_1 n a0 ()).bind fun _ =>
  if (0 : Int) ≤ a0 then
    if (0 : Int) ≤ (w64 ((2 : Int) * a0)) then
      some true
    else
      some false
  else
    some false
set_option maxRecDepth 100000 in
theorem p_viewportkitLightPartsq1_0 (n : Nat) (a0 : Int) (hc1 : m_viewportkitLightPartsq1_1 n a0 () = some ()) (hc2 : (0 : Int) ≤ a0) (hc3 : (0 : Int) ≤ (w64 ((2 : Int) * a0))) : G_viewportkitLightPartsq1 a0 true :=
  runF_ok hm (A := aT [(13, .val (.bool true)), (18, .val (.bool true))]) (L := lT [(8, ⟨⟨[0, 1, 5, 6], [], 0, 0⟩, (X_viewportkitLightPartsq1_1 a0 ()).1, (X_viewportkitLightPartsq1_1 a0 ()).2⟩)]) (wk := ⟨[4], [], 0, 0⟩)
    (ps := [CG P none (fnN P 12) 0 (codeOf P 12 [false, true, false, true, true]) (S_viewportkitLightPartsq1_1 a0 ()) (X_viewportkitLightPartsq1_1 a0 ()),
    (Value.bool (decide ((0 : Int) ≤ a0))) = (Value.bool true),
    (Value.bool (decide ((0 : Int) ≤ (w64 ((2 : Int) * a0))))) = (Value.bool true)]) (by kernel_rfl) ⟨(m_viewportkitLightPartsq1_1_ok n a0 () () hc1), (vbT hc2), (vbT hc3), trivial⟩
set_option maxRecDepth 100000 in
theorem p_viewportkitLightPartsq1_1 (n : Nat) (a0 : Int) (hc1 : m_viewportkitLightPartsq1_1 n a0 () = some ()) (hc2 : (0 : Int) ≤ a0) (hc3 : ¬ ((0 : Int) ≤ (w64 ((2 : Int) * a0)))) : G_viewportkitLightPartsq1 a0 false :=
  runF_ok hm (A := aT [(13, .val (.bool true)), (18, .val (.bool false))]) (L := lT [(8, ⟨⟨[0, 1, 5, 6], [], 0, 0⟩, (X_viewportkitLightPartsq1_1 a0 ()).1, (X_viewportkitLightPartsq1_1 a0 ()).2⟩)]) (wk := ⟨[4], [], 0, 0⟩)
    (ps := [CG P none (fnN P 12) 0 (codeOf P 12 [false, true, false, true, true]) (S_viewportkitLightPartsq1_1 a0 ()) (X_viewportkitLightPartsq1_1 a0 ()),
    (Value.bool (decide ((0 : Int) ≤ a0))) = (Value.bool true),
    (Value.bool (decide ((0 : Int) ≤ (w64 ((2 : Int) * a0))))) = (Value.bool false)]) (by kernel_rfl) ⟨(m_viewportkitLightPartsq1_1_ok n a0 () () hc1), (vbT hc2), (vbF hc3), trivial⟩
set_option maxRecDepth 100000 in
theorem p_viewportkitLightPartsq1_2 (n : Nat) (a0 : Int) (hc1 : m_viewportkitLightPartsq1_1 n a0 () = some ()) (hc2 : ¬ ((0 : Int) ≤ a0)) : G_viewportkitLightPartsq1 a0 false :=
  runF_ok hm (A := aT [(13, .val (.bool false))]) (L := lT [(8, ⟨⟨[0, 1, 5, 6], [], 0, 0⟩, (X_viewportkitLightPartsq1_1 a0 ()).1, (X_viewportkitLightPartsq1_1 a0 ()).2⟩)]) (wk := ⟨[4], [], 0, 0⟩)
    (ps := [CG P none (fnN P 12) 0 (codeOf P 12 [false, true, false, true, true]) (S_viewportkitLightPartsq1_1 a0 ()) (X_viewportkitLightPartsq1_1 a0 ()),
    (Value.bool (decide ((0 : Int) ≤ a0))) = (Value.bool false)]) (by kernel_rfl) ⟨(m_viewportkitLightPartsq1_1_ok n a0 () () hc1), (vbF hc2), trivial⟩
theorem m_viewportkitLightPartsq1_ok (n : Nat) (a0 : Int) (r : Bool) (h : m_viewportkitLightPartsq1 n a0 = some r) : G_viewportkitLightPartsq1 a0 r := by
  unfold m_viewportkitLightPartsq1 at h
  obtain ⟨_, hc1, h⟩ := Option.bind_eq_some_iff.1 h
  by_cases hc2 : (0 : Int) ≤ a0
  · rw [if_pos hc2] at h
    by_cases hc3 : (0 : Int) ≤ (w64 ((2 : Int) * a0))
    · rw [if_pos hc3] at h
      obtain rfl := Option.some.inj h; exact p_viewportkitLightPartsq1_0 n a0 hc1 hc2 hc3
    · rw [if_neg hc3] at h
      obtain rfl := Option.some.inj h; exact p_viewportkitLightPartsq1_1 n a0 hc1 hc2 hc3
  · rw [if_neg hc2] at h
    obtain rfl := Option.some.inj h; exact p_viewportkitLightPartsq1_2 n a0 hc1 hc2

noncomputable def A_viewportlaw26lightq1 : List Value := [(Value.slice (some ⟨0, 0, some 1⟩) (Args.S).length Args.cS), (Value.slice (some ⟨1, 0, some 1⟩) (Args.Y).length Args.cY), (Value.slice none 0 0)]
noncomputable def H_viewportlaw26lightq1 : AH := ⟨sB [], 0, 0⟩
noncomputable def V_viewportlaw26lightq1 (r : Bool) : Value := match r with
  | o0 => (Value.bool o0)
noncomputable def R_viewportlaw26lightq1 (r : Bool) : AH := match r with
  | o0 => ⟨sB [], 0, 0⟩
noncomputable abbrev G_viewportlaw26lightq1  (r : Bool) : Prop := Gv P (.func 6) (A_viewportlaw26lightq1 ) (H_viewportlaw26lightq1 ) (V_viewportlaw26lightq1  r) (R_viewportlaw26lightq1  r)
def m_viewportlaw26lightq1 (n : Nat) : Option (Bool) :=
  (m_viewportkitLightStylesq1 n).bind fun c1_ =>
  if c1_ = true then
    if (((Args.Y).length : Nat) : Int) ≤ (40 : Int) then
      (m_viewportkitLightPartsq1 n 100).bind fun c4_ =>
      some c4_
    else
      some false
  else
    some false
set_option maxRecDepth 100000 in
theorem p_viewportlaw26lightq1_0 (n : Nat) (c1_ : Bool) (hc1 : m_viewportkitLightStylesq1 n = some c1_) (hc2 : c1_ = true) (hc3 : (((Args.Y).length : Nat) : Int) ≤ (40 : Int)) (c4_ : Bool) (hc4 : m_viewportkitLightPartsq1 n 100 = some c4_) : G_viewportlaw26lightq1  c4_ :=
  runF_ok hm (A := aT [(4, .call ⟨0, [], (V_viewportkitLightStylesq1  c1_), (R_viewportkitLightStylesq1  c1_), []⟩), (5, .val (.bool true)), (8, .val (.bool true)), (12, .call ⟨0, [], (V_viewportkitLightPartsq1 100 c4_), (R_viewportkitLightPartsq1 100 c4_), []⟩)]) (L := lT []) (wk := ⟨[6], [], 0, 0⟩)
    (ps := [G_viewportkitLightStylesq1  c1_,
    (Value.bool c1_) = (Value.bool true),
    (Value.bool (decide ((((Args.Y).length : Nat) : Int) ≤ (40 : Int)))) = (Value.bool true),
    G_viewportkitLightPartsq1 100 c4_]) (by kernel_rfl) ⟨(m_viewportkitLightStylesq1_ok n c1_ hc1), (vB hc2), (vbT hc3), (m_viewportkitLightPartsq1_ok n 100 c4_ hc4), trivial⟩
set_option maxRecDepth 100000 in
theorem p_viewportlaw26lightq1_1 (n : Nat) (c1_ : Bool) (hc1 : m_viewportkitLightStylesq1 n = some c1_) (hc2 : c1_ = true) (hc3 : ¬ ((((Args.Y).length : Nat) : Int) ≤ (40 : Int))) : G_viewportlaw26lightq1  false :=
  runF_ok hm (A := aT [(4, .call ⟨0, [], (V_viewportkitLightStylesq1  c1_), (R_viewportkitLightStylesq1  c1_), []⟩), (5, .val (.bool true)), (8, .val (.bool false))]) (L := lT []) (wk := ⟨[6], [], 0, 0⟩)
    (ps := [G_viewportkitLightStylesq1  c1_,
    (Value.bool c1_) = (Value.bool true),
    (Value.bool (decide ((((Args.Y).length : Nat) : Int) ≤ (40 : Int)))) = (Value.bool false)]) (by kernel_rfl) ⟨(m_viewportkitLightStylesq1_ok n c1_ hc1), (vB hc2), (vbF hc3), trivial⟩
set_option maxRecDepth 100000 in
theorem p_viewportlaw26lightq1_2 (n : Nat) (c1_ : Bool) (hc1 : m_viewportkitLightStylesq1 n = some c1_) (hc2 : ¬ (c1_ = true)) : G_viewportlaw26lightq1  false :=
  runF_ok hm (A := aT [(4, .call ⟨0, [], (V_viewportkitLightStylesq1  c1_), (R_viewportkitLightStylesq1  c1_), []⟩), (5, .val (.bool false))]) (L := lT []) (wk := ⟨[6], [], 0, 0⟩)
    (ps := [G_viewportkitLightStylesq1  c1_,
    (Value.bool c1_) = (Value.bool false)]) (by kernel_rfl) ⟨(m_viewportkitLightStylesq1_ok n c1_ hc1), (vB (Bool.eq_false_iff.2 hc2)), trivial⟩
theorem m_viewportlaw26lightq1_ok (n : Nat) (r : Bool) (h : m_viewportlaw26lightq1 n = some r) : G_viewportlaw26lightq1  r := by
  unfold m_viewportlaw26lightq1 at h
  obtain ⟨c1_, hc1, h⟩ := Option.bind_eq_some_iff.1 h
  by_cases hc2 : c1_ = true
  · rw [if_pos hc2] at h
    by_cases hc3 : (((Args.Y).length : Nat) : Int) ≤ (40 : Int)
    · rw [if_pos hc3] at h
      obtain ⟨c4_, hc4, h⟩ := Option.bind_eq_some_iff.1 h
      obtain rfl := Option.some.inj h; exact p_viewportlaw26lightq1_0 n c1_ hc1 hc2 hc3 c4_ hc4
    · rw [if_neg hc3] at h
      obtain rfl := Option.some.inj h; exact p_viewportlaw26lightq1_1 n c1_ hc1 hc2 hc3
  · rw [if_neg hc2] at h
    obtain rfl := Option.some.inj h; exact p_viewportlaw26lightq1_2 n c1_ hc1 hc2

noncomputable def A_slicesValuesapiStyleq1 : List Value := [(Value.slice (some ⟨0, 0, some 1⟩) (Args.S).length Args.cS)]
noncomputable def H_slicesValuesapiStyleq1 : AH := ⟨sB [], 0, 0⟩
noncomputable def V_slicesValuesapiStyleq1 (r : Unit) : Value := match r with
  | _ => (Value.func (.func 18) #[] #[(Value.pointer (some ⟨0, 0, none⟩))])
noncomputable def R_slicesValuesapiStyleq1 (r : Unit) : AH := match r with
  | _ => ⟨sB [(0, (some (.cells (layT [(Value.slice (some ⟨0, 0, some 1⟩) (Args.S).length Args.cS)]) 22)))], 1, 0⟩
noncomputable abbrev G_slicesValuesapiStyleq1  (r : Unit) : Prop := Gv P (.func 15) (A_slicesValuesapiStyleq1 ) (H_slicesValuesapiStyleq1 ) (V_slicesValuesapiStyleq1  r) (R_slicesValuesapiStyleq1  r)
def m_slicesValuesapiStyleq1 (n : Nat) : Option (Unit) :=
  some ()
set_option maxRecDepth 100000 in
theorem p_slicesValuesapiStyleq1_0 (n : Nat)  : G_slicesValuesapiStyleq1  () :=
  runF_ok hm (A := aT []) (L := lT []) (wk := ⟨[2], [(0, 0, false)], 1, 0⟩)
    (ps := []) (by kernel_rfl) trivial
theorem m_slicesValuesapiStyleq1_ok (n : Nat) (r : Unit) (h : m_slicesValuesapiStyleq1 n = some r) : G_slicesValuesapiStyleq1  r := by
  unfold m_slicesValuesapiStyleq1 at h
  obtain rfl := Option.some.inj h; exact p_slicesValuesapiStyleq1_0 n

noncomputable def S_slicesEqualintintq1_1 (x1_0 : Nat) (x1_1 : Nat) (x1_2 : Nat) (x1_3 : NL) (x1_4 : Int) (st : Int) : XSt := match st with
  | x1_5 => (sT 26 [(0, (Value.slice (some ⟨1, x1_2, some 1⟩) x1_0 x1_1)), (1, (nlV x1_3)), (12, (Value.int .i64 x1_4)), (13, (Value.int .i64 x1_5))], [], ⟨sB [], 0, 0⟩)
noncomputable def X_slicesEqualintintq1_1 (x1_0 : Nat) (x1_1 : Nat) (x1_2 : Nat) (x1_3 : NL) (x1_4 : Int) (r : (Unit) ⊕ (Unit)) : Ex × XSt := match r with
  | .inl _ => (.ret, (sT 26 [(4, (Value.bool false))], [], ⟨sB [], 0, 0⟩))
  | .inr _ => (.exit 0, (sT 26 [], [], ⟨sB [], 0, 0⟩))
def B_slicesEqualintintq1_1 (n : Nat) (x1_0 : Nat) (x1_1 : Nat) (x1_2 : Nat) (x1_3 : NL) (x1_4 : Int) (st : Int) : Option ((Int) ⊕ ((Unit) ⊕ (Unit))) := match st with
  | x1_5 =>
    if x1_5 < x1_4 then
      if 0 ≤ x1_5 ∧ x1_5 < ((x1_0 : Nat) : Int) then
        if (x1_2 + (x1_5).toNat) < (Args.Y).length then
          if 0 ≤ x1_5 ∧ x1_5 < (((x1_3).l.length : Nat) : Int) then
            if (x1_5).toNat < ((x1_3).l).length then
              if ((Args.Y).getD (x1_2 + (x1_5).toNat) 0) = (((x1_3).l).getD (x1_5).toNat 0) then
                some (.inl (w64 (x1_5 + (1 : Int))))
              else
                some (.inr (.inl ()))
            else none
          else none
        else none
      else none
    else
      some (.inr (.inr ()))
def m_slicesEqualintintq1_1 (n : Nat) (x1_0 : Nat) (x1_1 : Nat) (x1_2 : Nat) (x1_3 : NL) (x1_4 : Int) (st : Int) : Option ((Unit) ⊕ (Unit)) := iterM (B_slicesEqualintintq1_1 n x1_0 x1_1 x1_2 x1_3 x1_4) n st
set_option maxRecDepth 100000 in
theorem q_slicesEqualintintq1_1_0 (n : Nat) {rnd : Option Nat} (x1_0 : Nat) (x1_1 : Nat) (x1_2 : Nat) (x1_3 : NL) (x1_4 : Int) (x1_5 : Int) (hy1_1 : x1_5 < x1_4) (hy1_2 : 0 ≤ x1_5 ∧ x1_5 < ((x1_0 : Nat) : Int)) (hy1_3 : (x1_2 + (x1_5).toNat) < (Args.Y).length) (hy1_4 : 0 ≤ x1_5 ∧ x1_5 < (((x1_3).l.length : Nat) : Int)) (hy1_5 : (x1_5).toNat < ((x1_3).l).length) (hy1_6 : ((Args.Y).getD (x1_2 + (x1_5).toNat) 0) = (((x1_3).l).getD (x1_5).toNat 0)) : CG P rnd (fnN P 17) 0 (codeOf P 17 [false, false, true, false, true, true]) (S_slicesEqualintintq1_1 x1_0 x1_1 x1_2 x1_3 x1_4 x1_5) (.normal, S_slicesEqualintintq1_1 x1_0 x1_1 x1_2 x1_3 x1_4 (w64 (x1_5 + (1 : Int)))) :=
  runC_ok hm (A := aT [(1, .val (.bool true)), (12, .pur (Value.pointer (some ⟨1, (x1_2 + (x1_5).toNat), some 1⟩))), (13, .ld (Value.int .i64 ((Args.Y).getD (x1_2 + (x1_5).toNat) 0))), (16, .pur (Value.pointer (some ⟨(Nat.add (x1_3).num 64), (x1_5).toNat, some 1⟩))), (17, .ld (Value.int .i64 (((x1_3).l).getD (x1_5).toNat 0))), (18, .val (.bool false))]) (L := lT []) (wk := ⟨[0, 1, 12, 13], [], 0, 0⟩)
    (ps := [(Value.bool (decide (x1_5 < x1_4))) = (Value.bool true),
    opIndexAddr P 23 (Value.slice (some ⟨1, x1_2, some 1⟩) x1_0 x1_1) (Value.int .i64 x1_5) Ax.h0 = some ((Value.pointer (some ⟨1, (x1_2 + (x1_5).toNat), some 1⟩)), Ax.h0),
    loadG P 3 (Value.pointer (some ⟨1, (x1_2 + (x1_5).toNat), some 1⟩)) Ax.h0 = some ((Value.int .i64 ((Args.Y).getD (x1_2 + (x1_5).toNat) 0)), Ax.h0),
    opIndexAddr P 23 (nlV x1_3) (Value.int .i64 x1_5) Ax.h0 = some ((Value.pointer (some ⟨(Nat.add (x1_3).num 64), (x1_5).toNat, some 1⟩)), Ax.h0),
    loadG P 3 (Value.pointer (some ⟨(Nat.add (x1_3).num 64), (x1_5).toNat, some 1⟩)) Ax.h0 = some ((Value.int .i64 (((x1_3).l).getD (x1_5).toNat 0)), Ax.h0),
    (Value.bool (((Args.Y).getD (x1_2 + (x1_5).toNat) 0) != (((x1_3).l).getD (x1_5).toNat 0))) = (Value.bool false)]) (by kernel_rfl) ⟨(vbT hy1_1), (ixW1O (e := 3) (by kernel_rfl) (by kernel_rfl) hy1_2), (ldW rfl (by kernel_rfl) hy1_3), (ixW1 (e := 3) (by kernel_rfl) (by kernel_rfl) hy1_4), (ldN x1_3 (by kernel_rfl) hy1_5), (vnF hy1_6), trivial⟩
set_option maxRecDepth 100000 in
theorem q_slicesEqualintintq1_1_1 (n : Nat) {rnd : Option Nat} (x1_0 : Nat) (x1_1 : Nat) (x1_2 : Nat) (x1_3 : NL) (x1_4 : Int) (x1_5 : Int) (hy1_1 : x1_5 < x1_4) (hy1_2 : 0 ≤ x1_5 ∧ x1_5 < ((x1_0 : Nat) : Int)) (hy1_3 : (x1_2 + (x1_5).toNat) < (Args.Y).length) (hy1_4 : 0 ≤ x1_5 ∧ x1_5 < (((x1_3).l.length : Nat) : Int)) (hy1_5 : (x1_5).toNat < ((x1_3).l).length) (hy1_6 : ¬ (((Args.Y).getD (x1_2 + (x1_5).toNat) 0) = (((x1_3).l).getD (x1_5).toNat 0))) : CG P rnd (fnN P 17) 0 (codeOf P 17 [false, false, true, false, true, true]) (S_slicesEqualintintq1_1 x1_0 x1_1 x1_2 x1_3 x1_4 x1_5) (X_slicesEqualintintq1_1 x1_0 x1_1 x1_2 x1_3 x1_4 (.inl ())) :=
  runC_ok hm (A := aT [(1, .val (.bool true)), (12, .pur (Value.pointer (some ⟨1, (x1_2 + (x1_5).toNat), some 1⟩))), (13, .ld (Value.int .i64 ((Args.Y).getD (x1_2 + (x1_5).toNat) 0))), (16, .pur (Value.pointer (some ⟨(Nat.add (x1_3).num 64), (x1_5).toNat, some 1⟩))), (17, .ld (Value.int .i64 (((x1_3).l).getD (x1_5).toNat 0))), (18, .val (.bool true))]) (L := lT []) (wk := ⟨[4], [], 0, 0⟩)
    (ps := [(Value.bool (decide (x1_5 < x1_4))) = (Value.bool true),
    opIndexAddr P 23 (Value.slice (some ⟨1, x1_2, some 1⟩) x1_0 x1_1) (Value.int .i64 x1_5) Ax.h0 = some ((Value.pointer (some ⟨1, (x1_2 + (x1_5).toNat), some 1⟩)), Ax.h0),
    loadG P 3 (Value.pointer (some ⟨1, (x1_2 + (x1_5).toNat), some 1⟩)) Ax.h0 = some ((Value.int .i64 ((Args.Y).getD (x1_2 + (x1_5).toNat) 0)), Ax.h0),
    opIndexAddr P 23 (nlV x1_3) (Value.int .i64 x1_5) Ax.h0 = some ((Value.pointer (some ⟨(Nat.add (x1_3).num 64), (x1_5).toNat, some 1⟩)), Ax.h0),
    loadG P 3 (Value.pointer (some ⟨(Nat.add (x1_3).num 64), (x1_5).toNat, some 1⟩)) Ax.h0 = some ((Value.int .i64 (((x1_3).l).getD (x1_5).toNat 0)), Ax.h0),
    (Value.bool (((Args.Y).getD (x1_2 + (x1_5).toNat) 0) != (((x1_3).l).getD (x1_5).toNat 0))) = (Value.bool true)]) (by kernel_rfl) ⟨(vbT hy1_1), (ixW1O (e := 3) (by kernel_rfl) (by kernel_rfl) hy1_2), (ldW rfl (by kernel_rfl) hy1_3), (ixW1 (e := 3) (by kernel_rfl) (by kernel_rfl) hy1_4), (ldN x1_3 (by kernel_rfl) hy1_5), (vnT hy1_6), trivial⟩
set_option maxRecDepth 100000 in
theorem q_slicesEqualintintq1_1_2 (n : Nat) {rnd : Option Nat} (x1_0 : Nat) (x1_1 : Nat) (x1_2 : Nat) (x1_3 : NL) (x1_4 : Int) (x1_5 : Int) (hy1_1 : ¬ (x1_5 < x1_4)) : CG P rnd (fnN P 17) 0 (codeOf P 17 [false, false, true, false, true, true]) (S_slicesEqualintintq1_1 x1_0 x1_1 x1_2 x1_3 x1_4 x1_5) (X_slicesEqualintintq1_1 x1_0 x1_1 x1_2 x1_3 x1_4 (.inr ())) :=
  runC_ok hm (A := aT [(1, .val (.bool false))]) (L := lT []) (wk := ⟨[], [], 0, 0⟩)
    (ps := [(Value.bool (decide (x1_5 < x1_4))) = (Value.bool false)]) (by kernel_rfl) ⟨(vbF hy1_1), trivial⟩
theorem m_slicesEqualintintq1_1_ok (n : Nat) {rnd : Option Nat} (x1_0 : Nat) (x1_1 : Nat) (x1_2 : Nat) (x1_3 : NL) (x1_4 : Int) (st : Int) (r : (Unit) ⊕ (Unit)) (h : m_slicesEqualintintq1_1 n x1_0 x1_1 x1_2 x1_3 x1_4 st = some r) : CG P rnd (fnN P 17) 0 (codeOf P 17 [false, true, false, true, true]) (S_slicesEqualintintq1_1 x1_0 x1_1 x1_2 x1_3 x1_4 st) (X_slicesEqualintintq1_1 x1_0 x1_1 x1_2 x1_3 x1_4 r) :=
  CG.iter (b := codeOf P 17 [false, false, true, false, true, true]) (by kernel_rfl) (body := B_slicesEqualintintq1_1 n x1_0 x1_1 x1_2 x1_3 x1_4) (S := S_slicesEqualintintq1_1 x1_0 x1_1 x1_2 x1_3 x1_4) (X := X_slicesEqualintintq1_1 x1_0 x1_1 x1_2 x1_3 x1_4)
    (fun x1_5 s' h => by
    unfold B_slicesEqualintintq1_1 at h
    dsimp only at h
    by_cases hy1_1 : x1_5 < x1_4
    · rw [if_pos hy1_1] at h
      by_cases hy1_2 : 0 ≤ x1_5 ∧ x1_5 < ((x1_0 : Nat) : Int)
      · rw [if_pos hy1_2] at h
        by_cases hy1_3 : (x1_2 + (x1_5).toNat) < (Args.Y).length
        · rw [if_pos hy1_3] at h
          by_cases hy1_4 : 0 ≤ x1_5 ∧ x1_5 < (((x1_3).l.length : Nat) : Int)
          · rw [if_pos hy1_4] at h
            by_cases hy1_5 : (x1_5).toNat < ((x1_3).l).length
            · rw [if_pos hy1_5] at h
              by_cases hy1_6 : ((Args.Y).getD (x1_2 + (x1_5).toNat) 0) = (((x1_3).l).getD (x1_5).toNat 0)
              · rw [if_pos hy1_6] at h
                obtain rfl := Sum.inl.inj (Option.some.inj h); exact q_slicesEqualintintq1_1_0 n x1_0 x1_1 x1_2 x1_3 x1_4 x1_5 hy1_1 hy1_2 hy1_3 hy1_4 hy1_5 hy1_6
              · rw [if_neg hy1_6] at h
                cases h
            · rw [if_neg hy1_5] at h; cases h
          · rw [if_neg hy1_4] at h; cases h
        · rw [if_neg hy1_3] at h; cases h
      · rw [if_neg hy1_2] at h; cases h
    · rw [if_neg hy1_1] at h
      cases h)
    (fun x1_5 r h => by
    unfold B_slicesEqualintintq1_1 at h
    dsimp only at h
    by_cases hy1_1 : x1_5 < x1_4
    · rw [if_pos hy1_1] at h
      by_cases hy1_2 : 0 ≤ x1_5 ∧ x1_5 < ((x1_0 : Nat) : Int)
      · rw [if_pos hy1_2] at h
        by_cases hy1_3 : (x1_2 + (x1_5).toNat) < (Args.Y).length
        · rw [if_pos hy1_3] at h
          by_cases hy1_4 : 0 ≤ x1_5 ∧ x1_5 < (((x1_3).l.length : Nat) : Int)
          · rw [if_pos hy1_4] at h
            by_cases hy1_5 : (x1_5).toNat < ((x1_3).l).length
            · rw [if_pos hy1_5] at h
              by_cases hy1_6 : ((Args.Y).getD (x1_2 + (x1_5).toNat) 0) = (((x1_3).l).getD (x1_5).toNat 0)
              · rw [if_pos hy1_6] at h
                cases h
              · rw [if_neg hy1_6] at h
                obtain rfl := Sum.inr.inj (Option.some.inj h); exact q_slicesEqualintintq1_1_1 n x1_0 x1_1 x1_2 x1_3 x1_4 x1_5 hy1_1 hy1_2 hy1_3 hy1_4 hy1_5 hy1_6
            · rw [if_neg hy1_5] at h; cases h
          · rw [if_neg hy1_4] at h; cases h
        · rw [if_neg hy1_3] at h; cases h
      · rw [if_neg hy1_2] at h; cases h
    · rw [if_neg hy1_1] at h
      obtain rfl := Sum.inr.inj (Option.some.inj h); exact q_slicesEqualintintq1_1_2 n x1_0 x1_1 x1_2 x1_3 x1_4 x1_5 hy1_1)
    (fun r => by intro hx; rcases r with _ | _ <;> cases hx) h
noncomputable def A_slicesEqualintintq1 (a0 : Nat) (a1 : Nat) (a2 : Nat) (a3 : NL) : List Value := [(Value.slice (some ⟨1, a2, some 1⟩) a0 a1), (nlV a3)]
noncomputable def H_slicesEqualintintq1 (a0 : Nat) (a1 : Nat) (a2 : Nat) (a3 : NL) : AH := ⟨sB [], 0, 0⟩
noncomputable def V_slicesEqualintintq1 (a0 : Nat) (a1 : Nat) (a2 : Nat) (a3 : NL) (r : Bool) : Value := match r with
  | o0 => (Value.bool o0)
noncomputable def R_slicesEqualintintq1 (a0 : Nat) (a1 : Nat) (a2 : Nat) (a3 : NL) (r : Bool) : AH := match r with
  | o0 => ⟨sB [], 0, 0⟩
noncomputable abbrev G_slicesEqualintintq1 (a0 : Nat) (a1 : Nat) (a2 : Nat) (a3 : NL) (r : Bool) : Prop := Gv P (.func 17) (A_slicesEqualintintq1 a0 a1 a2 a3) (H_slicesEqualintintq1 a0 a1 a2 a3) (V_slicesEqualintintq1 a0 a1 a2 a3 r) (R_slicesEqualintintq1 a0 a1 a2 a3 r)
def m_slicesEqualintintq1 (n : Nat) (a0 : Nat) (a1 : Nat) (a2 : Nat) (a3 : NL) : Option (Bool) :=
  if ((a0 : Nat) : Int) = (((a3).l.length : Nat) : Int) then
    match m_slicesEqualintintq1_1 n a0 a1 a2 a3 ((a0 : Nat) : Int) 0 with
    | none => none
    | some (.inl _) =>
      some false
    | some (.inr _) =>
      some true
  else
    some false
set_option maxRecDepth 100000 in
theorem p_slicesEqualintintq1_0 (n : Nat) (a0 : Nat) (a1 : Nat) (a2 : Nat) (a3 : NL) (hc1 : ((a0 : Nat) : Int) = (((a3).l.length : Nat) : Int)) (hc2 : m_slicesEqualintintq1_1 n a0 a1 a2 a3 ((a0 : Nat) : Int) 0 = some (.inl ())) : G_slicesEqualintintq1 a0 a1 a2 a3 false :=
  runF_ok hm (A := aT [(8, .val (.bool false))]) (L := lT [(16, ⟨⟨[0, 1, 12, 13], [], 0, 0⟩, (X_slicesEqualintintq1_1 a0 a1 a2 a3 ((a0 : Nat) : Int) (.inl ())).1, (X_slicesEqualintintq1_1 a0 a1 a2 a3 ((a0 : Nat) : Int) (.inl ())).2⟩)]) (wk := ⟨[4], [], 0, 0⟩)
    (ps := [(Value.bool (((a0 : Nat) : Int) != (((a3).l.length : Nat) : Int))) = (Value.bool false),
    CG P none (fnN P 17) 0 (codeOf P 17 [false, true, false, true, true]) (S_slicesEqualintintq1_1 a0 a1 a2 a3 ((a0 : Nat) : Int) 0) (X_slicesEqualintintq1_1 a0 a1 a2 a3 ((a0 : Nat) : Int) (.inl ()))]) (by kernel_rfl) ⟨(vnF hc1), (m_slicesEqualintintq1_1_ok n a0 a1 a2 a3 ((a0 : Nat) : Int) 0 (.inl ()) hc2), trivial⟩
set_option maxRecDepth 100000 in
theorem p_slicesEqualintintq1_1 (n : Nat) (a0 : Nat) (a1 : Nat) (a2 : Nat) (a3 : NL) (hc1 : ((a0 : Nat) : Int) = (((a3).l.length : Nat) : Int)) (hc2 : m_slicesEqualintintq1_1 n a0 a1 a2 a3 ((a0 : Nat) : Int) 0 = some (.inr ())) : G_slicesEqualintintq1 a0 a1 a2 a3 true :=
  runF_ok hm (A := aT [(8, .val (.bool false))]) (L := lT [(16, ⟨⟨[0, 1, 12, 13], [], 0, 0⟩, (X_slicesEqualintintq1_1 a0 a1 a2 a3 ((a0 : Nat) : Int) (.inr ())).1, (X_slicesEqualintintq1_1 a0 a1 a2 a3 ((a0 : Nat) : Int) (.inr ())).2⟩)]) (wk := ⟨[4], [], 0, 0⟩)
    (ps := [(Value.bool (((a0 : Nat) : Int) != (((a3).l.length : Nat) : Int))) = (Value.bool false),
    CG P none (fnN P 17) 0 (codeOf P 17 [false, true, false, true, true]) (S_slicesEqualintintq1_1 a0 a1 a2 a3 ((a0 : Nat) : Int) 0) (X_slicesEqualintintq1_1 a0 a1 a2 a3 ((a0 : Nat) : Int) (.inr ()))]) (by kernel_rfl) ⟨(vnF hc1), (m_slicesEqualintintq1_1_ok n a0 a1 a2 a3 ((a0 : Nat) : Int) 0 (.inr ()) hc2), trivial⟩
set_option maxRecDepth 100000 in
theorem p_slicesEqualintintq1_2 (n : Nat) (a0 : Nat) (a1 : Nat) (a2 : Nat) (a3 : NL) (hc1 : ¬ (((a0 : Nat) : Int) = (((a3).l.length : Nat) : Int))) : G_slicesEqualintintq1 a0 a1 a2 a3 false :=
  runF_ok hm (A := aT [(8, .val (.bool true))]) (L := lT []) (wk := ⟨[4], [], 0, 0⟩)
    (ps := [(Value.bool (((a0 : Nat) : Int) != (((a3).l.length : Nat) : Int))) = (Value.bool true)]) (by kernel_rfl) ⟨(vnT hc1), trivial⟩
theorem m_slicesEqualintintq1_ok (n : Nat) (a0 : Nat) (a1 : Nat) (a2 : Nat) (a3 : NL) (r : Bool) (h : m_slicesEqualintintq1 n a0 a1 a2 a3 = some r) : G_slicesEqualintintq1 a0 a1 a2 a3 r := by
  unfold m_slicesEqualintintq1 at h
  by_cases hc1 : ((a0 : Nat) : Int) = (((a3).l.length : Nat) : Int)
  · rw [if_pos hc1] at h
    rcases hc2 : m_slicesEqualintintq1_1 n a0 a1 a2 a3 ((a0 : Nat) : Int) 0 with _ | (⟨⟩ | ⟨⟩)
    · rw [hc2] at h; cases h
    · rw [hc2] at h
      dsimp only at h
      obtain rfl := Option.some.inj h; exact p_slicesEqualintintq1_0 n a0 a1 a2 a3 hc1 hc2
    · rw [hc2] at h
      dsimp only at h
      obtain rfl := Option.some.inj h; exact p_slicesEqualintintq1_1 n a0 a1 a2 a3 hc1 hc2
  · rw [if_neg hc1] at h
    obtain rfl := Option.some.inj h; exact p_slicesEqualintintq1_2 n a0 a1 a2 a3 hc1

noncomputable def A_stylesendsWithintq1 (a0 : NL) : List Value := [(Value.slice (some ⟨1, 0, some 1⟩) (Args.Y).length Args.cY), (nlV a0)]
noncomputable def H_stylesendsWithintq1 (a0 : NL) : AH := ⟨sB [], 0, 0⟩
noncomputable def V_stylesendsWithintq1 (a0 : NL) (r : Bool) : Value := match r with
  | o0 => (Value.bool o0)
noncomputable def R_stylesendsWithintq1 (a0 : NL) (r : Bool) : AH := match r with
  | o0 => ⟨sB [], 0, 0⟩
noncomputable abbrev G_stylesendsWithintq1 (a0 : NL) (r : Bool) : Prop := Gv P (.func 13) (A_stylesendsWithintq1 a0) (H_stylesendsWithintq1 a0) (V_stylesendsWithintq1 a0 r) (R_stylesendsWithintq1 a0 r)
def m_stylesendsWithintq1 (n : Nat) (a0 : NL) : Option (Bool) :=
  if (((a0).l.length : Nat) : Int) ≤ (((Args.Y).length : Nat) : Int) then
    if 0 ≤ (w64 ((((Args.Y).length : Nat) : Int) - (((a0).l.length : Nat) : Int))) ∧ (w64 ((((Args.Y).length : Nat) : Int) - (((a0).l.length : Nat) : Int))) ≤ (((Args.Y).length : Nat) : Int) then
      (m_slicesEqualintintq1 n ((Args.Y).length - ((w64 ((((Args.Y).length : Nat) : Int) - (((a0).l.length : Nat) : Int)))).toNat) (Args.cY - ((w64 ((((Args.Y).length : Nat) : Int) - (((a0).l.length : Nat) : Int)))).toNat) (0 + ((w64 ((((Args.Y).length : Nat) : Int) - (((a0).l.length : Nat) : Int)))).toNat) a0).bind fun c3_ =>
      some c3_
    else none
  else
    some false
set_option maxRecDepth 100000 in
theorem p_stylesendsWithintq1_0 (n : Nat) (a0 : NL) (hc1 : (((a0).l.length : Nat) : Int) ≤ (((Args.Y).length : Nat) : Int)) (hc2 : 0 ≤ (w64 ((((Args.Y).length : Nat) : Int) - (((a0).l.length : Nat) : Int))) ∧ (w64 ((((Args.Y).length : Nat) : Int) - (((a0).l.length : Nat) : Int))) ≤ (((Args.Y).length : Nat) : Int)) (c3_ : Bool) (hc3 : m_slicesEqualintintq1 n ((Args.Y).length - ((w64 ((((Args.Y).length : Nat) : Int) - (((a0).l.length : Nat) : Int)))).toNat) (Args.cY - ((w64 ((((Args.Y).length : Nat) : Int) - (((a0).l.length : Nat) : Int)))).toNat) (0 + ((w64 ((((Args.Y).length : Nat) : Int) - (((a0).l.length : Nat) : Int)))).toNat) a0 = some c3_) : G_stylesendsWithintq1 a0 c3_ :=
  runF_ok hm (A := aT [(7, .val (.bool true)), (15, .pur (Value.slice (some ⟨1, (0 + ((w64 ((((Args.Y).length : Nat) : Int) - (((a0).l.length : Nat) : Int)))).toNat), some 1⟩) ((Args.Y).length - ((w64 ((((Args.Y).length : Nat) : Int) - (((a0).l.length : Nat) : Int)))).toNat) (Args.cY - ((w64 ((((Args.Y).length : Nat) : Int) - (((a0).l.length : Nat) : Int)))).toNat))), (17, .call ⟨0, [], (V_slicesEqualintintq1 ((Args.Y).length - ((w64 ((((Args.Y).length : Nat) : Int) - (((a0).l.length : Nat) : Int)))).toNat) (Args.cY - ((w64 ((((Args.Y).length : Nat) : Int) - (((a0).l.length : Nat) : Int)))).toNat) (0 + ((w64 ((((Args.Y).length : Nat) : Int) - (((a0).l.length : Nat) : Int)))).toNat) a0 c3_), (R_slicesEqualintintq1 ((Args.Y).length - ((w64 ((((Args.Y).length : Nat) : Int) - (((a0).l.length : Nat) : Int)))).toNat) (Args.cY - ((w64 ((((Args.Y).length : Nat) : Int) - (((a0).l.length : Nat) : Int)))).toNat) (0 + ((w64 ((((Args.Y).length : Nat) : Int) - (((a0).l.length : Nat) : Int)))).toNat) a0 c3_), []⟩)]) (L := lT []) (wk := ⟨[4], [], 0, 0⟩)
    (ps := [(Value.bool (decide ((((a0).l.length : Nat) : Int) ≤ (((Args.Y).length : Nat) : Int)))) = (Value.bool true),
    opSlice P 23 (Value.slice (some ⟨1, 0, some 1⟩) (Args.Y).length Args.cY) (some (Value.int .i64 (w64 ((((Args.Y).length : Nat) : Int) - (((a0).l.length : Nat) : Int))))) none none Ax.h0 = some ((Value.slice (some ⟨1, (0 + ((w64 ((((Args.Y).length : Nat) : Int) - (((a0).l.length : Nat) : Int)))).toNat), some 1⟩) ((Args.Y).length - ((w64 ((((Args.Y).length : Nat) : Int) - (((a0).l.length : Nat) : Int)))).toNat) (Args.cY - ((w64 ((((Args.Y).length : Nat) : Int) - (((a0).l.length : Nat) : Int)))).toNat)), Ax.h0),
    G_slicesEqualintintq1 ((Args.Y).length - ((w64 ((((Args.Y).length : Nat) : Int) - (((a0).l.length : Nat) : Int)))).toNat) (Args.cY - ((w64 ((((Args.Y).length : Nat) : Int) - (((a0).l.length : Nat) : Int)))).toNat) (0 + ((w64 ((((Args.Y).length : Nat) : Int) - (((a0).l.length : Nat) : Int)))).toNat) a0 c3_]) (by kernel_rfl) ⟨(vbT hc1), (slWinLo (e := 3) (by kernel_rfl) (by kernel_rfl) hc2), (m_slicesEqualintintq1_ok n ((Args.Y).length - ((w64 ((((Args.Y).length : Nat) : Int) - (((a0).l.length : Nat) : Int)))).toNat) (Args.cY - ((w64 ((((Args.Y).length : Nat) : Int) - (((a0).l.length : Nat) : Int)))).toNat) (0 + ((w64 ((((Args.Y).length : Nat) : Int) - (((a0).l.length : Nat) : Int)))).toNat) a0 c3_ hc3), trivial⟩
set_option maxRecDepth 100000 in
theorem p_stylesendsWithintq1_1 (n : Nat) (a0 : NL) (hc1 : ¬ ((((a0).l.length : Nat) : Int) ≤ (((Args.Y).length : Nat) : Int))) : G_stylesendsWithintq1 a0 false :=
  runF_ok hm (A := aT [(7, .val (.bool false))]) (L := lT []) (wk := ⟨[4], [], 0, 0⟩)
    (ps := [(Value.bool (decide ((((a0).l.length : Nat) : Int) ≤ (((Args.Y).length : Nat) : Int)))) = (Value.bool false)]) (by kernel_rfl) ⟨(vbF hc1), trivial⟩
theorem m_stylesendsWithintq1_ok (n : Nat) (a0 : NL) (r : Bool) (h : m_stylesendsWithintq1 n a0 = some r) : G_stylesendsWithintq1 a0 r := by
  unfold m_stylesendsWithintq1 at h
  by_cases hc1 : (((a0).l.length : Nat) : Int) ≤ (((Args.Y).length : Nat) : Int)
  · rw [if_pos hc1] at h
    by_cases hc2 : 0 ≤ (w64 ((((Args.Y).length : Nat) : Int) - (((a0).l.length : Nat) : Int))) ∧ (w64 ((((Args.Y).length : Nat) : Int) - (((a0).l.length : Nat) : Int))) ≤ (((Args.Y).length : Nat) : Int)
    · rw [if_pos hc2] at h
      obtain ⟨c3_, hc3, h⟩ := Option.bind_eq_some_iff.1 h
      obtain rfl := Option.some.inj h; exact p_stylesendsWithintq1_0 n a0 hc1 hc2 c3_ hc3
    · rw [if_neg hc2] at h; cases h
  · rw [if_neg hc1] at h
    obtain rfl := Option.some.inj h; exact p_stylesendsWithintq1_1 n a0 hc1

noncomputable def A_stylesMatchesq1 (a0 : Int) (a1 : NL) (a2 : Int) (a3 : Int) (a4 : Int) : List Value := [(Value.agg #[(Value.int .i64 a0), (nlV a1), (Value.int .i64 a2), (Value.int .i64 a3)]), (Value.int .i64 a4), (Value.slice (some ⟨1, 0, some 1⟩) (Args.Y).length Args.cY)]
noncomputable def H_stylesMatchesq1 (a0 : Int) (a1 : NL) (a2 : Int) (a3 : Int) (a4 : Int) : AH := ⟨sB [], 0, 0⟩
noncomputable def V_stylesMatchesq1 (a0 : Int) (a1 : NL) (a2 : Int) (a3 : Int) (a4 : Int) (r : Bool) : Value := match r with
  | o0 => (Value.bool o0)
noncomputable def R_stylesMatchesq1 (a0 : Int) (a1 : NL) (a2 : Int) (a3 : Int) (a4 : Int) (r : Bool) : AH := match r with
  | o0 => ⟨sB [], 0, 0⟩
noncomputable abbrev G_stylesMatchesq1 (a0 : Int) (a1 : NL) (a2 : Int) (a3 : Int) (a4 : Int) (r : Bool) : Prop := Gv P (.func 8) (A_stylesMatchesq1 a0 a1 a2 a3 a4) (H_stylesMatchesq1 a0 a1 a2 a3 a4) (V_stylesMatchesq1 a0 a1 a2 a3 a4 r) (R_stylesMatchesq1 a0 a1 a2 a3 a4 r)
def m_stylesMatchesq1 (n : Nat) (a0 : Int) (a1 : NL) (a2 : Int) (a3 : Int) (a4 : Int) : Option (Bool) :=
  if a0 = a4 then
    (m_stylesendsWithintq1 n a1).bind fun c2_ =>
    some c2_
  else
    some false
set_option maxRecDepth 100000 in
theorem p_stylesMatchesq1_0 (n : Nat) (a0 : Int) (a1 : NL) (a2 : Int) (a3 : Int) (a4 : Int) (hc1 : a0 = a4) (c2_ : Bool) (hc2 : m_stylesendsWithintq1 n a1 = some c2_) : G_stylesMatchesq1 a0 a1 a2 a3 a4 c2_ :=
  runF_ok hm (A := aT [(7, .val (.bool true)), (12, .call ⟨0, [], (V_stylesendsWithintq1 a1 c2_), (R_stylesendsWithintq1 a1 c2_), []⟩)]) (L := lT []) (wk := ⟨[6], [], 0, 0⟩)
    (ps := [(Value.bool (a0 == a4)) = (Value.bool true),
    G_stylesendsWithintq1 a1 c2_]) (by kernel_rfl) ⟨(veT hc1), (m_stylesendsWithintq1_ok n a1 c2_ hc2), trivial⟩
set_option maxRecDepth 100000 in
theorem p_stylesMatchesq1_1 (n : Nat) (a0 : Int) (a1 : NL) (a2 : Int) (a3 : Int) (a4 : Int) (hc1 : ¬ (a0 = a4)) : G_stylesMatchesq1 a0 a1 a2 a3 a4 false :=
  runF_ok hm (A := aT [(7, .val (.bool false))]) (L := lT []) (wk := ⟨[6], [], 0, 0⟩)
    (ps := [(Value.bool (a0 == a4)) = (Value.bool false)]) (by kernel_rfl) ⟨(veF hc1), trivial⟩
theorem m_stylesMatchesq1_ok (n : Nat) (a0 : Int) (a1 : NL) (a2 : Int) (a3 : Int) (a4 : Int) (r : Bool) (h : m_stylesMatchesq1 n a0 a1 a2 a3 a4 = some r) : G_stylesMatchesq1 a0 a1 a2 a3 a4 r := by
  unfold m_stylesMatchesq1 at h
  by_cases hc1 : a0 = a4
  · rw [if_pos hc1] at h
    obtain ⟨c2_, hc2, h⟩ := Option.bind_eq_some_iff.1 h
    obtain rfl := Option.some.inj h; exact p_stylesMatchesq1_0 n a0 a1 a2 a3 a4 hc1 c2_ hc2
  · rw [if_neg hc1] at h
    obtain rfl := Option.some.inj h; exact p_stylesMatchesq1_1 n a0 a1 a2 a3 a4 hc1

noncomputable def A_stylesStyle1q1 (a0 : Int) (a1 : Int) (a2 : Int) (a3 : Bool) (a4 : Int) (a5 : NL) (a6 : Int) (a7 : Int) (a8 : Int) : List Value := [(Value.agg #[(Value.int .i64 a0), (Value.slice none 0 0), (Value.int .i64 a1), (Value.int .i64 a2), (Value.bool a3)]), (Value.agg #[(Value.int .i64 a4), (nlV a5), (Value.int .i64 a6), (Value.int .i64 a7)]), (Value.pointer (some ⟨0, 0, none⟩)), (Value.pointer (some ⟨1, 0, none⟩))]
noncomputable def H_stylesStyle1q1 (a0 : Int) (a1 : Int) (a2 : Int) (a3 : Bool) (a4 : Int) (a5 : NL) (a6 : Int) (a7 : Int) (a8 : Int) : AH := ⟨sB [(0, (some (.cells (layT [(Value.int .i64 a8)]) 3))), (1, (some (.cells (layT [(Value.slice (some ⟨1, 0, some 1⟩) (Args.Y).length Args.cY)]) 23)))], 2, 2⟩
noncomputable def V_stylesStyle1q1 (a0 : Int) (a1 : Int) (a2 : Int) (a3 : Bool) (a4 : Int) (a5 : NL) (a6 : Int) (a7 : Int) (a8 : Int) (r : Int × List (NL) × Int × Int × Bool) : Value := match r with
  | (o0, o1, o2, o3, o4) => (Value.agg #[(Value.int .i64 o0), (nlQ o1), (Value.int .i64 o2), (Value.int .i64 o3), (Value.bool o4)])
noncomputable def R_stylesStyle1q1 (a0 : Int) (a1 : Int) (a2 : Int) (a3 : Bool) (a4 : Int) (a5 : NL) (a6 : Int) (a7 : Int) (a8 : Int) (r : Int × List (NL) × Int × Int × Bool) : AH := match r with
  | (o0, o1, o2, o3, o4) => ⟨sB [(2, (some (.cells (layT [(Value.int .i64 o0), (nlQ o1), (Value.int .i64 o2), (Value.int .i64 o3), (Value.bool o4)]) 38)))], 3, 2⟩
noncomputable abbrev G_stylesStyle1q1 (a0 : Int) (a1 : Int) (a2 : Int) (a3 : Bool) (a4 : Int) (a5 : NL) (a6 : Int) (a7 : Int) (a8 : Int) (r : Int × List (NL) × Int × Int × Bool) : Prop := Gv P (.func 16) (A_stylesStyle1q1 a0 a1 a2 a3 a4 a5 a6 a7 a8) (H_stylesStyle1q1 a0 a1 a2 a3 a4 a5 a6 a7 a8) (V_stylesStyle1q1 a0 a1 a2 a3 a4 a5 a6 a7 a8 r) (R_stylesStyle1q1 a0 a1 a2 a3 a4 a5 a6 a7 a8 r)
def m_stylesStyle1q1 (n : Nat) (a0 : Int) (a1 : Int) (a2 : Int) (a3 : Bool) (a4 : Int) (a5 : NL) (a6 : Int) (a7 : Int) (a8 : Int) : Option (Int × List (NL) × Int × Int × Bool) :=
  (m_stylesMatchesq1 n a4 a5 a6 a7 a8).bind fun c1_ =>
  if c1_ = true then
    if a3 = true then
      if a7 ≤ a2 then
        some (a0, ([] : List (NL)), a1, a2, a3)
      else
        some (a4, [a5], a6, a7, true)
    else
      some (a4, [a5], a6, a7, true)
  else
    some (a0, ([] : List (NL)), a1, a2, a3)
set_option maxRecDepth 100000 in
theorem p_stylesStyle1q1_0 (n : Nat) (a0 : Int) (a1 : Int) (a2 : Int) (a3 : Bool) (a4 : Int) (a5 : NL) (a6 : Int) (a7 : Int) (a8 : Int) (c1_ : Bool) (hc1 : m_stylesMatchesq1 n a4 a5 a6 a7 a8 = some c1_) (hc2 : c1_ = true) (hc3 : a3 = true) (hc4 : a7 ≤ a2) : G_stylesStyle1q1 a0 a1 a2 a3 a4 a5 a6 a7 a8 (a0, ([] : List (NL)), a1, a2, a3) :=
  runF_ok hm (A := aT [(9, .call ⟨0, [], (V_stylesMatchesq1 a4 a5 a6 a7 a8 c1_), (R_stylesMatchesq1 a4 a5 a6 a7 a8 c1_), []⟩), (10, .val (.bool false)), (14, .val (.bool true)), (20, .val (.bool true))]) (L := lT []) (wk := ⟨[6], [(2, 4, false)], 3, 2⟩)
    (ps := [G_stylesMatchesq1 a4 a5 a6 a7 a8 c1_,
    (Value.bool (!c1_)) = (Value.bool false),
    (Value.bool a3) = (Value.bool true),
    (Value.bool (decide (a7 ≤ a2))) = (Value.bool true)]) (by kernel_rfl) ⟨(m_stylesMatchesq1_ok n a4 a5 a6 a7 a8 c1_ hc1), (vBn hc2), (vB hc3), (vbT hc4), trivial⟩
set_option maxRecDepth 100000 in
theorem p_stylesStyle1q1_1 (n : Nat) (a0 : Int) (a1 : Int) (a2 : Int) (a3 : Bool) (a4 : Int) (a5 : NL) (a6 : Int) (a7 : Int) (a8 : Int) (c1_ : Bool) (hc1 : m_stylesMatchesq1 n a4 a5 a6 a7 a8 = some c1_) (hc2 : c1_ = true) (hc3 : a3 = true) (hc4 : ¬ (a7 ≤ a2)) : G_stylesStyle1q1 a0 a1 a2 a3 a4 a5 a6 a7 a8 (a4, [a5], a6, a7, true) :=
  runF_ok hm (A := aT [(9, .call ⟨0, [], (V_stylesMatchesq1 a4 a5 a6 a7 a8 c1_), (R_stylesMatchesq1 a4 a5 a6 a7 a8 c1_), []⟩), (10, .val (.bool false)), (14, .val (.bool true)), (20, .val (.bool false))]) (L := lT []) (wk := ⟨[6], [(2, 4, false)], 3, 2⟩)
    (ps := [G_stylesMatchesq1 a4 a5 a6 a7 a8 c1_,
    (Value.bool (!c1_)) = (Value.bool false),
    (Value.bool a3) = (Value.bool true),
    (Value.bool (decide (a7 ≤ a2))) = (Value.bool false)]) (by kernel_rfl) ⟨(m_stylesMatchesq1_ok n a4 a5 a6 a7 a8 c1_ hc1), (vBn hc2), (vB hc3), (vbF hc4), trivial⟩
set_option maxRecDepth 100000 in
theorem p_stylesStyle1q1_2 (n : Nat) (a0 : Int) (a1 : Int) (a2 : Int) (a3 : Bool) (a4 : Int) (a5 : NL) (a6 : Int) (a7 : Int) (a8 : Int) (c1_ : Bool) (hc1 : m_stylesMatchesq1 n a4 a5 a6 a7 a8 = some c1_) (hc2 : c1_ = true) (hc3 : ¬ (a3 = true)) : G_stylesStyle1q1 a0 a1 a2 a3 a4 a5 a6 a7 a8 (a4, [a5], a6, a7, true) :=
  runF_ok hm (A := aT [(9, .call ⟨0, [], (V_stylesMatchesq1 a4 a5 a6 a7 a8 c1_), (R_stylesMatchesq1 a4 a5 a6 a7 a8 c1_), []⟩), (10, .val (.bool false)), (14, .val (.bool false))]) (L := lT []) (wk := ⟨[6], [(2, 4, false)], 3, 2⟩)
    (ps := [G_stylesMatchesq1 a4 a5 a6 a7 a8 c1_,
    (Value.bool (!c1_)) = (Value.bool false),
    (Value.bool a3) = (Value.bool false)]) (by kernel_rfl) ⟨(m_stylesMatchesq1_ok n a4 a5 a6 a7 a8 c1_ hc1), (vBn hc2), (vB (Bool.eq_false_iff.2 hc3)), trivial⟩
set_option maxRecDepth 100000 in
theorem p_stylesStyle1q1_3 (n : Nat) (a0 : Int) (a1 : Int) (a2 : Int) (a3 : Bool) (a4 : Int) (a5 : NL) (a6 : Int) (a7 : Int) (a8 : Int) (c1_ : Bool) (hc1 : m_stylesMatchesq1 n a4 a5 a6 a7 a8 = some c1_) (hc2 : ¬ (c1_ = true)) : G_stylesStyle1q1 a0 a1 a2 a3 a4 a5 a6 a7 a8 (a0, ([] : List (NL)), a1, a2, a3) :=
  runF_ok hm (A := aT [(9, .call ⟨0, [], (V_stylesMatchesq1 a4 a5 a6 a7 a8 c1_), (R_stylesMatchesq1 a4 a5 a6 a7 a8 c1_), []⟩), (10, .val (.bool true))]) (L := lT []) (wk := ⟨[6], [(2, 4, false)], 3, 2⟩)
    (ps := [G_stylesMatchesq1 a4 a5 a6 a7 a8 c1_,
    (Value.bool (!c1_)) = (Value.bool true)]) (by kernel_rfl) ⟨(m_stylesMatchesq1_ok n a4 a5 a6 a7 a8 c1_ hc1), (vBn (Bool.eq_false_iff.2 hc2)), trivial⟩
theorem m_stylesStyle1q1_ok (n : Nat) (a0 : Int) (a1 : Int) (a2 : Int) (a3 : Bool) (a4 : Int) (a5 : NL) (a6 : Int) (a7 : Int) (a8 : Int) (r : Int × List (NL) × Int × Int × Bool) (h : m_stylesStyle1q1 n a0 a1 a2 a3 a4 a5 a6 a7 a8 = some r) : G_stylesStyle1q1 a0 a1 a2 a3 a4 a5 a6 a7 a8 r := by
  unfold m_stylesStyle1q1 at h
  obtain ⟨c1_, hc1, h⟩ := Option.bind_eq_some_iff.1 h
  by_cases hc2 : c1_ = true
  · rw [if_pos hc2] at h
    by_cases hc3 : a3 = true
    · rw [if_pos hc3] at h
      by_cases hc4 : a7 ≤ a2
      · rw [if_pos hc4] at h
        obtain rfl := Option.some.inj h; exact p_stylesStyle1q1_0 n a0 a1 a2 a3 a4 a5 a6 a7 a8 c1_ hc1 hc2 hc3 hc4
      · rw [if_neg hc4] at h
        obtain rfl := Option.some.inj h; exact p_stylesStyle1q1_1 n a0 a1 a2 a3 a4 a5 a6 a7 a8 c1_ hc1 hc2 hc3 hc4
    · rw [if_neg hc3] at h
      obtain rfl := Option.some.inj h; exact p_stylesStyle1q1_2 n a0 a1 a2 a3 a4 a5 a6 a7 a8 c1_ hc1 hc2 hc3
  · rw [if_neg hc2] at h
    obtain rfl := Option.some.inj h; exact p_stylesStyle1q1_3 n a0 a1 a2 a3 a4 a5 a6 a7 a8 c1_ hc1 hc2

noncomputable def A_foldOverstyleschoice_1010y1 (a0 : Int) (a1 : Int) (a2 : Int) (a3 : Bool) (a4 : Int) (a5 : Int) (a6 : Int) (a7 : Int) (a8 : Bool) (a9 : Int) (a10 : NL) (a11 : Int) (a12 : Int) : List Value := [(Value.agg #[(Value.int .i64 a9), (nlV a10), (Value.int .i64 a11), (Value.int .i64 a12)])]
noncomputable def H_foldOverstyleschoice_1010y1 (a0 : Int) (a1 : Int) (a2 : Int) (a3 : Bool) (a4 : Int) (a5 : Int) (a6 : Int) (a7 : Int) (a8 : Bool) (a9 : Int) (a10 : NL) (a11 : Int) (a12 : Int) : AH := ⟨sB [(0, (some (rblk P 14 [false, true, false, true] .ready none [(4, (Value.pointer (some ⟨2, 0, none⟩))), (5, (Value.pointer (some ⟨3, 0, none⟩))), (6, (Value.pointer (some ⟨6, 0, none⟩))), (8, (Value.func (.func 18) #[] #[(Value.pointer (some ⟨7, 0, none⟩))]))] 1))), (1, (some (.marks true))), (2, (some (.cells (layT [(Value.int .i64 a0), (Value.slice none 0 0), (Value.int .i64 a1), (Value.int .i64 a2), (Value.bool a3)]) 38))), (3, (some (.cells (layT [(Value.func (.func 16) #[] #[(Value.pointer (some ⟨4, 0, none⟩)), (Value.pointer (some ⟨5, 0, none⟩))])]) 43))), (4, (some (.cells (layT [(Value.int .i64 a4)]) 3))), (5, (some (.cells (layT [(Value.slice (some ⟨1, 0, some 1⟩) (Args.Y).length Args.cY)]) 23))), (6, (some (.cells (layT [(Value.int .i64 a5), (Value.slice none 0 0), (Value.int .i64 a6), (Value.int .i64 a7), (Value.bool a8)]) 38))), (7, (some (.cells (layT [(Value.slice (some ⟨0, 0, some 1⟩) (Args.S).length Args.cS)]) 22)))], 8, 8⟩
noncomputable def V_foldOverstyleschoice_1010y1 (a0 : Int) (a1 : Int) (a2 : Int) (a3 : Bool) (a4 : Int) (a5 : Int) (a6 : Int) (a7 : Int) (a8 : Bool) (a9 : Int) (a10 : NL) (a11 : Int) (a12 : Int) (r : Int × List (NL) × Int × Int × Bool) : Value := match r with
  | (o0, o1, o2, o3, o4) => (Value.bool true)
noncomputable def R_foldOverstyleschoice_1010y1 (a0 : Int) (a1 : Int) (a2 : Int) (a3 : Bool) (a4 : Int) (a5 : Int) (a6 : Int) (a7 : Int) (a8 : Bool) (a9 : Int) (a10 : NL) (a11 : Int) (a12 : Int) (r : Int × List (NL) × Int × Int × Bool) : AH := match r with
  | (o0, o1, o2, o3, o4) => ⟨sB [(0, (some (rblk P 14 [false, true, false, true] .ready none [(4, (Value.pointer (some ⟨2, 0, none⟩))), (5, (Value.pointer (some ⟨3, 0, none⟩))), (6, (Value.pointer (some ⟨6, 0, none⟩))), (8, (Value.func (.func 18) #[] #[(Value.pointer (some ⟨7, 0, none⟩))]))] 1))), (1, (some (.marks true))), (2, (some (.cells (layT [(Value.int .i64 o0), (nlQ o1), (Value.int .i64 o2), (Value.int .i64 o3), (Value.bool o4)]) 38))), (3, (some (.cells (layT [(Value.func (.func 16) #[] #[(Value.pointer (some ⟨4, 0, none⟩)), (Value.pointer (some ⟨5, 0, none⟩))])]) 43))), (4, (some (.cells (layT [(Value.int .i64 a4)]) 3))), (5, (some (.cells (layT [(Value.slice (some ⟨1, 0, some 1⟩) (Args.Y).length Args.cY)]) 23))), (6, (some (.cells (layT [(Value.int .i64 a5), (Value.slice none 0 0), (Value.int .i64 a6), (Value.int .i64 a7), (Value.bool a8)]) 38))), (7, (some (.cells (layT [(Value.slice (some ⟨0, 0, some 1⟩) (Args.S).length Args.cS)]) 22)))], 8, 0⟩
def m_foldOverstyleschoice_1010y1 (n : Nat) (a0 : Int) (a1 : Int) (a2 : Int) (a3 : Bool) (a4 : Int) (a5 : Int) (a6 : Int) (a7 : Int) (a8 : Bool) (a9 : Int) (a10 : NL) (a11 : Int) (a12 : Int) : Option (Int × List (NL) × Int × Int × Bool) :=
  (m_stylesStyle1q1 n a0 a1 a2 a3 a9 a10 a11 a12 a4).bind fun t => match t with
  | (c1_0, c1_1, c1_2, c1_3, c1_4) =>
    match c1_1 with
    | [] =>
      some (c1_0, ([] : List (NL)), c1_2, c1_3, c1_4)
    | c1_1a :: c1_1t =>
      some (c1_0, [c1_1a], c1_2, c1_3, c1_4)
set_option maxRecDepth 100000 in
theorem p_foldOverstyleschoice_1010y1_0 (n : Nat) (a0 : Int) (a1 : Int) (a2 : Int) (a3 : Bool) (a4 : Int) (a5 : Int) (a6 : Int) (a7 : Int) (a8 : Bool) (a9 : Int) (a10 : NL) (a11 : Int) (a12 : Int) (c1_0 : Int) (c1_2 : Int) (c1_3 : Int) (c1_4 : Bool) (hc1 : m_stylesStyle1q1 n a0 a1 a2 a3 a9 a10 a11 a12 a4 = some (c1_0, [], c1_2, c1_3, c1_4)) : Gv P (.yield 0) (A_foldOverstyleschoice_1010y1 a0 a1 a2 a3 a4 a5 a6 a7 a8 a9 a10 a11 a12) (H_foldOverstyleschoice_1010y1 a0 a1 a2 a3 a4 a5 a6 a7 a8 a9 a10 a11 a12) (V_foldOverstyleschoice_1010y1 a0 a1 a2 a3 a4 a5 a6 a7 a8 a9 a10 a11 a12 (c1_0, ([] : List (NL)), c1_2, c1_3, c1_4)) (R_foldOverstyleschoice_1010y1 a0 a1 a2 a3 a4 a5 a6 a7 a8 a9 a10 a11 a12 (c1_0, ([] : List (NL)), c1_2, c1_3, c1_4)) :=
  runY_ok hm (A1 := aT []) (L1 := lT []) (A2 := aT [(4, .call ⟨2, [(0, 4, false), (1, 5, false)], (V_stylesStyle1q1 a0 a1 a2 a3 a9 a10 a11 a12 a4 (c1_0, ([] : List (NL)), c1_2, c1_3, c1_4)), (R_stylesStyle1q1 a0 a1 a2 a3 a9 a10 a11 a12 a4 (c1_0, ([] : List (NL)), c1_2, c1_3, c1_4)), [(9, 2, false)]⟩)]) (L2 := lT []) (wk := ⟨[], [(0, 0, false), (1, 1, false), (2, 2, false), (3, 3, false), (4, 4, false), (5, 5, false), (6, 6, false), (7, 7, false)], 8, 0⟩)
    (ps := [G_stylesStyle1q1 a0 a1 a2 a3 a9 a10 a11 a12 a4 (c1_0, ([] : List (NL)), c1_2, c1_3, c1_4)]) (by kernel_rfl) ⟨(m_stylesStyle1q1_ok n a0 a1 a2 a3 a9 a10 a11 a12 a4 (c1_0, ([] : List (NL)), c1_2, c1_3, c1_4) hc1), trivial⟩
set_option maxRecDepth 100000 in
theorem p_foldOverstyleschoice_1010y1_1 (n : Nat) (a0 : Int) (a1 : Int) (a2 : Int) (a3 : Bool) (a4 : Int) (a5 : Int) (a6 : Int) (a7 : Int) (a8 : Bool) (a9 : Int) (a10 : NL) (a11 : Int) (a12 : Int) (c1_0 : Int) (c1_1a : NL) (c1_1t : List (NL)) (c1_2 : Int) (c1_3 : Int) (c1_4 : Bool) (hc1 : m_stylesStyle1q1 n a0 a1 a2 a3 a9 a10 a11 a12 a4 = some (c1_0, (c1_1a :: c1_1t), c1_2, c1_3, c1_4)) : Gv P (.yield 0) (A_foldOverstyleschoice_1010y1 a0 a1 a2 a3 a4 a5 a6 a7 a8 a9 a10 a11 a12) (H_foldOverstyleschoice_1010y1 a0 a1 a2 a3 a4 a5 a6 a7 a8 a9 a10 a11 a12) (V_foldOverstyleschoice_1010y1 a0 a1 a2 a3 a4 a5 a6 a7 a8 a9 a10 a11 a12 (c1_0, [c1_1a], c1_2, c1_3, c1_4)) (R_foldOverstyleschoice_1010y1 a0 a1 a2 a3 a4 a5 a6 a7 a8 a9 a10 a11 a12 (c1_0, [c1_1a], c1_2, c1_3, c1_4)) :=
  runY_ok hm (A1 := aT []) (L1 := lT []) (A2 := aT [(4, .call ⟨2, [(0, 4, false), (1, 5, false)], (V_stylesStyle1q1 a0 a1 a2 a3 a9 a10 a11 a12 a4 (c1_0, (c1_1a :: c1_1t), c1_2, c1_3, c1_4)), (R_stylesStyle1q1 a0 a1 a2 a3 a9 a10 a11 a12 a4 (c1_0, (c1_1a :: c1_1t), c1_2, c1_3, c1_4)), [(9, 2, false)]⟩)]) (L2 := lT []) (wk := ⟨[], [(0, 0, false), (1, 1, false), (2, 2, false), (3, 3, false), (4, 4, false), (5, 5, false), (6, 6, false), (7, 7, false)], 8, 0⟩)
    (ps := [G_stylesStyle1q1 a0 a1 a2 a3 a9 a10 a11 a12 a4 (c1_0, (c1_1a :: c1_1t), c1_2, c1_3, c1_4)]) (by kernel_rfl) ⟨(m_stylesStyle1q1_ok n a0 a1 a2 a3 a9 a10 a11 a12 a4 (c1_0, (c1_1a :: c1_1t), c1_2, c1_3, c1_4) hc1), trivial⟩
theorem m_foldOverstyleschoice_1010y1_ok (n : Nat) (a0 : Int) (a1 : Int) (a2 : Int) (a3 : Bool) (a4 : Int) (a5 : Int) (a6 : Int) (a7 : Int) (a8 : Bool) (a9 : Int) (a10 : NL) (a11 : Int) (a12 : Int) (r : Int × List (NL) × Int × Int × Bool) (h : m_foldOverstyleschoice_1010y1 n a0 a1 a2 a3 a4 a5 a6 a7 a8 a9 a10 a11 a12 = some r) : Gv P (.yield 0) (A_foldOverstyleschoice_1010y1 a0 a1 a2 a3 a4 a5 a6 a7 a8 a9 a10 a11 a12) (H_foldOverstyleschoice_1010y1 a0 a1 a2 a3 a4 a5 a6 a7 a8 a9 a10 a11 a12) (V_foldOverstyleschoice_1010y1 a0 a1 a2 a3 a4 a5 a6 a7 a8 a9 a10 a11 a12 r) (R_foldOverstyleschoice_1010y1 a0 a1 a2 a3 a4 a5 a6 a7 a8 a9 a10 a11 a12 r) := by
  unfold m_foldOverstyleschoice_1010y1 at h
  obtain ⟨⟨c1_0, c1_1, c1_2, c1_3, c1_4⟩, hc1, h⟩ := Option.bind_eq_some_iff.1 h
  dsimp only at h
  cases c1_1 with
  | nil =>
    dsimp only at h
    obtain rfl := Option.some.inj h; exact p_foldOverstyleschoice_1010y1_0 n a0 a1 a2 a3 a4 a5 a6 a7 a8 a9 a10 a11 a12 c1_0 c1_2 c1_3 c1_4 hc1
  | cons c1_1a c1_1t =>
    dsimp only at h
    obtain rfl := Option.some.inj h; exact p_foldOverstyleschoice_1010y1_1 n a0 a1 a2 a3 a4 a5 a6 a7 a8 a9 a10 a11 a12 c1_0 c1_1a c1_1t c1_2 c1_3 c1_4 hc1

noncomputable def A_stylesStyle1q2 (a0 : Int) (a1 : NL) (a2 : Int) (a3 : Int) (a4 : Bool) (a5 : Int) (a6 : NL) (a7 : Int) (a8 : Int) (a9 : Int) : List Value := [(Value.agg #[(Value.int .i64 a0), (nlV a1), (Value.int .i64 a2), (Value.int .i64 a3), (Value.bool a4)]), (Value.agg #[(Value.int .i64 a5), (nlV a6), (Value.int .i64 a7), (Value.int .i64 a8)]), (Value.pointer (some ⟨0, 0, none⟩)), (Value.pointer (some ⟨1, 0, none⟩))]
noncomputable def H_stylesStyle1q2 (a0 : Int) (a1 : NL) (a2 : Int) (a3 : Int) (a4 : Bool) (a5 : Int) (a6 : NL) (a7 : Int) (a8 : Int) (a9 : Int) : AH := ⟨sB [(0, (some (.cells (layT [(Value.int .i64 a9)]) 3))), (1, (some (.cells (layT [(Value.slice (some ⟨1, 0, some 1⟩) (Args.Y).length Args.cY)]) 23)))], 2, 2⟩
noncomputable def V_stylesStyle1q2 (a0 : Int) (a1 : NL) (a2 : Int) (a3 : Int) (a4 : Bool) (a5 : Int) (a6 : NL) (a7 : Int) (a8 : Int) (a9 : Int) (r : Int × NL × Int × Int × Bool) : Value := match r with
  | (o0, o1, o2, o3, o4) => (Value.agg #[(Value.int .i64 o0), (nlV o1), (Value.int .i64 o2), (Value.int .i64 o3), (Value.bool o4)])
noncomputable def R_stylesStyle1q2 (a0 : Int) (a1 : NL) (a2 : Int) (a3 : Int) (a4 : Bool) (a5 : Int) (a6 : NL) (a7 : Int) (a8 : Int) (a9 : Int) (r : Int × NL × Int × Int × Bool) : AH := match r with
  | (o0, o1, o2, o3, o4) => ⟨sB [(2, (some (.cells (layT [(Value.int .i64 o0), (nlV o1), (Value.int .i64 o2), (Value.int .i64 o3), (Value.bool o4)]) 38)))], 3, 2⟩
noncomputable abbrev G_stylesStyle1q2 (a0 : Int) (a1 : NL) (a2 : Int) (a3 : Int) (a4 : Bool) (a5 : Int) (a6 : NL) (a7 : Int) (a8 : Int) (a9 : Int) (r : Int × NL × Int × Int × Bool) : Prop := Gv P (.func 16) (A_stylesStyle1q2 a0 a1 a2 a3 a4 a5 a6 a7 a8 a9) (H_stylesStyle1q2 a0 a1 a2 a3 a4 a5 a6 a7 a8 a9) (V_stylesStyle1q2 a0 a1 a2 a3 a4 a5 a6 a7 a8 a9 r) (R_stylesStyle1q2 a0 a1 a2 a3 a4 a5 a6 a7 a8 a9 r)
def m_stylesStyle1q2 (n : Nat) (a0 : Int) (a1 : NL) (a2 : Int) (a3 : Int) (a4 : Bool) (a5 : Int) (a6 : NL) (a7 : Int) (a8 : Int) (a9 : Int) : Option (Int × NL × Int × Int × Bool) :=
  (m_stylesMatchesq1 n a5 a6 a7 a8 a9).bind fun c1_ =>
  if c1_ = true then
    if a4 = true then
      if a8 ≤ a3 then
        some (a0, a1, a2, a3, a4)
      else
        some (a5, a6, a7, a8, true)
    else
      some (a5, a6, a7, a8, true)
  else
    some (a0, a1, a2, a3, a4)
set_option maxRecDepth 100000 in
theorem p_stylesStyle1q2_0 (n : Nat) (a0 : Int) (a1 : NL) (a2 : Int) (a3 : Int) (a4 : Bool) (a5 : Int) (a6 : NL) (a7 : Int) (a8 : Int) (a9 : Int) (c1_ : Bool) (hc1 : m_stylesMatchesq1 n a5 a6 a7 a8 a9 = some c1_) (hc2 : c1_ = true) (hc3 : a4 = true) (hc4 : a8 ≤ a3) : G_stylesStyle1q2 a0 a1 a2 a3 a4 a5 a6 a7 a8 a9 (a0, a1, a2, a3, a4) :=
  runF_ok hm (A := aT [(9, .call ⟨0, [], (V_stylesMatchesq1 a5 a6 a7 a8 a9 c1_), (R_stylesMatchesq1 a5 a6 a7 a8 a9 c1_), []⟩), (10, .val (.bool false)), (14, .val (.bool true)), (20, .val (.bool true))]) (L := lT []) (wk := ⟨[6], [(2, 4, false)], 3, 2⟩)
    (ps := [G_stylesMatchesq1 a5 a6 a7 a8 a9 c1_,
    (Value.bool (!c1_)) = (Value.bool false),
    (Value.bool a4) = (Value.bool true),
    (Value.bool (decide (a8 ≤ a3))) = (Value.bool true)]) (by kernel_rfl) ⟨(m_stylesMatchesq1_ok n a5 a6 a7 a8 a9 c1_ hc1), (vBn hc2), (vB hc3), (vbT hc4), trivial⟩
set_option maxRecDepth 100000 in
theorem p_stylesStyle1q2_1 (n : Nat) (a0 : Int) (a1 : NL) (a2 : Int) (a3 : Int) (a4 : Bool) (a5 : Int) (a6 : NL) (a7 : Int) (a8 : Int) (a9 : Int) (c1_ : Bool) (hc1 : m_stylesMatchesq1 n a5 a6 a7 a8 a9 = some c1_) (hc2 : c1_ = true) (hc3 : a4 = true) (hc4 : ¬ (a8 ≤ a3)) : G_stylesStyle1q2 a0 a1 a2 a3 a4 a5 a6 a7 a8 a9 (a5, a6, a7, a8, true) :=
  runF_ok hm (A := aT [(9, .call ⟨0, [], (V_stylesMatchesq1 a5 a6 a7 a8 a9 c1_), (R_stylesMatchesq1 a5 a6 a7 a8 a9 c1_), []⟩), (10, .val (.bool false)), (14, .val (.bool true)), (20, .val (.bool false))]) (L := lT []) (wk := ⟨[6], [(2, 4, false)], 3, 2⟩)
    (ps := [G_stylesMatchesq1 a5 a6 a7 a8 a9 c1_,
    (Value.bool (!c1_)) = (Value.bool false),
    (Value.bool a4) = (Value.bool true),
    (Value.bool (decide (a8 ≤ a3))) = (Value.bool false)]) (by kernel_rfl) ⟨(m_stylesMatchesq1_ok n a5 a6 a7 a8 a9 c1_ hc1), (vBn hc2), (vB hc3), (vbF hc4), trivial⟩
set_option maxRecDepth 100000 in
theorem p_stylesStyle1q2_2 (n : Nat) (a0 : Int) (a1 : NL) (a2 : Int) (a3 : Int) (a4 : Bool) (a5 : Int) (a6 : NL) (a7 : Int) (a8 : Int) (a9 : Int) (c1_ : Bool) (hc1 : m_stylesMatchesq1 n a5 a6 a7 a8 a9 = some c1_) (hc2 : c1_ = true) (hc3 : ¬ (a4 = true)) : G_stylesStyle1q2 a0 a1 a2 a3 a4 a5 a6 a7 a8 a9 (a5, a6, a7, a8, true) :=
  runF_ok hm (A := aT [(9, .call ⟨0, [], (V_stylesMatchesq1 a5 a6 a7 a8 a9 c1_), (R_stylesMatchesq1 a5 a6 a7 a8 a9 c1_), []⟩), (10, .val (.bool false)), (14, .val (.bool false))]) (L := lT []) (wk := ⟨[6], [(2, 4, false)], 3, 2⟩)
    (ps := [G_stylesMatchesq1 a5 a6 a7 a8 a9 c1_,
    (Value.bool (!c1_)) = (Value.bool false),
    (Value.bool a4) = (Value.bool false)]) (by kernel_rfl) ⟨(m_stylesMatchesq1_ok n a5 a6 a7 a8 a9 c1_ hc1), (vBn hc2), (vB (Bool.eq_false_iff.2 hc3)), trivial⟩
set_option maxRecDepth 100000 in
theorem p_stylesStyle1q2_3 (n : Nat) (a0 : Int) (a1 : NL) (a2 : Int) (a3 : Int) (a4 : Bool) (a5 : Int) (a6 : NL) (a7 : Int) (a8 : Int) (a9 : Int) (c1_ : Bool) (hc1 : m_stylesMatchesq1 n a5 a6 a7 a8 a9 = some c1_) (hc2 : ¬ (c1_ = true)) : G_stylesStyle1q2 a0 a1 a2 a3 a4 a5 a6 a7 a8 a9 (a0, a1, a2, a3, a4) :=
  runF_ok hm (A := aT [(9, .call ⟨0, [], (V_stylesMatchesq1 a5 a6 a7 a8 a9 c1_), (R_stylesMatchesq1 a5 a6 a7 a8 a9 c1_), []⟩), (10, .val (.bool true))]) (L := lT []) (wk := ⟨[6], [(2, 4, false)], 3, 2⟩)
    (ps := [G_stylesMatchesq1 a5 a6 a7 a8 a9 c1_,
    (Value.bool (!c1_)) = (Value.bool true)]) (by kernel_rfl) ⟨(m_stylesMatchesq1_ok n a5 a6 a7 a8 a9 c1_ hc1), (vBn (Bool.eq_false_iff.2 hc2)), trivial⟩
theorem m_stylesStyle1q2_ok (n : Nat) (a0 : Int) (a1 : NL) (a2 : Int) (a3 : Int) (a4 : Bool) (a5 : Int) (a6 : NL) (a7 : Int) (a8 : Int) (a9 : Int) (r : Int × NL × Int × Int × Bool) (h : m_stylesStyle1q2 n a0 a1 a2 a3 a4 a5 a6 a7 a8 a9 = some r) : G_stylesStyle1q2 a0 a1 a2 a3 a4 a5 a6 a7 a8 a9 r := by
  unfold m_stylesStyle1q2 at h
  obtain ⟨c1_, hc1, h⟩ := Option.bind_eq_some_iff.1 h
  by_cases hc2 : c1_ = true
  · rw [if_pos hc2] at h
    by_cases hc3 : a4 = true
    · rw [if_pos hc3] at h
      by_cases hc4 : a8 ≤ a3
      · rw [if_pos hc4] at h
        obtain rfl := Option.some.inj h; exact p_stylesStyle1q2_0 n a0 a1 a2 a3 a4 a5 a6 a7 a8 a9 c1_ hc1 hc2 hc3 hc4
      · rw [if_neg hc4] at h
        obtain rfl := Option.some.inj h; exact p_stylesStyle1q2_1 n a0 a1 a2 a3 a4 a5 a6 a7 a8 a9 c1_ hc1 hc2 hc3 hc4
    · rw [if_neg hc3] at h
      obtain rfl := Option.some.inj h; exact p_stylesStyle1q2_2 n a0 a1 a2 a3 a4 a5 a6 a7 a8 a9 c1_ hc1 hc2 hc3
  · rw [if_neg hc2] at h
    obtain rfl := Option.some.inj h; exact p_stylesStyle1q2_3 n a0 a1 a2 a3 a4 a5 a6 a7 a8 a9 c1_ hc1 hc2

noncomputable def A_foldOverstyleschoice_1010y2 (a0 : Int) (a1 : NL) (a2 : Int) (a3 : Int) (a4 : Bool) (a5 : Int) (a6 : Int) (a7 : Int) (a8 : Int) (a9 : Bool) (a10 : Int) (a11 : NL) (a12 : Int) (a13 : Int) : List Value := [(Value.agg #[(Value.int .i64 a10), (nlV a11), (Value.int .i64 a12), (Value.int .i64 a13)])]
noncomputable def H_foldOverstyleschoice_1010y2 (a0 : Int) (a1 : NL) (a2 : Int) (a3 : Int) (a4 : Bool) (a5 : Int) (a6 : Int) (a7 : Int) (a8 : Int) (a9 : Bool) (a10 : Int) (a11 : NL) (a12 : Int) (a13 : Int) : AH := ⟨sB [(0, (some (rblk P 14 [false, true, false, true] .ready none [(4, (Value.pointer (some ⟨2, 0, none⟩))), (5, (Value.pointer (some ⟨3, 0, none⟩))), (6, (Value.pointer (some ⟨6, 0, none⟩))), (8, (Value.func (.func 18) #[] #[(Value.pointer (some ⟨7, 0, none⟩))]))] 1))), (1, (some (.marks true))), (2, (some (.cells (layT [(Value.int .i64 a0), (nlV a1), (Value.int .i64 a2), (Value.int .i64 a3), (Value.bool a4)]) 38))), (3, (some (.cells (layT [(Value.func (.func 16) #[] #[(Value.pointer (some ⟨4, 0, none⟩)), (Value.pointer (some ⟨5, 0, none⟩))])]) 43))), (4, (some (.cells (layT [(Value.int .i64 a5)]) 3))), (5, (some (.cells (layT [(Value.slice (some ⟨1, 0, some 1⟩) (Args.Y).length Args.cY)]) 23))), (6, (some (.cells (layT [(Value.int .i64 a6), (Value.slice none 0 0), (Value.int .i64 a7), (Value.int .i64 a8), (Value.bool a9)]) 38))), (7, (some (.cells (layT [(Value.slice (some ⟨0, 0, some 1⟩) (Args.S).length Args.cS)]) 22)))], 8, 8⟩
noncomputable def V_foldOverstyleschoice_1010y2 (a0 : Int) (a1 : NL) (a2 : Int) (a3 : Int) (a4 : Bool) (a5 : Int) (a6 : Int) (a7 : Int) (a8 : Int) (a9 : Bool) (a10 : Int) (a11 : NL) (a12 : Int) (a13 : Int) (r : Int × NL × Int × Int × Bool) : Value := match r with
  | (o0, o1, o2, o3, o4) => (Value.bool true)
noncomputable def R_foldOverstyleschoice_1010y2 (a0 : Int) (a1 : NL) (a2 : Int) (a3 : Int) (a4 : Bool) (a5 : Int) (a6 : Int) (a7 : Int) (a8 : Int) (a9 : Bool) (a10 : Int) (a11 : NL) (a12 : Int) (a13 : Int) (r : Int × NL × Int × Int × Bool) : AH := match r with
  | (o0, o1, o2, o3, o4) => ⟨sB [(0, (some (rblk P 14 [false, true, false, true] .ready none [(4, (Value.pointer (some ⟨2, 0, none⟩))), (5, (Value.pointer (some ⟨3, 0, none⟩))), (6, (Value.pointer (some ⟨6, 0, none⟩))), (8, (Value.func (.func 18) #[] #[(Value.pointer (some ⟨7, 0, none⟩))]))] 1))), (1, (some (.marks true))), (2, (some (.cells (layT [(Value.int .i64 o0), (nlV o1), (Value.int .i64 o2), (Value.int .i64 o3), (Value.bool o4)]) 38))), (3, (some (.cells (layT [(Value.func (.func 16) #[] #[(Value.pointer (some ⟨4, 0, none⟩)), (Value.pointer (some ⟨5, 0, none⟩))])]) 43))), (4, (some (.cells (layT [(Value.int .i64 a5)]) 3))), (5, (some (.cells (layT [(Value.slice (some ⟨1, 0, some 1⟩) (Args.Y).length Args.cY)]) 23))), (6, (some (.cells (layT [(Value.int .i64 a6), (Value.slice none 0 0), (Value.int .i64 a7), (Value.int .i64 a8), (Value.bool a9)]) 38))), (7, (some (.cells (layT [(Value.slice (some ⟨0, 0, some 1⟩) (Args.S).length Args.cS)]) 22)))], 8, 0⟩
def m_foldOverstyleschoice_1010y2 (n : Nat) (a0 : Int) (a1 : NL) (a2 : Int) (a3 : Int) (a4 : Bool) (a5 : Int) (a6 : Int) (a7 : Int) (a8 : Int) (a9 : Bool) (a10 : Int) (a11 : NL) (a12 : Int) (a13 : Int) : Option (Int × NL × Int × Int × Bool) :=
  (m_stylesStyle1q2 n a0 a1 a2 a3 a4 a10 a11 a12 a13 a5).bind fun t => match t with
  | (c1_0, c1_1, c1_2, c1_3, c1_4) =>
    some (c1_0, c1_1, c1_2, c1_3, c1_4)
set_option maxRecDepth 100000 in
theorem p_foldOverstyleschoice_1010y2_0 (n : Nat) (a0 : Int) (a1 : NL) (a2 : Int) (a3 : Int) (a4 : Bool) (a5 : Int) (a6 : Int) (a7 : Int) (a8 : Int) (a9 : Bool) (a10 : Int) (a11 : NL) (a12 : Int) (a13 : Int) (c1_0 : Int) (c1_1 : NL) (c1_2 : Int) (c1_3 : Int) (c1_4 : Bool) (hc1 : m_stylesStyle1q2 n a0 a1 a2 a3 a4 a10 a11 a12 a13 a5 = some (c1_0, c1_1, c1_2, c1_3, c1_4)) : Gv P (.yield 0) (A_foldOverstyleschoice_1010y2 a0 a1 a2 a3 a4 a5 a6 a7 a8 a9 a10 a11 a12 a13) (H_foldOverstyleschoice_1010y2 a0 a1 a2 a3 a4 a5 a6 a7 a8 a9 a10 a11 a12 a13) (V_foldOverstyleschoice_1010y2 a0 a1 a2 a3 a4 a5 a6 a7 a8 a9 a10 a11 a12 a13 (c1_0, c1_1, c1_2, c1_3, c1_4)) (R_foldOverstyleschoice_1010y2 a0 a1 a2 a3 a4 a5 a6 a7 a8 a9 a10 a11 a12 a13 (c1_0, c1_1, c1_2, c1_3, c1_4)) :=
  runY_ok hm (A1 := aT []) (L1 := lT []) (A2 := aT [(4, .call ⟨2, [(0, 4, false), (1, 5, false)], (V_stylesStyle1q2 a0 a1 a2 a3 a4 a10 a11 a12 a13 a5 (c1_0, c1_1, c1_2, c1_3, c1_4)), (R_stylesStyle1q2 a0 a1 a2 a3 a4 a10 a11 a12 a13 a5 (c1_0, c1_1, c1_2, c1_3, c1_4)), [(9, 2, false)]⟩)]) (L2 := lT []) (wk := ⟨[], [(0, 0, false), (1, 1, false), (2, 2, false), (3, 3, false), (4, 4, false), (5, 5, false), (6, 6, false), (7, 7, false)], 8, 0⟩)
    (ps := [G_stylesStyle1q2 a0 a1 a2 a3 a4 a10 a11 a12 a13 a5 (c1_0, c1_1, c1_2, c1_3, c1_4)]) (by kernel_rfl) ⟨(m_stylesStyle1q2_ok n a0 a1 a2 a3 a4 a10 a11 a12 a13 a5 (c1_0, c1_1, c1_2, c1_3, c1_4) hc1), trivial⟩
theorem m_foldOverstyleschoice_1010y2_ok (n : Nat) (a0 : Int) (a1 : NL) (a2 : Int) (a3 : Int) (a4 : Bool) (a5 : Int) (a6 : Int) (a7 : Int) (a8 : Int) (a9 : Bool) (a10 : Int) (a11 : NL) (a12 : Int) (a13 : Int) (r : Int × NL × Int × Int × Bool) (h : m_foldOverstyleschoice_1010y2 n a0 a1 a2 a3 a4 a5 a6 a7 a8 a9 a10 a11 a12 a13 = some r) : Gv P (.yield 0) (A_foldOverstyleschoice_1010y2 a0 a1 a2 a3 a4 a5 a6 a7 a8 a9 a10 a11 a12 a13) (H_foldOverstyleschoice_1010y2 a0 a1 a2 a3 a4 a5 a6 a7 a8 a9 a10 a11 a12 a13) (V_foldOverstyleschoice_1010y2 a0 a1 a2 a3 a4 a5 a6 a7 a8 a9 a10 a11 a12 a13 r) (R_foldOverstyleschoice_1010y2 a0 a1 a2 a3 a4 a5 a6 a7 a8 a9 a10 a11 a12 a13 r) := by
  unfold m_foldOverstyleschoice_1010y2 at h
  obtain ⟨⟨c1_0, c1_1, c1_2, c1_3, c1_4⟩, hc1, h⟩ := Option.bind_eq_some_iff.1 h
  dsimp only at h
  obtain rfl := Option.some.inj h; exact p_foldOverstyleschoice_1010y2_0 n a0 a1 a2 a3 a4 a5 a6 a7 a8 a9 a10 a11 a12 a13 c1_0 c1_1 c1_2 c1_3 c1_4 hc1

noncomputable def S_slicesValuesapiStyle1q1_1 (x1_5 : Int) (x1_6 : Int) (x1_7 : Int) (x1_8 : Int) (x1_9 : Bool) (x1_10 : Int) (st : Int × List (NL) × Int × Int × Bool × Int) : XSt := match st with
  | (x1_0, x1_1, x1_2, x1_3, x1_4, x1_11) => (sT 16 [(0, (Value.func (.yield 0) #[] #[])), (5, (Value.slice (some ⟨0, 0, some 1⟩) (Args.S).length Args.cS)), (6, (Value.int .i64 x1_10)), (7, (Value.int .i64 x1_11))], [], ⟨sB [(0, (some (rblk P 14 [false, true, false, true] .ready none [(4, (Value.pointer (some ⟨2, 0, none⟩))), (5, (Value.pointer (some ⟨3, 0, none⟩))), (6, (Value.pointer (some ⟨6, 0, none⟩))), (8, (Value.func (.func 18) #[] #[(Value.pointer (some ⟨7, 0, none⟩))]))] 1))), (1, (some (.marks true))), (2, (some (.cells (layT [(Value.int .i64 x1_0), (nlQ x1_1), (Value.int .i64 x1_2), (Value.int .i64 x1_3), (Value.bool x1_4)]) 38))), (3, (some (.cells (layT [(Value.func (.func 16) #[] #[(Value.pointer (some ⟨4, 0, none⟩)), (Value.pointer (some ⟨5, 0, none⟩))])]) 43))), (4, (some (.cells (layT [(Value.int .i64 x1_5)]) 3))), (5, (some (.cells (layT [(Value.slice (some ⟨1, 0, some 1⟩) (Args.Y).length Args.cY)]) 23))), (6, (some (.cells (layT [(Value.int .i64 x1_6), (Value.slice none 0 0), (Value.int .i64 x1_7), (Value.int .i64 x1_8), (Value.bool x1_9)]) 38))), (7, (some (.cells (layT [(Value.slice (some ⟨0, 0, some 1⟩) (Args.S).length Args.cS)]) 22)))], 8, 0⟩)
noncomputable def X_slicesValuesapiStyle1q1_1 (x1_5 : Int) (x1_6 : Int) (x1_7 : Int) (x1_8 : Int) (x1_9 : Bool) (x1_10 : Int) (r : Int × List (NL) × Int × Int × Bool) : Ex × XSt := match r with
  | (z1_0, z1_1, z1_2, z1_3, z1_4) => (.exit 0, (sT 16 [], [], ⟨sB [(0, (some (rblk P 14 [false, true, false, true] .ready none [(4, (Value.pointer (some ⟨2, 0, none⟩))), (5, (Value.pointer (some ⟨3, 0, none⟩))), (6, (Value.pointer (some ⟨6, 0, none⟩))), (8, (Value.func (.func 18) #[] #[(Value.pointer (some ⟨7, 0, none⟩))]))] 1))), (1, (some (.marks true))), (2, (some (.cells (layT [(Value.int .i64 z1_0), (nlQ z1_1), (Value.int .i64 z1_2), (Value.int .i64 z1_3), (Value.bool z1_4)]) 38))), (3, (some (.cells (layT [(Value.func (.func 16) #[] #[(Value.pointer (some ⟨4, 0, none⟩)), (Value.pointer (some ⟨5, 0, none⟩))])]) 43))), (4, (some (.cells (layT [(Value.int .i64 x1_5)]) 3))), (5, (some (.cells (layT [(Value.slice (some ⟨1, 0, some 1⟩) (Args.Y).length Args.cY)]) 23))), (6, (some (.cells (layT [(Value.int .i64 x1_6), (Value.slice none 0 0), (Value.int .i64 x1_7), (Value.int .i64 x1_8), (Value.bool x1_9)]) 38))), (7, (some (.cells (layT [(Value.slice (some ⟨0, 0, some 1⟩) (Args.S).length Args.cS)]) 22)))], 8, 0⟩))
def B_slicesValuesapiStyle1q1_1 (n : Nat) (x1_5 : Int) (x1_6 : Int) (x1_7 : Int) (x1_8 : Int) (x1_9 : Bool) (x1_10 : Int) (st : Int × List (NL) × Int × Int × Bool × Int) : Option ((Int × List (NL) × Int × Int × Bool × Int) ⊕ (Int × List (NL) × Int × Int × Bool)) := match st with
  | (x1_0, x1_1, x1_2, x1_3, x1_4, x1_11) =>
    match x1_1 with
    | [] =>
      if x1_11 < x1_10 then
        if 0 ≤ x1_11 ∧ x1_11 < (((Args.S).length : Nat) : Int) then
          (m_foldOverstyleschoice_1010y1 n x1_0 x1_2 x1_3 x1_4 x1_5 x1_6 x1_7 x1_8 x1_9 (((Args.S).getD (x1_11).toNat (0, nl0, 0, 0)).1) (((Args.S).getD (x1_11).toNat (0, nl0, 0, 0)).2.1) (((Args.S).getD (x1_11).toNat (0, nl0, 0, 0)).2.2.1) (((Args.S).getD (x1_11).toNat (0, nl0, 0, 0)).2.2.2)).bind fun t => match t with
          | (y1_3_0, y1_3_1, y1_3_2, y1_3_3, y1_3_4) =>
            match y1_3_1 with
            | [] =>
              some (.inl (y1_3_0, ([] : List (NL)), y1_3_2, y1_3_3, y1_3_4, (w64 (x1_11 + (1 : Int)))))
            | y1_3_1a :: y1_3_1t =>
              some (.inl (y1_3_0, [y1_3_1a], y1_3_2, y1_3_3, y1_3_4, (w64 (x1_11 + (1 : Int)))))
        else none
      else
        some (.inr (x1_0, ([] : List (NL)), x1_2, x1_3, x1_4))
    | x1_1a :: x1_1t =>
      if x1_11 < x1_10 then
        if 0 ≤ x1_11 ∧ x1_11 < (((Args.S).length : Nat) : Int) then
          (m_foldOverstyleschoice_1010y2 n x1_0 x1_1a x1_2 x1_3 x1_4 x1_5 x1_6 x1_7 x1_8 x1_9 (((Args.S).getD (x1_11).toNat (0, nl0, 0, 0)).1) (((Args.S).getD (x1_11).toNat (0, nl0, 0, 0)).2.1) (((Args.S).getD (x1_11).toNat (0, nl0, 0, 0)).2.2.1) (((Args.S).getD (x1_11).toNat (0, nl0, 0, 0)).2.2.2)).bind fun t => match t with
          | (y1_3_0, y1_3_1, y1_3_2, y1_3_3, y1_3_4) =>
            some (.inl (y1_3_0, [y1_3_1], y1_3_2, y1_3_3, y1_3_4, (w64 (x1_11 + (1 : Int)))))
        else none
      else
        some (.inr (x1_0, [x1_1a], x1_2, x1_3, x1_4))
def m_slicesValuesapiStyle1q1_1 (n : Nat) (x1_5 : Int) (x1_6 : Int) (x1_7 : Int) (x1_8 : Int) (x1_9 : Bool) (x1_10 : Int) (st : Int × List (NL) × Int × Int × Bool × Int) : Option (Int × List (NL) × Int × Int × Bool) := iterM (B_slicesValuesapiStyle1q1_1 n x1_5 x1_6 x1_7 x1_8 x1_9 x1_10) n st
set_option maxRecDepth 100000 in
theorem q_slicesValuesapiStyle1q1_1_0 (n : Nat) {rnd : Option Nat} (x1_0 : Int) (x1_2 : Int) (x1_3 : Int) (x1_4 : Bool) (x1_5 : Int) (x1_6 : Int) (x1_7 : Int) (x1_8 : Int) (x1_9 : Bool) (x1_10 : Int) (x1_11 : Int) (hy1_1 : x1_11 < x1_10) (hy1_2 : 0 ≤ x1_11 ∧ x1_11 < (((Args.S).length : Nat) : Int)) (y1_3_0 : Int) (y1_3_2 : Int) (y1_3_3 : Int) (y1_3_4 : Bool) (hy1_3 : m_foldOverstyleschoice_1010y1 n x1_0 x1_2 x1_3 x1_4 x1_5 x1_6 x1_7 x1_8 x1_9 (((Args.S).getD (x1_11).toNat (0, nl0, 0, 0)).1) (((Args.S).getD (x1_11).toNat (0, nl0, 0, 0)).2.1) (((Args.S).getD (x1_11).toNat (0, nl0, 0, 0)).2.2.1) (((Args.S).getD (x1_11).toNat (0, nl0, 0, 0)).2.2.2) = some (y1_3_0, [], y1_3_2, y1_3_3, y1_3_4)) : CG P rnd (fnN P 18) 8 (codeOf P 18 [false, false, true]) (S_slicesValuesapiStyle1q1_1 x1_5 x1_6 x1_7 x1_8 x1_9 x1_10 (x1_0, ([] : List (NL)), x1_2, x1_3, x1_4, x1_11)) (.normal, S_slicesValuesapiStyle1q1_1 x1_5 x1_6 x1_7 x1_8 x1_9 x1_10 (y1_3_0, ([] : List (NL)), y1_3_2, y1_3_3, y1_3_4, (w64 (x1_11 + (1 : Int))))) :=
  runC_ok hm (A := aT [(1, .val (.bool true)), (7, .pur (Value.pointer (some ⟨0, ((x1_11).toNat * 4), some 1⟩))), (8, .ld (Value.agg #[(Value.int .i64 (((Args.S).getD (x1_11).toNat (0, nl0, 0, 0)).1)), (nlV (((Args.S).getD (x1_11).toNat (0, nl0, 0, 0)).2.1)), (Value.int .i64 (((Args.S).getD (x1_11).toNat (0, nl0, 0, 0)).2.2.1)), (Value.int .i64 (((Args.S).getD (x1_11).toNat (0, nl0, 0, 0)).2.2.2))])), (14, .call ⟨8, [(0, 0, false), (1, 1, false), (2, 2, false), (3, 3, false), (4, 4, false), (5, 5, false), (6, 6, false), (7, 7, false)], (V_foldOverstyleschoice_1010y1 x1_0 x1_2 x1_3 x1_4 x1_5 x1_6 x1_7 x1_8 x1_9 (((Args.S).getD (x1_11).toNat (0, nl0, 0, 0)).1) (((Args.S).getD (x1_11).toNat (0, nl0, 0, 0)).2.1) (((Args.S).getD (x1_11).toNat (0, nl0, 0, 0)).2.2.1) (((Args.S).getD (x1_11).toNat (0, nl0, 0, 0)).2.2.2) (y1_3_0, ([] : List (NL)), y1_3_2, y1_3_3, y1_3_4)), (R_foldOverstyleschoice_1010y1 x1_0 x1_2 x1_3 x1_4 x1_5 x1_6 x1_7 x1_8 x1_9 (((Args.S).getD (x1_11).toNat (0, nl0, 0, 0)).1) (((Args.S).getD (x1_11).toNat (0, nl0, 0, 0)).2.1) (((Args.S).getD (x1_11).toNat (0, nl0, 0, 0)).2.2.1) (((Args.S).getD (x1_11).toNat (0, nl0, 0, 0)).2.2.2) (y1_3_0, ([] : List (NL)), y1_3_2, y1_3_3, y1_3_4)), [(0, 0, false), (1, 1, false), (2, 2, false), (3, 3, false), (4, 4, false), (5, 5, false), (6, 6, false), (7, 7, false)]⟩)]) (L := lT []) (wk := ⟨[0, 5, 6, 7], [(0, 0, false), (1, 1, false), (2, 2, false), (3, 3, false), (4, 4, false), (5, 5, false), (6, 6, false), (7, 7, false)], 8, 0⟩)
    (ps := [(Value.bool (decide (x1_11 < x1_10))) = (Value.bool true),
    opIndexAddr P 22 (Value.slice (some ⟨0, 0, some 1⟩) (Args.S).length Args.cS) (Value.int .i64 x1_11) Ax.h0 = some ((Value.pointer (some ⟨0, ((x1_11).toNat * 4), some 1⟩)), Ax.h0),
    loadG P 27 (Value.pointer (some ⟨0, ((x1_11).toNat * 4), some 1⟩)) Ax.h0 = some ((Value.agg #[(Value.int .i64 (((Args.S).getD (x1_11).toNat (0, nl0, 0, 0)).1)), (nlV (((Args.S).getD (x1_11).toNat (0, nl0, 0, 0)).2.1)), (Value.int .i64 (((Args.S).getD (x1_11).toNat (0, nl0, 0, 0)).2.2.1)), (Value.int .i64 (((Args.S).getD (x1_11).toNat (0, nl0, 0, 0)).2.2.2))]), Ax.h0),
    Gv P (.yield 0) (A_foldOverstyleschoice_1010y1 x1_0 x1_2 x1_3 x1_4 x1_5 x1_6 x1_7 x1_8 x1_9 (((Args.S).getD (x1_11).toNat (0, nl0, 0, 0)).1) (((Args.S).getD (x1_11).toNat (0, nl0, 0, 0)).2.1) (((Args.S).getD (x1_11).toNat (0, nl0, 0, 0)).2.2.1) (((Args.S).getD (x1_11).toNat (0, nl0, 0, 0)).2.2.2)) (H_foldOverstyleschoice_1010y1 x1_0 x1_2 x1_3 x1_4 x1_5 x1_6 x1_7 x1_8 x1_9 (((Args.S).getD (x1_11).toNat (0, nl0, 0, 0)).1) (((Args.S).getD (x1_11).toNat (0, nl0, 0, 0)).2.1) (((Args.S).getD (x1_11).toNat (0, nl0, 0, 0)).2.2.1) (((Args.S).getD (x1_11).toNat (0, nl0, 0, 0)).2.2.2)) (V_foldOverstyleschoice_1010y1 x1_0 x1_2 x1_3 x1_4 x1_5 x1_6 x1_7 x1_8 x1_9 (((Args.S).getD (x1_11).toNat (0, nl0, 0, 0)).1) (((Args.S).getD (x1_11).toNat (0, nl0, 0, 0)).2.1) (((Args.S).getD (x1_11).toNat (0, nl0, 0, 0)).2.2.1) (((Args.S).getD (x1_11).toNat (0, nl0, 0, 0)).2.2.2) (y1_3_0, ([] : List (NL)), y1_3_2, y1_3_3, y1_3_4)) (R_foldOverstyleschoice_1010y1 x1_0 x1_2 x1_3 x1_4 x1_5 x1_6 x1_7 x1_8 x1_9 (((Args.S).getD (x1_11).toNat (0, nl0, 0, 0)).1) (((Args.S).getD (x1_11).toNat (0, nl0, 0, 0)).2.1) (((Args.S).getD (x1_11).toNat (0, nl0, 0, 0)).2.2.1) (((Args.S).getD (x1_11).toNat (0, nl0, 0, 0)).2.2.2) (y1_3_0, ([] : List (NL)), y1_3_2, y1_3_3, y1_3_4))]) (by kernel_rfl) ⟨(vbT hy1_1), (ixW (e := 27) (by kernel_rfl) (by kernel_rfl) (hy1_2).1 (hy1_2).2), (ldWA rwf_iLii (0, nl0, 0, 0) (i := (x1_11).toNat) (q := 0) (L := Args.S) (n := 4) ((x1_11).toNat * 4) rfl rfl (by kernel_rfl) (by kernel_rfl) (toNatLt hy1_2) (by decide) rfl), (m_foldOverstyleschoice_1010y1_ok n x1_0 x1_2 x1_3 x1_4 x1_5 x1_6 x1_7 x1_8 x1_9 (((Args.S).getD (x1_11).toNat (0, nl0, 0, 0)).1) (((Args.S).getD (x1_11).toNat (0, nl0, 0, 0)).2.1) (((Args.S).getD (x1_11).toNat (0, nl0, 0, 0)).2.2.1) (((Args.S).getD (x1_11).toNat (0, nl0, 0, 0)).2.2.2) (y1_3_0, ([] : List (NL)), y1_3_2, y1_3_3, y1_3_4) hy1_3), trivial⟩
set_option maxRecDepth 100000 in
theorem q_slicesValuesapiStyle1q1_1_1 (n : Nat) {rnd : Option Nat} (x1_0 : Int) (x1_2 : Int) (x1_3 : Int) (x1_4 : Bool) (x1_5 : Int) (x1_6 : Int) (x1_7 : Int) (x1_8 : Int) (x1_9 : Bool) (x1_10 : Int) (x1_11 : Int) (hy1_1 : x1_11 < x1_10) (hy1_2 : 0 ≤ x1_11 ∧ x1_11 < (((Args.S).length : Nat) : Int)) (y1_3_0 : Int) (y1_3_1a : NL) (y1_3_1t : List (NL)) (y1_3_2 : Int) (y1_3_3 : Int) (y1_3_4 : Bool) (hy1_3 : m_foldOverstyleschoice_1010y1 n x1_0 x1_2 x1_3 x1_4 x1_5 x1_6 x1_7 x1_8 x1_9 (((Args.S).getD (x1_11).toNat (0, nl0, 0, 0)).1) (((Args.S).getD (x1_11).toNat (0, nl0, 0, 0)).2.1) (((Args.S).getD (x1_11).toNat (0, nl0, 0, 0)).2.2.1) (((Args.S).getD (x1_11).toNat (0, nl0, 0, 0)).2.2.2) = some (y1_3_0, (y1_3_1a :: y1_3_1t), y1_3_2, y1_3_3, y1_3_4)) : CG P rnd (fnN P 18) 8 (codeOf P 18 [false, false, true]) (S_slicesValuesapiStyle1q1_1 x1_5 x1_6 x1_7 x1_8 x1_9 x1_10 (x1_0, ([] : List (NL)), x1_2, x1_3, x1_4, x1_11)) (.normal, S_slicesValuesapiStyle1q1_1 x1_5 x1_6 x1_7 x1_8 x1_9 x1_10 (y1_3_0, [y1_3_1a], y1_3_2, y1_3_3, y1_3_4, (w64 (x1_11 + (1 : Int))))) :=
  runC_ok hm (A := aT [(1, .val (.bool true)), (7, .pur (Value.pointer (some ⟨0, ((x1_11).toNat * 4), some 1⟩))), (8, .ld (Value.agg #[(Value.int .i64 (((Args.S).getD (x1_11).toNat (0, nl0, 0, 0)).1)), (nlV (((Args.S).getD (x1_11).toNat (0, nl0, 0, 0)).2.1)), (Value.int .i64 (((Args.S).getD (x1_11).toNat (0, nl0, 0, 0)).2.2.1)), (Value.int .i64 (((Args.S).getD (x1_11).toNat (0, nl0, 0, 0)).2.2.2))])), (14, .call ⟨8, [(0, 0, false), (1, 1, false), (2, 2, false), (3, 3, false), (4, 4, false), (5, 5, false), (6, 6, false), (7, 7, false)], (V_foldOverstyleschoice_1010y1 x1_0 x1_2 x1_3 x1_4 x1_5 x1_6 x1_7 x1_8 x1_9 (((Args.S).getD (x1_11).toNat (0, nl0, 0, 0)).1) (((Args.S).getD (x1_11).toNat (0, nl0, 0, 0)).2.1) (((Args.S).getD (x1_11).toNat (0, nl0, 0, 0)).2.2.1) (((Args.S).getD (x1_11).toNat (0, nl0, 0, 0)).2.2.2) (y1_3_0, (y1_3_1a :: y1_3_1t), y1_3_2, y1_3_3, y1_3_4)), (R_foldOverstyleschoice_1010y1 x1_0 x1_2 x1_3 x1_4 x1_5 x1_6 x1_7 x1_8 x1_9 (((Args.S).getD (x1_11).toNat (0, nl0, 0, 0)).1) (((Args.S).getD (x1_11).toNat (0, nl0, 0, 0)).2.1) (((Args.S).getD (x1_11).toNat (0, nl0, 0, 0)).2.2.1) (((Args.S).getD (x1_11).toNat (0, nl0, 0, 0)).2.2.2) (y1_3_0, (y1_3_1a :: y1_3_1t), y1_3_2, y1_3_3, y1_3_4)), [(0, 0, false), (1, 1, false), (2, 2, false), (3, 3, false), (4, 4, false), (5, 5, false), (6, 6, false), (7, 7, false)]⟩)]) (L := lT []) (wk := ⟨[0, 5, 6, 7], [(0, 0, false), (1, 1, false), (2, 2, false), (3, 3, false), (4, 4, false), (5, 5, false), (6, 6, false), (7, 7, false)], 8, 0⟩)
    (ps := [(Value.bool (decide (x1_11 < x1_10))) = (Value.bool true),
    opIndexAddr P 22 (Value.slice (some ⟨0, 0, some 1⟩) (Args.S).length Args.cS) (Value.int .i64 x1_11) Ax.h0 = some ((Value.pointer (some ⟨0, ((x1_11).toNat * 4), some 1⟩)), Ax.h0),
    loadG P 27 (Value.pointer (some ⟨0, ((x1_11).toNat * 4), some 1⟩)) Ax.h0 = some ((Value.agg #[(Value.int .i64 (((Args.S).getD (x1_11).toNat (0, nl0, 0, 0)).1)), (nlV (((Args.S).getD (x1_11).toNat (0, nl0, 0, 0)).2.1)), (Value.int .i64 (((Args.S).getD (x1_11).toNat (0, nl0, 0, 0)).2.2.1)), (Value.int .i64 (((Args.S).getD (x1_11).toNat (0, nl0, 0, 0)).2.2.2))]), Ax.h0),
    Gv P (.yield 0) (A_foldOverstyleschoice_1010y1 x1_0 x1_2 x1_3 x1_4 x1_5 x1_6 x1_7 x1_8 x1_9 (((Args.S).getD (x1_11).toNat (0, nl0, 0, 0)).1) (((Args.S).getD (x1_11).toNat (0, nl0, 0, 0)).2.1) (((Args.S).getD (x1_11).toNat (0, nl0, 0, 0)).2.2.1) (((Args.S).getD (x1_11).toNat (0, nl0, 0, 0)).2.2.2)) (H_foldOverstyleschoice_1010y1 x1_0 x1_2 x1_3 x1_4 x1_5 x1_6 x1_7 x1_8 x1_9 (((Args.S).getD (x1_11).toNat (0, nl0, 0, 0)).1) (((Args.S).getD (x1_11).toNat (0, nl0, 0, 0)).2.1) (((Args.S).getD (x1_11).toNat (0, nl0, 0, 0)).2.2.1) (((Args.S).getD (x1_11).toNat (0, nl0, 0, 0)).2.2.2)) (V_foldOverstyleschoice_1010y1 x1_0 x1_2 x1_3 x1_4 x1_5 x1_6 x1_7 x1_8 x1_9 (((Args.S).getD (x1_11).toNat (0, nl0, 0, 0)).1) (((Args.S).getD (x1_11).toNat (0, nl0, 0, 0)).2.1) (((Args.S).getD (x1_11).toNat (0, nl0, 0, 0)).2.2.1) (((Args.S).getD (x1_11).toNat (0, nl0, 0, 0)).2.2.2) (y1_3_0, (y1_3_1a :: y1_3_1t), y1_3_2, y1_3_3, y1_3_4)) (R_foldOverstyleschoice_1010y1 x1_0 x1_2 x1_3 x1_4 x1_5 x1_6 x1_7 x1_8 x1_9 (((Args.S).getD (x1_11).toNat (0, nl0, 0, 0)).1) (((Args.S).getD (x1_11).toNat (0, nl0, 0, 0)).2.1) (((Args.S).getD (x1_11).toNat (0, nl0, 0, 0)).2.2.1) (((Args.S).getD (x1_11).toNat (0, nl0, 0, 0)).2.2.2) (y1_3_0, (y1_3_1a :: y1_3_1t), y1_3_2, y1_3_3, y1_3_4))]) (by kernel_rfl) ⟨(vbT hy1_1), (ixW (e := 27) (by kernel_rfl) (by kernel_rfl) (hy1_2).1 (hy1_2).2), (ldWA rwf_iLii (0, nl0, 0, 0) (i := (x1_11).toNat) (q := 0) (L := Args.S) (n := 4) ((x1_11).toNat * 4) rfl rfl (by kernel_rfl) (by kernel_rfl) (toNatLt hy1_2) (by decide) rfl), (m_foldOverstyleschoice_1010y1_ok n x1_0 x1_2 x1_3 x1_4 x1_5 x1_6 x1_7 x1_8 x1_9 (((Args.S).getD (x1_11).toNat (0, nl0, 0, 0)).1) (((Args.S).getD (x1_11).toNat (0, nl0, 0, 0)).2.1) (((Args.S).getD (x1_11).toNat (0, nl0, 0, 0)).2.2.1) (((Args.S).getD (x1_11).toNat (0, nl0, 0, 0)).2.2.2) (y1_3_0, (y1_3_1a :: y1_3_1t), y1_3_2, y1_3_3, y1_3_4) hy1_3), trivial⟩
set_option maxRecDepth 100000 in
theorem q_slicesValuesapiStyle1q1_1_2 (n : Nat) {rnd : Option Nat} (x1_0 : Int) (x1_2 : Int) (x1_3 : Int) (x1_4 : Bool) (x1_5 : Int) (x1_6 : Int) (x1_7 : Int) (x1_8 : Int) (x1_9 : Bool) (x1_10 : Int) (x1_11 : Int) (hy1_1 : ¬ (x1_11 < x1_10)) : CG P rnd (fnN P 18) 8 (codeOf P 18 [false, false, true]) (S_slicesValuesapiStyle1q1_1 x1_5 x1_6 x1_7 x1_8 x1_9 x1_10 (x1_0, ([] : List (NL)), x1_2, x1_3, x1_4, x1_11)) (X_slicesValuesapiStyle1q1_1 x1_5 x1_6 x1_7 x1_8 x1_9 x1_10 (x1_0, ([] : List (NL)), x1_2, x1_3, x1_4)) :=
  runC_ok hm (A := aT [(1, .val (.bool false))]) (L := lT []) (wk := ⟨[], [(0, 0, false), (1, 1, false), (2, 2, false), (3, 3, false), (4, 4, false), (5, 5, false), (6, 6, false), (7, 7, false)], 8, 0⟩)
    (ps := [(Value.bool (decide (x1_11 < x1_10))) = (Value.bool false)]) (by kernel_rfl) ⟨(vbF hy1_1), trivial⟩
set_option maxRecDepth 100000 in
theorem q_slicesValuesapiStyle1q1_1_3 (n : Nat) {rnd : Option Nat} (x1_0 : Int) (x1_1a : NL) (x1_1t : List (NL)) (x1_2 : Int) (x1_3 : Int) (x1_4 : Bool) (x1_5 : Int) (x1_6 : Int) (x1_7 : Int) (x1_8 : Int) (x1_9 : Bool) (x1_10 : Int) (x1_11 : Int) (hy1_1 : x1_11 < x1_10) (hy1_2 : 0 ≤ x1_11 ∧ x1_11 < (((Args.S).length : Nat) : Int)) (y1_3_0 : Int) (y1_3_1 : NL) (y1_3_2 : Int) (y1_3_3 : Int) (y1_3_4 : Bool) (hy1_3 : m_foldOverstyleschoice_1010y2 n x1_0 x1_1a x1_2 x1_3 x1_4 x1_5 x1_6 x1_7 x1_8 x1_9 (((Args.S).getD (x1_11).toNat (0, nl0, 0, 0)).1) (((Args.S).getD (x1_11).toNat (0, nl0, 0, 0)).2.1) (((Args.S).getD (x1_11).toNat (0, nl0, 0, 0)).2.2.1) (((Args.S).getD (x1_11).toNat (0, nl0, 0, 0)).2.2.2) = some (y1_3_0, y1_3_1, y1_3_2, y1_3_3, y1_3_4)) : CG P rnd (fnN P 18) 8 (codeOf P 18 [false, false, true]) (S_slicesValuesapiStyle1q1_1 x1_5 x1_6 x1_7 x1_8 x1_9 x1_10 (x1_0, (x1_1a :: x1_1t), x1_2, x1_3, x1_4, x1_11)) (.normal, S_slicesValuesapiStyle1q1_1 x1_5 x1_6 x1_7 x1_8 x1_9 x1_10 (y1_3_0, [y1_3_1], y1_3_2, y1_3_3, y1_3_4, (w64 (x1_11 + (1 : Int))))) :=
  runC_ok hm (A := aT [(1, .val (.bool true)), (7, .pur (Value.pointer (some ⟨0, ((x1_11).toNat * 4), some 1⟩))), (8, .ld (Value.agg #[(Value.int .i64 (((Args.S).getD (x1_11).toNat (0, nl0, 0, 0)).1)), (nlV (((Args.S).getD (x1_11).toNat (0, nl0, 0, 0)).2.1)), (Value.int .i64 (((Args.S).getD (x1_11).toNat (0, nl0, 0, 0)).2.2.1)), (Value.int .i64 (((Args.S).getD (x1_11).toNat (0, nl0, 0, 0)).2.2.2))])), (14, .call ⟨8, [(0, 0, false), (1, 1, false), (2, 2, false), (3, 3, false), (4, 4, false), (5, 5, false), (6, 6, false), (7, 7, false)], (V_foldOverstyleschoice_1010y2 x1_0 x1_1a x1_2 x1_3 x1_4 x1_5 x1_6 x1_7 x1_8 x1_9 (((Args.S).getD (x1_11).toNat (0, nl0, 0, 0)).1) (((Args.S).getD (x1_11).toNat (0, nl0, 0, 0)).2.1) (((Args.S).getD (x1_11).toNat (0, nl0, 0, 0)).2.2.1) (((Args.S).getD (x1_11).toNat (0, nl0, 0, 0)).2.2.2) (y1_3_0, y1_3_1, y1_3_2, y1_3_3, y1_3_4)), (R_foldOverstyleschoice_1010y2 x1_0 x1_1a x1_2 x1_3 x1_4 x1_5 x1_6 x1_7 x1_8 x1_9 (((Args.S).getD (x1_11).toNat (0, nl0, 0, 0)).1) (((Args.S).getD (x1_11).toNat (0, nl0, 0, 0)).2.1) (((Args.S).getD (x1_11).toNat (0, nl0, 0, 0)).2.2.1) (((Args.S).getD (x1_11).toNat (0, nl0, 0, 0)).2.2.2) (y1_3_0, y1_3_1, y1_3_2, y1_3_3, y1_3_4)), [(0, 0, false), (1, 1, false), (2, 2, false), (3, 3, false), (4, 4, false), (5, 5, false), (6, 6, false), (7, 7, false)]⟩)]) (L := lT []) (wk := ⟨[0, 5, 6, 7], [(0, 0, false), (1, 1, false), (2, 2, false), (3, 3, false), (4, 4, false), (5, 5, false), (6, 6, false), (7, 7, false)], 8, 0⟩)
    (ps := [(Value.bool (decide (x1_11 < x1_10))) = (Value.bool true),
    opIndexAddr P 22 (Value.slice (some ⟨0, 0, some 1⟩) (Args.S).length Args.cS) (Value.int .i64 x1_11) Ax.h0 = some ((Value.pointer (some ⟨0, ((x1_11).toNat * 4), some 1⟩)), Ax.h0),
    loadG P 27 (Value.pointer (some ⟨0, ((x1_11).toNat * 4), some 1⟩)) Ax.h0 = some ((Value.agg #[(Value.int .i64 (((Args.S).getD (x1_11).toNat (0, nl0, 0, 0)).1)), (nlV (((Args.S).getD (x1_11).toNat (0, nl0, 0, 0)).2.1)), (Value.int .i64 (((Args.S).getD (x1_11).toNat (0, nl0, 0, 0)).2.2.1)), (Value.int .i64 (((Args.S).getD (x1_11).toNat (0, nl0, 0, 0)).2.2.2))]), Ax.h0),
    Gv P (.yield 0) (A_foldOverstyleschoice_1010y2 x1_0 x1_1a x1_2 x1_3 x1_4 x1_5 x1_6 x1_7 x1_8 x1_9 (((Args.S).getD (x1_11).toNat (0, nl0, 0, 0)).1) (((Args.S).getD (x1_11).toNat (0, nl0, 0, 0)).2.1) (((Args.S).getD (x1_11).toNat (0, nl0, 0, 0)).2.2.1) (((Args.S).getD (x1_11).toNat (0, nl0, 0, 0)).2.2.2)) (H_foldOverstyleschoice_1010y2 x1_0 x1_1a x1_2 x1_3 x1_4 x1_5 x1_6 x1_7 x1_8 x1_9 (((Args.S).getD (x1_11).toNat (0, nl0, 0, 0)).1) (((Args.S).getD (x1_11).toNat (0, nl0, 0, 0)).2.1) (((Args.S).getD (x1_11).toNat (0, nl0, 0, 0)).2.2.1) (((Args.S).getD (x1_11).toNat (0, nl0, 0, 0)).2.2.2)) (V_foldOverstyleschoice_1010y2 x1_0 x1_1a x1_2 x1_3 x1_4 x1_5 x1_6 x1_7 x1_8 x1_9 (((Args.S).getD (x1_11).toNat (0, nl0, 0, 0)).1) (((Args.S).getD (x1_11).toNat (0, nl0, 0, 0)).2.1) (((Args.S).getD (x1_11).toNat (0, nl0, 0, 0)).2.2.1) (((Args.S).getD (x1_11).toNat (0, nl0, 0, 0)).2.2.2) (y1_3_0, y1_3_1, y1_3_2, y1_3_3, y1_3_4)) (R_foldOverstyleschoice_1010y2 x1_0 x1_1a x1_2 x1_3 x1_4 x1_5 x1_6 x1_7 x1_8 x1_9 (((Args.S).getD (x1_11).toNat (0, nl0, 0, 0)).1) (((Args.S).getD (x1_11).toNat (0, nl0, 0, 0)).2.1) (((Args.S).getD (x1_11).toNat (0, nl0, 0, 0)).2.2.1) (((Args.S).getD (x1_11).toNat (0, nl0, 0, 0)).2.2.2) (y1_3_0, y1_3_1, y1_3_2, y1_3_3, y1_3_4))]) (by kernel_rfl) ⟨(vbT hy1_1), (ixW (e := 27) (by kernel_rfl) (by kernel_rfl) (hy1_2).1 (hy1_2).2), (ldWA rwf_iLii (0, nl0, 0, 0) (i := (x1_11).toNat) (q := 0) (L := Args.S) (n := 4) ((x1_11).toNat * 4) rfl rfl (by kernel_rfl) (by kernel_rfl) (toNatLt hy1_2) (by decide) rfl), (m_foldOverstyleschoice_1010y2_ok n x1_0 x1_1a x1_2 x1_3 x1_4 x1_5 x1_6 x1_7 x1_8 x1_9 (((Args.S).getD (x1_11).toNat (0, nl0, 0, 0)).1) (((Args.S).getD (x1_11).toNat (0, nl0, 0, 0)).2.1) (((Args.S).getD (x1_11).toNat (0, nl0, 0, 0)).2.2.1) (((Args.S).getD (x1_11).toNat (0, nl0, 0, 0)).2.2.2) (y1_3_0, y1_3_1, y1_3_2, y1_3_3, y1_3_4) hy1_3), trivial⟩
set_option maxRecDepth 100000 in
theorem q_slicesValuesapiStyle1q1_1_4 (n : Nat) {rnd : Option Nat} (x1_0 : Int) (x1_1a : NL) (x1_1t : List (NL)) (x1_2 : Int) (x1_3 : Int) (x1_4 : Bool) (x1_5 : Int) (x1_6 : Int) (x1_7 : Int) (x1_8 : Int) (x1_9 : Bool) (x1_10 : Int) (x1_11 : Int) (hy1_1 : ¬ (x1_11 < x1_10)) : CG P rnd (fnN P 18) 8 (codeOf P 18 [false, false, true]) (S_slicesValuesapiStyle1q1_1 x1_5 x1_6 x1_7 x1_8 x1_9 x1_10 (x1_0, (x1_1a :: x1_1t), x1_2, x1_3, x1_4, x1_11)) (X_slicesValuesapiStyle1q1_1 x1_5 x1_6 x1_7 x1_8 x1_9 x1_10 (x1_0, [x1_1a], x1_2, x1_3, x1_4)) :=
  runC_ok hm (A := aT [(1, .val (.bool false))]) (L := lT []) (wk := ⟨[], [(0, 0, false), (1, 1, false), (2, 2, false), (3, 3, false), (4, 4, false), (5, 5, false), (6, 6, false), (7, 7, false)], 8, 0⟩)
    (ps := [(Value.bool (decide (x1_11 < x1_10))) = (Value.bool false)]) (by kernel_rfl) ⟨(vbF hy1_1), trivial⟩
theorem m_slicesValuesapiStyle1q1_1_ok (n : Nat) {rnd : Option Nat} (x1_5 : Int) (x1_6 : Int) (x1_7 : Int) (x1_8 : Int) (x1_9 : Bool) (x1_10 : Int) (st : Int × List (NL) × Int × Int × Bool × Int) (r : Int × List (NL) × Int × Int × Bool) (h : m_slicesValuesapiStyle1q1_1 n x1_5 x1_6 x1_7 x1_8 x1_9 x1_10 st = some r) : CG P rnd (fnN P 18) 8 (codeOf P 18 [false, true]) (S_slicesValuesapiStyle1q1_1 x1_5 x1_6 x1_7 x1_8 x1_9 x1_10 st) (X_slicesValuesapiStyle1q1_1 x1_5 x1_6 x1_7 x1_8 x1_9 x1_10 r) :=
  CG.iter (b := codeOf P 18 [false, false, true]) (by kernel_rfl) (body := B_slicesValuesapiStyle1q1_1 n x1_5 x1_6 x1_7 x1_8 x1_9 x1_10) (S := S_slicesValuesapiStyle1q1_1 x1_5 x1_6 x1_7 x1_8 x1_9 x1_10) (X := X_slicesValuesapiStyle1q1_1 x1_5 x1_6 x1_7 x1_8 x1_9 x1_10)
    (fun s s' h => by
    obtain ⟨x1_0, x1_1, x1_2, x1_3, x1_4, x1_11⟩ := s
    unfold B_slicesValuesapiStyle1q1_1 at h
    dsimp only at h
    cases x1_1 with
    | nil =>
      dsimp only at h
      by_cases hy1_1 : x1_11 < x1_10
      · rw [if_pos hy1_1] at h
        by_cases hy1_2 : 0 ≤ x1_11 ∧ x1_11 < (((Args.S).length : Nat) : Int)
        · rw [if_pos hy1_2] at h
          obtain ⟨⟨y1_3_0, y1_3_1, y1_3_2, y1_3_3, y1_3_4⟩, hy1_3, h⟩ := Option.bind_eq_some_iff.1 h
          dsimp only at h
          cases y1_3_1 with
          | nil =>
            dsimp only at h
            obtain rfl := Sum.inl.inj (Option.some.inj h); exact q_slicesValuesapiStyle1q1_1_0 n x1_0 x1_2 x1_3 x1_4 x1_5 x1_6 x1_7 x1_8 x1_9 x1_10 x1_11 hy1_1 hy1_2 y1_3_0 y1_3_2 y1_3_3 y1_3_4 hy1_3
          | cons y1_3_1a y1_3_1t =>
            dsimp only at h
            obtain rfl := Sum.inl.inj (Option.some.inj h); exact q_slicesValuesapiStyle1q1_1_1 n x1_0 x1_2 x1_3 x1_4 x1_5 x1_6 x1_7 x1_8 x1_9 x1_10 x1_11 hy1_1 hy1_2 y1_3_0 y1_3_1a y1_3_1t y1_3_2 y1_3_3 y1_3_4 hy1_3
        · rw [if_neg hy1_2] at h; cases h
      · rw [if_neg hy1_1] at h
        cases h
    | cons x1_1a x1_1t =>
      dsimp only at h
      by_cases hy1_1 : x1_11 < x1_10
      · rw [if_pos hy1_1] at h
        by_cases hy1_2 : 0 ≤ x1_11 ∧ x1_11 < (((Args.S).length : Nat) : Int)
        · rw [if_pos hy1_2] at h
          obtain ⟨⟨y1_3_0, y1_3_1, y1_3_2, y1_3_3, y1_3_4⟩, hy1_3, h⟩ := Option.bind_eq_some_iff.1 h
          dsimp only at h
          obtain rfl := Sum.inl.inj (Option.some.inj h); exact q_slicesValuesapiStyle1q1_1_3 n x1_0 x1_1a x1_1t x1_2 x1_3 x1_4 x1_5 x1_6 x1_7 x1_8 x1_9 x1_10 x1_11 hy1_1 hy1_2 y1_3_0 y1_3_1 y1_3_2 y1_3_3 y1_3_4 hy1_3
        · rw [if_neg hy1_2] at h; cases h
      · rw [if_neg hy1_1] at h
        cases h)
    (fun s r h => by
    obtain ⟨x1_0, x1_1, x1_2, x1_3, x1_4, x1_11⟩ := s
    unfold B_slicesValuesapiStyle1q1_1 at h
    dsimp only at h
    cases x1_1 with
    | nil =>
      dsimp only at h
      by_cases hy1_1 : x1_11 < x1_10
      · rw [if_pos hy1_1] at h
        by_cases hy1_2 : 0 ≤ x1_11 ∧ x1_11 < (((Args.S).length : Nat) : Int)
        · rw [if_pos hy1_2] at h
          obtain ⟨⟨y1_3_0, y1_3_1, y1_3_2, y1_3_3, y1_3_4⟩, hy1_3, h⟩ := Option.bind_eq_some_iff.1 h
          dsimp only at h
          cases y1_3_1 with
          | nil =>
            dsimp only at h
            cases h
          | cons y1_3_1a y1_3_1t =>
            dsimp only at h
            cases h
        · rw [if_neg hy1_2] at h; cases h
      · rw [if_neg hy1_1] at h
        obtain rfl := Sum.inr.inj (Option.some.inj h); exact q_slicesValuesapiStyle1q1_1_2 n x1_0 x1_2 x1_3 x1_4 x1_5 x1_6 x1_7 x1_8 x1_9 x1_10 x1_11 hy1_1
    | cons x1_1a x1_1t =>
      dsimp only at h
      by_cases hy1_1 : x1_11 < x1_10
      · rw [if_pos hy1_1] at h
        by_cases hy1_2 : 0 ≤ x1_11 ∧ x1_11 < (((Args.S).length : Nat) : Int)
        · rw [if_pos hy1_2] at h
          obtain ⟨⟨y1_3_0, y1_3_1, y1_3_2, y1_3_3, y1_3_4⟩, hy1_3, h⟩ := Option.bind_eq_some_iff.1 h
          dsimp only at h
          cases h
        · rw [if_neg hy1_2] at h; cases h
      · rw [if_neg hy1_1] at h
        obtain rfl := Sum.inr.inj (Option.some.inj h); exact q_slicesValuesapiStyle1q1_1_4 n x1_0 x1_1a x1_1t x1_2 x1_3 x1_4 x1_5 x1_6 x1_7 x1_8 x1_9 x1_10 x1_11 hy1_1)
    (fun r => by intro hx; cases hx) h
noncomputable def A_slicesValuesapiStyle1q1 (a0 : Int) (a1 : Int) (a2 : Int) (a3 : Bool) (a4 : Int) (a5 : Int) (a6 : Int) (a7 : Int) (a8 : Bool) : List Value := [(Value.func (.yield 0) #[] #[]), (Value.pointer (some ⟨7, 0, none⟩))]
noncomputable def H_slicesValuesapiStyle1q1 (a0 : Int) (a1 : Int) (a2 : Int) (a3 : Bool) (a4 : Int) (a5 : Int) (a6 : Int) (a7 : Int) (a8 : Bool) : AH := ⟨sB [(0, (some (rblk P 14 [false, true, false, true] .ready none [(4, (Value.pointer (some ⟨2, 0, none⟩))), (5, (Value.pointer (some ⟨3, 0, none⟩))), (6, (Value.pointer (some ⟨6, 0, none⟩))), (8, (Value.func (.func 18) #[] #[(Value.pointer (some ⟨7, 0, none⟩))]))] 1))), (1, (some (.marks true))), (2, (some (.cells (layT [(Value.int .i64 a0), (Value.slice none 0 0), (Value.int .i64 a1), (Value.int .i64 a2), (Value.bool a3)]) 38))), (3, (some (.cells (layT [(Value.func (.func 16) #[] #[(Value.pointer (some ⟨4, 0, none⟩)), (Value.pointer (some ⟨5, 0, none⟩))])]) 43))), (4, (some (.cells (layT [(Value.int .i64 a4)]) 3))), (5, (some (.cells (layT [(Value.slice (some ⟨1, 0, some 1⟩) (Args.Y).length Args.cY)]) 23))), (6, (some (.cells (layT [(Value.int .i64 a5), (Value.slice none 0 0), (Value.int .i64 a6), (Value.int .i64 a7), (Value.bool a8)]) 38))), (7, (some (.cells (layT [(Value.slice (some ⟨0, 0, some 1⟩) (Args.S).length Args.cS)]) 22)))], 8, 8⟩
noncomputable def V_slicesValuesapiStyle1q1 (a0 : Int) (a1 : Int) (a2 : Int) (a3 : Bool) (a4 : Int) (a5 : Int) (a6 : Int) (a7 : Int) (a8 : Bool) (r : Int × List (NL) × Int × Int × Bool) : Value := match r with
  | (o0, o1, o2, o3, o4) => (Value.tuple #[])
noncomputable def R_slicesValuesapiStyle1q1 (a0 : Int) (a1 : Int) (a2 : Int) (a3 : Bool) (a4 : Int) (a5 : Int) (a6 : Int) (a7 : Int) (a8 : Bool) (r : Int × List (NL) × Int × Int × Bool) : AH := match r with
  | (o0, o1, o2, o3, o4) => ⟨sB [(0, (some (rblk P 14 [false, true, false, true] .ready none [(4, (Value.pointer (some ⟨2, 0, none⟩))), (5, (Value.pointer (some ⟨3, 0, none⟩))), (6, (Value.pointer (some ⟨6, 0, none⟩))), (8, (Value.func (.func 18) #[] #[(Value.pointer (some ⟨7, 0, none⟩))]))] 1))), (1, (some (.marks true))), (2, (some (.cells (layT [(Value.int .i64 o0), (nlQ o1), (Value.int .i64 o2), (Value.int .i64 o3), (Value.bool o4)]) 38))), (3, (some (.cells (layT [(Value.func (.func 16) #[] #[(Value.pointer (some ⟨4, 0, none⟩)), (Value.pointer (some ⟨5, 0, none⟩))])]) 43))), (4, (some (.cells (layT [(Value.int .i64 a4)]) 3))), (5, (some (.cells (layT [(Value.slice (some ⟨1, 0, some 1⟩) (Args.Y).length Args.cY)]) 23))), (6, (some (.cells (layT [(Value.int .i64 a5), (Value.slice none 0 0), (Value.int .i64 a6), (Value.int .i64 a7), (Value.bool a8)]) 38))), (7, (some (.cells (layT [(Value.slice (some ⟨0, 0, some 1⟩) (Args.S).length Args.cS)]) 22)))], 8, 0⟩
noncomputable abbrev G_slicesValuesapiStyle1q1 (a0 : Int) (a1 : Int) (a2 : Int) (a3 : Bool) (a4 : Int) (a5 : Int) (a6 : Int) (a7 : Int) (a8 : Bool) (r : Int × List (NL) × Int × Int × Bool) : Prop := Gv P (.func 18) (A_slicesValuesapiStyle1q1 a0 a1 a2 a3 a4 a5 a6 a7 a8) (H_slicesValuesapiStyle1q1 a0 a1 a2 a3 a4 a5 a6 a7 a8) (V_slicesValuesapiStyle1q1 a0 a1 a2 a3 a4 a5 a6 a7 a8 r) (R_slicesValuesapiStyle1q1 a0 a1 a2 a3 a4 a5 a6 a7 a8 r)
def m_slicesValuesapiStyle1q1 (n : Nat) (a0 : Int) (a1 : Int) (a2 : Int) (a3 : Bool) (a4 : Int) (a5 : Int) (a6 : Int) (a7 : Int) (a8 : Bool) : Option (Int × List (NL) × Int × Int × Bool) :=
  (m_slicesValuesapiStyle1q1_1 n a4 a5 a6 a7 a8 (((Args.S).length : Nat) : Int) (a0, ([] : List (NL)), a1, a2, a3, 0)).bind fun t => match t with
  | (c1_0, c1_1, c1_2, c1_3, c1_4) =>
    match c1_1 with
    | [] =>
      some (c1_0, ([] : List (NL)), c1_2, c1_3, c1_4)
    | c1_1a :: c1_1t =>
      some (c1_0, [c1_1a], c1_2, c1_3, c1_4)
set_option maxRecDepth 100000 in
theorem p_slicesValuesapiStyle1q1_0 (n : Nat) (a0 : Int) (a1 : Int) (a2 : Int) (a3 : Bool) (a4 : Int) (a5 : Int) (a6 : Int) (a7 : Int) (a8 : Bool) (c1_0 : Int) (c1_2 : Int) (c1_3 : Int) (c1_4 : Bool) (hc1 : m_slicesValuesapiStyle1q1_1 n a4 a5 a6 a7 a8 (((Args.S).length : Nat) : Int) (a0, ([] : List (NL)), a1, a2, a3, 0) = some (c1_0, [], c1_2, c1_3, c1_4)) : G_slicesValuesapiStyle1q1 a0 a1 a2 a3 a4 a5 a6 a7 a8 (c1_0, ([] : List (NL)), c1_2, c1_3, c1_4) :=
  runF_ok hm (A := aT []) (L := lT [(5, ⟨⟨[0, 5, 6, 7], [(0, 0, false), (1, 1, false), (2, 2, false), (3, 3, false), (4, 4, false), (5, 5, false), (6, 6, false), (7, 7, false)], 8, 0⟩, (X_slicesValuesapiStyle1q1_1 a4 a5 a6 a7 a8 (((Args.S).length : Nat) : Int) (c1_0, ([] : List (NL)), c1_2, c1_3, c1_4)).1, (X_slicesValuesapiStyle1q1_1 a4 a5 a6 a7 a8 (((Args.S).length : Nat) : Int) (c1_0, ([] : List (NL)), c1_2, c1_3, c1_4)).2⟩)]) (wk := ⟨[], [(0, 0, false), (1, 1, false), (2, 2, false), (3, 3, false), (4, 4, false), (5, 5, false), (6, 6, false), (7, 7, false)], 8, 0⟩)
    (ps := [CG P none (fnN P 18) 8 (codeOf P 18 [false, true]) (S_slicesValuesapiStyle1q1_1 a4 a5 a6 a7 a8 (((Args.S).length : Nat) : Int) (a0, ([] : List (NL)), a1, a2, a3, 0)) (X_slicesValuesapiStyle1q1_1 a4 a5 a6 a7 a8 (((Args.S).length : Nat) : Int) (c1_0, ([] : List (NL)), c1_2, c1_3, c1_4))]) (by kernel_rfl) ⟨(m_slicesValuesapiStyle1q1_1_ok n a4 a5 a6 a7 a8 (((Args.S).length : Nat) : Int) (a0, ([] : List (NL)), a1, a2, a3, 0) (c1_0, ([] : List (NL)), c1_2, c1_3, c1_4) hc1), trivial⟩
set_option maxRecDepth 100000 in
theorem p_slicesValuesapiStyle1q1_1 (n : Nat) (a0 : Int) (a1 : Int) (a2 : Int) (a3 : Bool) (a4 : Int) (a5 : Int) (a6 : Int) (a7 : Int) (a8 : Bool) (c1_0 : Int) (c1_1a : NL) (c1_1t : List (NL)) (c1_2 : Int) (c1_3 : Int) (c1_4 : Bool) (hc1 : m_slicesValuesapiStyle1q1_1 n a4 a5 a6 a7 a8 (((Args.S).length : Nat) : Int) (a0, ([] : List (NL)), a1, a2, a3, 0) = some (c1_0, (c1_1a :: c1_1t), c1_2, c1_3, c1_4)) : G_slicesValuesapiStyle1q1 a0 a1 a2 a3 a4 a5 a6 a7 a8 (c1_0, [c1_1a], c1_2, c1_3, c1_4) :=
  runF_ok hm (A := aT []) (L := lT [(5, ⟨⟨[0, 5, 6, 7], [(0, 0, false), (1, 1, false), (2, 2, false), (3, 3, false), (4, 4, false), (5, 5, false), (6, 6, false), (7, 7, false)], 8, 0⟩, (X_slicesValuesapiStyle1q1_1 a4 a5 a6 a7 a8 (((Args.S).length : Nat) : Int) (c1_0, (c1_1a :: c1_1t), c1_2, c1_3, c1_4)).1, (X_slicesValuesapiStyle1q1_1 a4 a5 a6 a7 a8 (((Args.S).length : Nat) : Int) (c1_0, (c1_1a :: c1_1t), c1_2, c1_3, c1_4)).2⟩)]) (wk := ⟨[], [(0, 0, false), (1, 1, false), (2, 2, false), (3, 3, false), (4, 4, false), (5, 5, false), (6, 6, false), (7, 7, false)], 8, 0⟩)
    (ps := [CG P none (fnN P 18) 8 (codeOf P 18 [false, true]) (S_slicesValuesapiStyle1q1_1 a4 a5 a6 a7 a8 (((Args.S).length : Nat) : Int) (a0, ([] : List (NL)), a1, a2, a3, 0)) (X_slicesValuesapiStyle1q1_1 a4 a5 a6 a7 a8 (((Args.S).length : Nat) : Int) (c1_0, (c1_1a :: c1_1t), c1_2, c1_3, c1_4))]) (by kernel_rfl) ⟨(m_slicesValuesapiStyle1q1_1_ok n a4 a5 a6 a7 a8 (((Args.S).length : Nat) : Int) (a0, ([] : List (NL)), a1, a2, a3, 0) (c1_0, (c1_1a :: c1_1t), c1_2, c1_3, c1_4) hc1), trivial⟩
theorem m_slicesValuesapiStyle1q1_ok (n : Nat) (a0 : Int) (a1 : Int) (a2 : Int) (a3 : Bool) (a4 : Int) (a5 : Int) (a6 : Int) (a7 : Int) (a8 : Bool) (r : Int × List (NL) × Int × Int × Bool) (h : m_slicesValuesapiStyle1q1 n a0 a1 a2 a3 a4 a5 a6 a7 a8 = some r) : G_slicesValuesapiStyle1q1 a0 a1 a2 a3 a4 a5 a6 a7 a8 r := by
  unfold m_slicesValuesapiStyle1q1 at h
  obtain ⟨⟨c1_0, c1_1, c1_2, c1_3, c1_4⟩, hc1, h⟩ := Option.bind_eq_some_iff.1 h
  dsimp only at h
  cases c1_1 with
  | nil =>
    dsimp only at h
    obtain rfl := Option.some.inj h; exact p_slicesValuesapiStyle1q1_0 n a0 a1 a2 a3 a4 a5 a6 a7 a8 c1_0 c1_2 c1_3 c1_4 hc1
  | cons c1_1a c1_1t =>
    dsimp only at h
    obtain rfl := Option.some.inj h; exact p_slicesValuesapiStyle1q1_1 n a0 a1 a2 a3 a4 a5 a6 a7 a8 c1_0 c1_1a c1_1t c1_2 c1_3 c1_4 hc1

noncomputable def A_foldOverstyleschoiceq1 (a0 : Int) (a1 : Int) (a2 : Int) (a3 : Bool) (a4 : Int) : List Value := [(Value.func (.func 18) #[] #[(Value.pointer (some ⟨0, 0, none⟩))]), (Value.agg #[(Value.int .i64 a0), (Value.slice none 0 0), (Value.int .i64 a1), (Value.int .i64 a2), (Value.bool a3)]), (Value.func (.func 16) #[] #[(Value.pointer (some ⟨1, 0, none⟩)), (Value.pointer (some ⟨2, 0, none⟩))])]
noncomputable def H_foldOverstyleschoiceq1 (a0 : Int) (a1 : Int) (a2 : Int) (a3 : Bool) (a4 : Int) : AH := ⟨sB [(0, (some (.cells (layT [(Value.slice (some ⟨0, 0, some 1⟩) (Args.S).length Args.cS)]) 22))), (1, (some (.cells (layT [(Value.int .i64 a4)]) 3))), (2, (some (.cells (layT [(Value.slice (some ⟨1, 0, some 1⟩) (Args.Y).length Args.cY)]) 23)))], 3, 3⟩
noncomputable def V_foldOverstyleschoiceq1 (a0 : Int) (a1 : Int) (a2 : Int) (a3 : Bool) (a4 : Int) (r : Int × List (NL) × Int × Int × Bool) : Value := match r with
  | (o0, o1, o2, o3, o4) => (Value.agg #[(Value.int .i64 o0), (nlQ o1), (Value.int .i64 o2), (Value.int .i64 o3), (Value.bool o4)])
noncomputable def R_foldOverstyleschoiceq1 (a0 : Int) (a1 : Int) (a2 : Int) (a3 : Bool) (a4 : Int) (r : Int × List (NL) × Int × Int × Bool) : AH := match r with
  | (o0, o1, o2, o3, o4) => ⟨sB [(0, (some (.cells (layT [(Value.slice (some ⟨0, 0, some 1⟩) (Args.S).length Args.cS)]) 22))), (1, (some (.cells (layT [(Value.int .i64 a4)]) 3))), (2, (some (.cells (layT [(Value.slice (some ⟨1, 0, some 1⟩) (Args.Y).length Args.cY)]) 23))), (3, (some (.marks false))), (4, (some (.cells (layT [(Value.int .i64 o0), (nlQ o1), (Value.int .i64 o2), (Value.int .i64 o3), (Value.bool o4)]) 38)))], 5, 0⟩
noncomputable abbrev G_foldOverstyleschoiceq1 (a0 : Int) (a1 : Int) (a2 : Int) (a3 : Bool) (a4 : Int) (r : Int × List (NL) × Int × Int × Bool) : Prop := Gv P (.func 14) (A_foldOverstyleschoiceq1 a0 a1 a2 a3 a4) (H_foldOverstyleschoiceq1 a0 a1 a2 a3 a4) (V_foldOverstyleschoiceq1 a0 a1 a2 a3 a4 r) (R_foldOverstyleschoiceq1 a0 a1 a2 a3 a4 r)
def m_foldOverstyleschoiceq1 (n : Nat) (a0 : Int) (a1 : Int) (a2 : Int) (a3 : Bool) (a4 : Int) : Option (Int × List (NL) × Int × Int × Bool) :=
  (m_slicesValuesapiStyle1q1 n a0 a1 a2 a3 a4 0 0 0 false).bind fun t => match t with
  | (c1_0, c1_1, c1_2, c1_3, c1_4) =>
    match c1_1 with
    | [] =>
      some (c1_0, ([] : List (NL)), c1_2, c1_3, c1_4)
    | c1_1a :: c1_1t =>
      some (c1_0, [c1_1a], c1_2, c1_3, c1_4)
set_option maxRecDepth 100000 in
theorem p_foldOverstyleschoiceq1_0 (n : Nat) (a0 : Int) (a1 : Int) (a2 : Int) (a3 : Bool) (a4 : Int) (c1_0 : Int) (c1_2 : Int) (c1_3 : Int) (c1_4 : Bool) (hc1 : m_slicesValuesapiStyle1q1 n a0 a1 a2 a3 a4 0 0 0 false = some (c1_0, [], c1_2, c1_3, c1_4)) : G_foldOverstyleschoiceq1 a0 a1 a2 a3 a4 (c1_0, ([] : List (NL)), c1_2, c1_3, c1_4) :=
  runF_ok hm (A := aT [(8, .rng ⟨8, [(0, 7, false), (1, 6, false), (2, 3, false), (3, 4, false), (4, 1, false), (5, 2, false), (6, 5, false), (7, 0, false)], (V_slicesValuesapiStyle1q1 a0 a1 a2 a3 a4 0 0 0 false (c1_0, ([] : List (NL)), c1_2, c1_3, c1_4)), (R_slicesValuesapiStyle1q1 a0 a1 a2 a3 a4 0 0 0 false (c1_0, ([] : List (NL)), c1_2, c1_3, c1_4)), [(7, 0, false), (6, 1, false), (3, 2, false), (4, 3, false), (1, 4, false), (2, 5, false), (5, 6, false), (0, 7, false)]⟩ [4, 5, 6, 8])]) (L := lT []) (wk := ⟨[6], [(0, 0, false), (1, 1, false), (2, 2, false), (3, 6, false), (4, 5, false)], 5, 0⟩)
    (ps := [G_slicesValuesapiStyle1q1 a0 a1 a2 a3 a4 0 0 0 false (c1_0, ([] : List (NL)), c1_2, c1_3, c1_4)]) (by kernel_rfl) ⟨(m_slicesValuesapiStyle1q1_ok n a0 a1 a2 a3 a4 0 0 0 false (c1_0, ([] : List (NL)), c1_2, c1_3, c1_4) hc1), trivial⟩
set_option maxRecDepth 100000 in
theorem p_foldOverstyleschoiceq1_1 (n : Nat) (a0 : Int) (a1 : Int) (a2 : Int) (a3 : Bool) (a4 : Int) (c1_0 : Int) (c1_1a : NL) (c1_1t : List (NL)) (c1_2 : Int) (c1_3 : Int) (c1_4 : Bool) (hc1 : m_slicesValuesapiStyle1q1 n a0 a1 a2 a3 a4 0 0 0 false = some (c1_0, (c1_1a :: c1_1t), c1_2, c1_3, c1_4)) : G_foldOverstyleschoiceq1 a0 a1 a2 a3 a4 (c1_0, [c1_1a], c1_2, c1_3, c1_4) :=
  runF_ok hm (A := aT [(8, .rng ⟨8, [(0, 7, false), (1, 6, false), (2, 3, false), (3, 4, false), (4, 1, false), (5, 2, false), (6, 5, false), (7, 0, false)], (V_slicesValuesapiStyle1q1 a0 a1 a2 a3 a4 0 0 0 false (c1_0, (c1_1a :: c1_1t), c1_2, c1_3, c1_4)), (R_slicesValuesapiStyle1q1 a0 a1 a2 a3 a4 0 0 0 false (c1_0, (c1_1a :: c1_1t), c1_2, c1_3, c1_4)), [(7, 0, false), (6, 1, false), (3, 2, false), (4, 3, false), (1, 4, false), (2, 5, false), (5, 6, false), (0, 7, false)]⟩ [4, 5, 6, 8])]) (L := lT []) (wk := ⟨[6], [(0, 0, false), (1, 1, false), (2, 2, false), (3, 6, false), (4, 5, false)], 5, 0⟩)
    (ps := [G_slicesValuesapiStyle1q1 a0 a1 a2 a3 a4 0 0 0 false (c1_0, (c1_1a :: c1_1t), c1_2, c1_3, c1_4)]) (by kernel_rfl) ⟨(m_slicesValuesapiStyle1q1_ok n a0 a1 a2 a3 a4 0 0 0 false (c1_0, (c1_1a :: c1_1t), c1_2, c1_3, c1_4) hc1), trivial⟩
theorem m_foldOverstyleschoiceq1_ok (n : Nat) (a0 : Int) (a1 : Int) (a2 : Int) (a3 : Bool) (a4 : Int) (r : Int × List (NL) × Int × Int × Bool) (h : m_foldOverstyleschoiceq1 n a0 a1 a2 a3 a4 = some r) : G_foldOverstyleschoiceq1 a0 a1 a2 a3 a4 r := by
  unfold m_foldOverstyleschoiceq1 at h
  obtain ⟨⟨c1_0, c1_1, c1_2, c1_3, c1_4⟩, hc1, h⟩ := Option.bind_eq_some_iff.1 h
  dsimp only at h
  cases c1_1 with
  | nil =>
    dsimp only at h
    obtain rfl := Option.some.inj h; exact p_foldOverstyleschoiceq1_0 n a0 a1 a2 a3 a4 c1_0 c1_2 c1_3 c1_4 hc1
  | cons c1_1a c1_1t =>
    dsimp only at h
    obtain rfl := Option.some.inj h; exact p_foldOverstyleschoiceq1_1 n a0 a1 a2 a3 a4 c1_0 c1_1a c1_1t c1_2 c1_3 c1_4 hc1

noncomputable def A_stylesStyleq1 (a0 : Int) : List Value := [(Value.slice (some ⟨0, 0, some 1⟩) (Args.S).length Args.cS), (Value.int .i64 a0), (Value.slice (some ⟨1, 0, some 1⟩) (Args.Y).length Args.cY)]
noncomputable def H_stylesStyleq1 (a0 : Int) : AH := ⟨sB [], 0, 0⟩
noncomputable def V_stylesStyleq1 (a0 : Int) (r : Int) : Value := match r with
  | o0 => (Value.int .i64 o0)
noncomputable def R_stylesStyleq1 (a0 : Int) (r : Int) : AH := match r with
  | o0 => ⟨sB [], 0, 0⟩
noncomputable abbrev G_stylesStyleq1 (a0 : Int) (r : Int) : Prop := Gv P (.func 9) (A_stylesStyleq1 a0) (H_stylesStyleq1 a0) (V_stylesStyleq1 a0 r) (R_stylesStyleq1 a0 r)
def m_stylesStyleq1 (n : Nat) (a0 : Int) : Option (Int) :=
  (m_slicesValuesapiStyleq1 n).bind fun _ =>
  (m_foldOverstyleschoiceq1 n 0 0 0 false a0).bind fun t => match t with
  | (c2_0, c2_1, c2_2, c2_3, c2_4) =>
    match c2_1 with
    | [] =>
      some c2_2
    | c2_1a :: c2_1t =>
      some c2_2
set_option maxRecDepth 100000 in
theorem p_stylesStyleq1_0 (n : Nat) (a0 : Int) (hc1 : m_slicesValuesapiStyleq1 n = some ()) (c2_0 : Int) (c2_2 : Int) (c2_3 : Int) (c2_4 : Bool) (hc2 : m_foldOverstyleschoiceq1 n 0 0 0 false a0 = some (c2_0, [], c2_2, c2_3, c2_4)) : G_stylesStyleq1 a0 c2_2 :=
  runF_ok hm (A := aT [(6, .call ⟨0, [], (V_slicesValuesapiStyleq1  ()), (R_slicesValuesapiStyleq1  ()), [(2, 0, false)]⟩), (9, .call ⟨3, [(0, 2, false), (1, 0, false), (2, 1, false)], (V_foldOverstyleschoiceq1 0 0 0 false a0 (c2_0, ([] : List (NL)), c2_2, c2_3, c2_4)), (R_foldOverstyleschoiceq1 0 0 0 false a0 (c2_0, ([] : List (NL)), c2_2, c2_3, c2_4)), [(2, 0, false), (0, 1, false), (1, 2, false), (4, 4, false)]⟩)]) (L := lT []) (wk := ⟨[6], [], 0, 0⟩)
    (ps := [G_slicesValuesapiStyleq1  (),
    G_foldOverstyleschoiceq1 0 0 0 false a0 (c2_0, ([] : List (NL)), c2_2, c2_3, c2_4)]) (by kernel_rfl) ⟨(m_slicesValuesapiStyleq1_ok n () hc1), (m_foldOverstyleschoiceq1_ok n 0 0 0 false a0 (c2_0, ([] : List (NL)), c2_2, c2_3, c2_4) hc2), trivial⟩
set_option maxRecDepth 100000 in
theorem p_stylesStyleq1_1 (n : Nat) (a0 : Int) (hc1 : m_slicesValuesapiStyleq1 n = some ()) (c2_0 : Int) (c2_1a : NL) (c2_1t : List (NL)) (c2_2 : Int) (c2_3 : Int) (c2_4 : Bool) (hc2 : m_foldOverstyleschoiceq1 n 0 0 0 false a0 = some (c2_0, (c2_1a :: c2_1t), c2_2, c2_3, c2_4)) : G_stylesStyleq1 a0 c2_2 :=
  runF_ok hm (A := aT [(6, .call ⟨0, [], (V_slicesValuesapiStyleq1  ()), (R_slicesValuesapiStyleq1  ()), [(2, 0, false)]⟩), (9, .call ⟨3, [(0, 2, false), (1, 0, false), (2, 1, false)], (V_foldOverstyleschoiceq1 0 0 0 false a0 (c2_0, (c2_1a :: c2_1t), c2_2, c2_3, c2_4)), (R_foldOverstyleschoiceq1 0 0 0 false a0 (c2_0, (c2_1a :: c2_1t), c2_2, c2_3, c2_4)), [(2, 0, false), (0, 1, false), (1, 2, false), (4, 4, false)]⟩)]) (L := lT []) (wk := ⟨[6], [], 0, 0⟩)
    (ps := [G_slicesValuesapiStyleq1  (),
    G_foldOverstyleschoiceq1 0 0 0 false a0 (c2_0, (c2_1a :: c2_1t), c2_2, c2_3, c2_4)]) (by kernel_rfl) ⟨(m_slicesValuesapiStyleq1_ok n () hc1), (m_foldOverstyleschoiceq1_ok n 0 0 0 false a0 (c2_0, (c2_1a :: c2_1t), c2_2, c2_3, c2_4) hc2), trivial⟩
theorem m_stylesStyleq1_ok (n : Nat) (a0 : Int) (r : Int) (h : m_stylesStyleq1 n a0 = some r) : G_stylesStyleq1 a0 r := by
  unfold m_stylesStyleq1 at h
  obtain ⟨_, hc1, h⟩ := Option.bind_eq_some_iff.1 h
  obtain ⟨⟨c2_0, c2_1, c2_2, c2_3, c2_4⟩, hc2, h⟩ := Option.bind_eq_some_iff.1 h
  dsimp only at h
  cases c2_1 with
  | nil =>
    dsimp only at h
    obtain rfl := Option.some.inj h; exact p_stylesStyleq1_0 n a0 hc1 c2_0 c2_2 c2_3 c2_4 hc2
  | cons c2_1a c2_1t =>
    dsimp only at h
    obtain rfl := Option.some.inj h; exact p_stylesStyleq1_1 n a0 hc1 c2_0 c2_1a c2_1t c2_2 c2_3 c2_4 hc2

noncomputable def A_slicesValuesapiStyleq2 (a0 : List (Int × NL × Int × Int)) (a1 : Nat) : List Value := [(Value.slice (some ⟨0, 0, none⟩) (a0).length a1)]
noncomputable def H_slicesValuesapiStyleq2 (a0 : List (Int × NL × Int × Int)) (a1 : Nat) : AH := ⟨sB [(0, (some (.cells (layT (rows rw_iLii a0)) 27)))], 1, 1⟩
noncomputable def V_slicesValuesapiStyleq2 (a0 : List (Int × NL × Int × Int)) (a1 : Nat) (r : Unit) : Value := match r with
  | _ => (Value.func (.func 18) #[] #[(Value.pointer (some ⟨1, 0, none⟩))])
noncomputable def R_slicesValuesapiStyleq2 (a0 : List (Int × NL × Int × Int)) (a1 : Nat) (r : Unit) : AH := match r with
  | _ => ⟨sB [(0, (some (.cells (layT (rows rw_iLii a0)) 27))), (1, (some (.cells (layT [(Value.slice (some ⟨0, 0, none⟩) (a0).length a1)]) 22)))], 2, 1⟩
noncomputable abbrev G_slicesValuesapiStyleq2 (a0 : List (Int × NL × Int × Int)) (a1 : Nat) (r : Unit) : Prop := Gv P (.func 15) (A_slicesValuesapiStyleq2 a0 a1) (H_slicesValuesapiStyleq2 a0 a1) (V_slicesValuesapiStyleq2 a0 a1 r) (R_slicesValuesapiStyleq2 a0 a1 r)
def m_slicesValuesapiStyleq2 (n : Nat) (a0 : List (Int × NL × Int × Int)) (a1 : Nat) : Option (Unit) :=
  some ()
set_option maxRecDepth 100000 in
theorem p_slicesValuesapiStyleq2_0 (n : Nat) (a0 : List (Int × NL × Int × Int)) (a1 : Nat) : G_slicesValuesapiStyleq2 a0 a1 () :=
  runF_ok hm (A := aT []) (L := lT []) (wk := ⟨[2], [(0, 0, true), (1, 1, false)], 2, 1⟩)
    (ps := [FlatB (.cells (layT (rows rw_iLii a0)) 27)]) (by kernel_rfl) ⟨(rows_flat rwf_iLii _ _), trivial⟩
theorem m_slicesValuesapiStyleq2_ok (n : Nat) (a0 : List (Int × NL × Int × Int)) (a1 : Nat) (r : Unit) (h : m_slicesValuesapiStyleq2 n a0 a1 = some r) : G_slicesValuesapiStyleq2 a0 a1 r := by
  unfold m_slicesValuesapiStyleq2 at h
  obtain rfl := Option.some.inj h; exact p_slicesValuesapiStyleq2_0 n a0 a1

noncomputable def A_foldOverstyleschoice_1010y3 (a0 : Int) (a1 : Int) (a2 : Int) (a3 : Bool) (a4 : Int) (a5 : Int) (a6 : Int) (a7 : Int) (a8 : Bool) (a9 : List (Int × NL × Int × Int)) (a10 : Nat) (a11 : Int) (a12 : NL) (a13 : Int) (a14 : Int) : List Value := [(Value.agg #[(Value.int .i64 a11), (nlV a12), (Value.int .i64 a13), (Value.int .i64 a14)])]
noncomputable def H_foldOverstyleschoice_1010y3 (a0 : Int) (a1 : Int) (a2 : Int) (a3 : Bool) (a4 : Int) (a5 : Int) (a6 : Int) (a7 : Int) (a8 : Bool) (a9 : List (Int × NL × Int × Int)) (a10 : Nat) (a11 : Int) (a12 : NL) (a13 : Int) (a14 : Int) : AH := ⟨sB [(0, (some (rblk P 14 [false, true, false, true] .ready none [(4, (Value.pointer (some ⟨2, 0, none⟩))), (5, (Value.pointer (some ⟨3, 0, none⟩))), (6, (Value.pointer (some ⟨6, 0, none⟩))), (8, (Value.func (.func 18) #[] #[(Value.pointer (some ⟨7, 0, none⟩))]))] 1))), (1, (some (.marks true))), (2, (some (.cells (layT [(Value.int .i64 a0), (Value.slice none 0 0), (Value.int .i64 a1), (Value.int .i64 a2), (Value.bool a3)]) 38))), (3, (some (.cells (layT [(Value.func (.func 16) #[] #[(Value.pointer (some ⟨4, 0, none⟩)), (Value.pointer (some ⟨5, 0, none⟩))])]) 43))), (4, (some (.cells (layT [(Value.int .i64 a4)]) 3))), (5, (some (.cells (layT [(Value.slice (some ⟨1, 0, some 1⟩) (Args.Y).length Args.cY)]) 23))), (6, (some (.cells (layT [(Value.int .i64 a5), (Value.slice none 0 0), (Value.int .i64 a6), (Value.int .i64 a7), (Value.bool a8)]) 38))), (7, (some (.cells (layT [(Value.slice (some ⟨8, 0, none⟩) (a9).length a10)]) 22))), (8, (some (.cells (layT (rows rw_iLii a9)) 27)))], 9, 9⟩
noncomputable def V_foldOverstyleschoice_1010y3 (a0 : Int) (a1 : Int) (a2 : Int) (a3 : Bool) (a4 : Int) (a5 : Int) (a6 : Int) (a7 : Int) (a8 : Bool) (a9 : List (Int × NL × Int × Int)) (a10 : Nat) (a11 : Int) (a12 : NL) (a13 : Int) (a14 : Int) (r : Int × List (NL) × Int × Int × Bool) : Value := match r with
  | (o0, o1, o2, o3, o4) => (Value.bool true)
noncomputable def R_foldOverstyleschoice_1010y3 (a0 : Int) (a1 : Int) (a2 : Int) (a3 : Bool) (a4 : Int) (a5 : Int) (a6 : Int) (a7 : Int) (a8 : Bool) (a9 : List (Int × NL × Int × Int)) (a10 : Nat) (a11 : Int) (a12 : NL) (a13 : Int) (a14 : Int) (r : Int × List (NL) × Int × Int × Bool) : AH := match r with
  | (o0, o1, o2, o3, o4) => ⟨sB [(0, (some (rblk P 14 [false, true, false, true] .ready none [(4, (Value.pointer (some ⟨2, 0, none⟩))), (5, (Value.pointer (some ⟨3, 0, none⟩))), (6, (Value.pointer (some ⟨6, 0, none⟩))), (8, (Value.func (.func 18) #[] #[(Value.pointer (some ⟨7, 0, none⟩))]))] 1))), (1, (some (.marks true))), (2, (some (.cells (layT [(Value.int .i64 o0), (nlQ o1), (Value.int .i64 o2), (Value.int .i64 o3), (Value.bool o4)]) 38))), (3, (some (.cells (layT [(Value.func (.func 16) #[] #[(Value.pointer (some ⟨4, 0, none⟩)), (Value.pointer (some ⟨5, 0, none⟩))])]) 43))), (4, (some (.cells (layT [(Value.int .i64 a4)]) 3))), (5, (some (.cells (layT [(Value.slice (some ⟨1, 0, some 1⟩) (Args.Y).length Args.cY)]) 23))), (6, (some (.cells (layT [(Value.int .i64 a5), (Value.slice none 0 0), (Value.int .i64 a6), (Value.int .i64 a7), (Value.bool a8)]) 38))), (7, (some (.cells (layT [(Value.slice (some ⟨8, 0, none⟩) (a9).length a10)]) 22))), (8, (some (.cells (layT (rows rw_iLii a9)) 27)))], 9, 0⟩
def m_foldOverstyleschoice_1010y3 (n : Nat) (a0 : Int) (a1 : Int) (a2 : Int) (a3 : Bool) (a4 : Int) (a5 : Int) (a6 : Int) (a7 : Int) (a8 : Bool) (a9 : List (Int × NL × Int × Int)) (a10 : Nat) (a11 : Int) (a12 : NL) (a13 : Int) (a14 : Int) : Option (Int × List (NL) × Int × Int × Bool) :=
  (m_stylesStyle1q1 n a0 a1 a2 a3 a11 a12 a13 a14 a4).bind fun t => match t with
  | (c1_0, c1_1, c1_2, c1_3, c1_4) =>
    match c1_1 with
    | [] =>
      some (c1_0, ([] : List (NL)), c1_2, c1_3, c1_4)
    | c1_1a :: c1_1t =>
      some (c1_0, [c1_1a], c1_2, c1_3, c1_4)
set_option maxRecDepth 100000 in
theorem p_foldOverstyleschoice_1010y3_0 (n : Nat) (a0 : Int) (a1 : Int) (a2 : Int) (a3 : Bool) (a4 : Int) (a5 : Int) (a6 : Int) (a7 : Int) (a8 : Bool) (a9 : List (Int × NL × Int × Int)) (a10 : Nat) (a11 : Int) (a12 : NL) (a13 : Int) (a14 : Int) (c1_0 : Int) (c1_2 : Int) (c1_3 : Int) (c1_4 : Bool) (hc1 : m_stylesStyle1q1 n a0 a1 a2 a3 a11 a12 a13 a14 a4 = some (c1_0, [], c1_2, c1_3, c1_4)) : Gv P (.yield 0) (A_foldOverstyleschoice_1010y3 a0 a1 a2 a3 a4 a5 a6 a7 a8 a9 a10 a11 a12 a13 a14) (H_foldOverstyleschoice_1010y3 a0 a1 a2 a3 a4 a5 a6 a7 a8 a9 a10 a11 a12 a13 a14) (V_foldOverstyleschoice_1010y3 a0 a1 a2 a3 a4 a5 a6 a7 a8 a9 a10 a11 a12 a13 a14 (c1_0, ([] : List (NL)), c1_2, c1_3, c1_4)) (R_foldOverstyleschoice_1010y3 a0 a1 a2 a3 a4 a5 a6 a7 a8 a9 a10 a11 a12 a13 a14 (c1_0, ([] : List (NL)), c1_2, c1_3, c1_4)) :=
  runY_ok hm (A1 := aT []) (L1 := lT []) (A2 := aT [(4, .call ⟨2, [(0, 4, false), (1, 5, false)], (V_stylesStyle1q1 a0 a1 a2 a3 a11 a12 a13 a14 a4 (c1_0, ([] : List (NL)), c1_2, c1_3, c1_4)), (R_stylesStyle1q1 a0 a1 a2 a3 a11 a12 a13 a14 a4 (c1_0, ([] : List (NL)), c1_2, c1_3, c1_4)), [(10, 2, false)]⟩)]) (L2 := lT []) (wk := ⟨[], [(0, 0, false), (1, 1, false), (2, 2, false), (3, 3, false), (4, 4, false), (5, 5, false), (6, 6, false), (7, 7, false), (8, 8, true)], 9, 0⟩)
    (ps := [G_stylesStyle1q1 a0 a1 a2 a3 a11 a12 a13 a14 a4 (c1_0, ([] : List (NL)), c1_2, c1_3, c1_4),
    FlatB (.cells (layT (rows rw_iLii a9)) 27)]) (by kernel_rfl) ⟨(m_stylesStyle1q1_ok n a0 a1 a2 a3 a11 a12 a13 a14 a4 (c1_0, ([] : List (NL)), c1_2, c1_3, c1_4) hc1), (rows_flat rwf_iLii _ _), trivial⟩
set_option maxRecDepth 100000 in
theorem p_foldOverstyleschoice_1010y3_1 (n : Nat) (a0 : Int) (a1 : Int) (a2 : Int) (a3 : Bool) (a4 : Int) (a5 : Int) (a6 : Int) (a7 : Int) (a8 : Bool) (a9 : List (Int × NL × Int × Int)) (a10 : Nat) (a11 : Int) (a12 : NL) (a13 : Int) (a14 : Int) (c1_0 : Int) (c1_1a : NL) (c1_1t : List (NL)) (c1_2 : Int) (c1_3 : Int) (c1_4 : Bool) (hc1 : m_stylesStyle1q1 n a0 a1 a2 a3 a11 a12 a13 a14 a4 = some (c1_0, (c1_1a :: c1_1t), c1_2, c1_3, c1_4)) : Gv P (.yield 0) (A_foldOverstyleschoice_1010y3 a0 a1 a2 a3 a4 a5 a6 a7 a8 a9 a10 a11 a12 a13 a14) (H_foldOverstyleschoice_1010y3 a0 a1 a2 a3 a4 a5 a6 a7 a8 a9 a10 a11 a12 a13 a14) (V_foldOverstyleschoice_1010y3 a0 a1 a2 a3 a4 a5 a6 a7 a8 a9 a10 a11 a12 a13 a14 (c1_0, [c1_1a], c1_2, c1_3, c1_4)) (R_foldOverstyleschoice_1010y3 a0 a1 a2 a3 a4 a5 a6 a7 a8 a9 a10 a11 a12 a13 a14 (c1_0, [c1_1a], c1_2, c1_3, c1_4)) :=
  runY_ok hm (A1 := aT []) (L1 := lT []) (A2 := aT [(4, .call ⟨2, [(0, 4, false), (1, 5, false)], (V_stylesStyle1q1 a0 a1 a2 a3 a11 a12 a13 a14 a4 (c1_0, (c1_1a :: c1_1t), c1_2, c1_3, c1_4)), (R_stylesStyle1q1 a0 a1 a2 a3 a11 a12 a13 a14 a4 (c1_0, (c1_1a :: c1_1t), c1_2, c1_3, c1_4)), [(10, 2, false)]⟩)]) (L2 := lT []) (wk := ⟨[], [(0, 0, false), (1, 1, false), (2, 2, false), (3, 3, false), (4, 4, false), (5, 5, false), (6, 6, false), (7, 7, false), (8, 8, true)], 9, 0⟩)
    (ps := [G_stylesStyle1q1 a0 a1 a2 a3 a11 a12 a13 a14 a4 (c1_0, (c1_1a :: c1_1t), c1_2, c1_3, c1_4),
    FlatB (.cells (layT (rows rw_iLii a9)) 27)]) (by kernel_rfl) ⟨(m_stylesStyle1q1_ok n a0 a1 a2 a3 a11 a12 a13 a14 a4 (c1_0, (c1_1a :: c1_1t), c1_2, c1_3, c1_4) hc1), (rows_flat rwf_iLii _ _), trivial⟩
theorem m_foldOverstyleschoice_1010y3_ok (n : Nat) (a0 : Int) (a1 : Int) (a2 : Int) (a3 : Bool) (a4 : Int) (a5 : Int) (a6 : Int) (a7 : Int) (a8 : Bool) (a9 : List (Int × NL × Int × Int)) (a10 : Nat) (a11 : Int) (a12 : NL) (a13 : Int) (a14 : Int) (r : Int × List (NL) × Int × Int × Bool) (h : m_foldOverstyleschoice_1010y3 n a0 a1 a2 a3 a4 a5 a6 a7 a8 a9 a10 a11 a12 a13 a14 = some r) : Gv P (.yield 0) (A_foldOverstyleschoice_1010y3 a0 a1 a2 a3 a4 a5 a6 a7 a8 a9 a10 a11 a12 a13 a14) (H_foldOverstyleschoice_1010y3 a0 a1 a2 a3 a4 a5 a6 a7 a8 a9 a10 a11 a12 a13 a14) (V_foldOverstyleschoice_1010y3 a0 a1 a2 a3 a4 a5 a6 a7 a8 a9 a10 a11 a12 a13 a14 r) (R_foldOverstyleschoice_1010y3 a0 a1 a2 a3 a4 a5 a6 a7 a8 a9 a10 a11 a12 a13 a14 r) := by
  unfold m_foldOverstyleschoice_1010y3 at h
  obtain ⟨⟨c1_0, c1_1, c1_2, c1_3, c1_4⟩, hc1, h⟩ := Option.bind_eq_some_iff.1 h
  dsimp only at h
  cases c1_1 with
  | nil =>
    dsimp only at h
    obtain rfl := Option.some.inj h; exact p_foldOverstyleschoice_1010y3_0 n a0 a1 a2 a3 a4 a5 a6 a7 a8 a9 a10 a11 a12 a13 a14 c1_0 c1_2 c1_3 c1_4 hc1
  | cons c1_1a c1_1t =>
    dsimp only at h
    obtain rfl := Option.some.inj h; exact p_foldOverstyleschoice_1010y3_1 n a0 a1 a2 a3 a4 a5 a6 a7 a8 a9 a10 a11 a12 a13 a14 c1_0 c1_1a c1_1t c1_2 c1_3 c1_4 hc1

noncomputable def A_foldOverstyleschoice_1010y4 (a0 : Int) (a1 : NL) (a2 : Int) (a3 : Int) (a4 : Bool) (a5 : Int) (a6 : Int) (a7 : Int) (a8 : Int) (a9 : Bool) (a10 : List (Int × NL × Int × Int)) (a11 : Nat) (a12 : Int) (a13 : NL) (a14 : Int) (a15 : Int) : List Value := [(Value.agg #[(Value.int .i64 a12), (nlV a13), (Value.int .i64 a14), (Value.int .i64 a15)])]
noncomputable def H_foldOverstyleschoice_1010y4 (a0 : Int) (a1 : NL) (a2 : Int) (a3 : Int) (a4 : Bool) (a5 : Int) (a6 : Int) (a7 : Int) (a8 : Int) (a9 : Bool) (a10 : List (Int × NL × Int × Int)) (a11 : Nat) (a12 : Int) (a13 : NL) (a14 : Int) (a15 : Int) : AH := ⟨sB [(0, (some (rblk P 14 [false, true, false, true] .ready none [(4, (Value.pointer (some ⟨2, 0, none⟩))), (5, (Value.pointer (some ⟨3, 0, none⟩))), (6, (Value.pointer (some ⟨6, 0, none⟩))), (8, (Value.func (.func 18) #[] #[(Value.pointer (some ⟨7, 0, none⟩))]))] 1))), (1, (some (.marks true))), (2, (some (.cells (layT [(Value.int .i64 a0), (nlV a1), (Value.int .i64 a2), (Value.int .i64 a3), (Value.bool a4)]) 38))), (3, (some (.cells (layT [(Value.func (.func 16) #[] #[(Value.pointer (some ⟨4, 0, none⟩)), (Value.pointer (some ⟨5, 0, none⟩))])]) 43))), (4, (some (.cells (layT [(Value.int .i64 a5)]) 3))), (5, (some (.cells (layT [(Value.slice (some ⟨1, 0, some 1⟩) (Args.Y).length Args.cY)]) 23))), (6, (some (.cells (layT [(Value.int .i64 a6), (Value.slice none 0 0), (Value.int .i64 a7), (Value.int .i64 a8), (Value.bool a9)]) 38))), (7, (some (.cells (layT [(Value.slice (some ⟨8, 0, none⟩) (a10).length a11)]) 22))), (8, (some (.cells (layT (rows rw_iLii a10)) 27)))], 9, 9⟩
noncomputable def V_foldOverstyleschoice_1010y4 (a0 : Int) (a1 : NL) (a2 : Int) (a3 : Int) (a4 : Bool) (a5 : Int) (a6 : Int) (a7 : Int) (a8 : Int) (a9 : Bool) (a10 : List (Int × NL × Int × Int)) (a11 : Nat) (a12 : Int) (a13 : NL) (a14 : Int) (a15 : Int) (r : Int × NL × Int × Int × Bool) : Value := match r with
  | (o0, o1, o2, o3, o4) => (Value.bool true)
noncomputable def R_foldOverstyleschoice_1010y4 (a0 : Int) (a1 : NL) (a2 : Int) (a3 : Int) (a4 : Bool) (a5 : Int) (a6 : Int) (a7 : Int) (a8 : Int) (a9 : Bool) (a10 : List (Int × NL × Int × Int)) (a11 : Nat) (a12 : Int) (a13 : NL) (a14 : Int) (a15 : Int) (r : Int × NL × Int × Int × Bool) : AH := match r with
  | (o0, o1, o2, o3, o4) => ⟨sB [(0, (some (rblk P 14 [false, true, false, true] .ready none [(4, (Value.pointer (some ⟨2, 0, none⟩))), (5, (Value.pointer (some ⟨3, 0, none⟩))), (6, (Value.pointer (some ⟨6, 0, none⟩))), (8, (Value.func (.func 18) #[] #[(Value.pointer (some ⟨7, 0, none⟩))]))] 1))), (1, (some (.marks true))), (2, (some (.cells (layT [(Value.int .i64 o0), (nlV o1), (Value.int .i64 o2), (Value.int .i64 o3), (Value.bool o4)]) 38))), (3, (some (.cells (layT [(Value.func (.func 16) #[] #[(Value.pointer (some ⟨4, 0, none⟩)), (Value.pointer (some ⟨5, 0, none⟩))])]) 43))), (4, (some (.cells (layT [(Value.int .i64 a5)]) 3))), (5, (some (.cells (layT [(Value.slice (some ⟨1, 0, some 1⟩) (Args.Y).length Args.cY)]) 23))), (6, (some (.cells (layT [(Value.int .i64 a6), (Value.slice none 0 0), (Value.int .i64 a7), (Value.int .i64 a8), (Value.bool a9)]) 38))), (7, (some (.cells (layT [(Value.slice (some ⟨8, 0, none⟩) (a10).length a11)]) 22))), (8, (some (.cells (layT (rows rw_iLii a10)) 27)))], 9, 0⟩
def m_foldOverstyleschoice_1010y4 (n : Nat) (a0 : Int) (a1 : NL) (a2 : Int) (a3 : Int) (a4 : Bool) (a5 : Int) (a6 : Int) (a7 : Int) (a8 : Int) (a9 : Bool) (a10 : List (Int × NL × Int × Int)) (a11 : Nat) (a12 : Int) (a13 : NL) (a14 : Int) (a15 : Int) : Option (Int × NL × Int × Int × Bool) :=
  (m_stylesStyle1q2 n a0 a1 a2 a3 a4 a12 a13 a14 a15 a5).bind fun t => match t with
  | (c1_0, c1_1, c1_2, c1_3, c1_4) =>
    some (c1_0, c1_1, c1_2, c1_3, c1_4)
set_option maxRecDepth 100000 in
theorem p_foldOverstyleschoice_1010y4_0 (n : Nat) (a0 : Int) (a1 : NL) (a2 : Int) (a3 : Int) (a4 : Bool) (a5 : Int) (a6 : Int) (a7 : Int) (a8 : Int) (a9 : Bool) (a10 : List (Int × NL × Int × Int)) (a11 : Nat) (a12 : Int) (a13 : NL) (a14 : Int) (a15 : Int) (c1_0 : Int) (c1_1 : NL) (c1_2 : Int) (c1_3 : Int) (c1_4 : Bool) (hc1 : m_stylesStyle1q2 n a0 a1 a2 a3 a4 a12 a13 a14 a15 a5 = some (c1_0, c1_1, c1_2, c1_3, c1_4)) : Gv P (.yield 0) (A_foldOverstyleschoice_1010y4 a0 a1 a2 a3 a4 a5 a6 a7 a8 a9 a10 a11 a12 a13 a14 a15) (H_foldOverstyleschoice_1010y4 a0 a1 a2 a3 a4 a5 a6 a7 a8 a9 a10 a11 a12 a13 a14 a15) (V_foldOverstyleschoice_1010y4 a0 a1 a2 a3 a4 a5 a6 a7 a8 a9 a10 a11 a12 a13 a14 a15 (c1_0, c1_1, c1_2, c1_3, c1_4)) (R_foldOverstyleschoice_1010y4 a0 a1 a2 a3 a4 a5 a6 a7 a8 a9 a10 a11 a12 a13 a14 a15 (c1_0, c1_1, c1_2, c1_3, c1_4)) :=
  runY_ok hm (A1 := aT []) (L1 := lT []) (A2 := aT [(4, .call ⟨2, [(0, 4, false), (1, 5, false)], (V_stylesStyle1q2 a0 a1 a2 a3 a4 a12 a13 a14 a15 a5 (c1_0, c1_1, c1_2, c1_3, c1_4)), (R_stylesStyle1q2 a0 a1 a2 a3 a4 a12 a13 a14 a15 a5 (c1_0, c1_1, c1_2, c1_3, c1_4)), [(10, 2, false)]⟩)]) (L2 := lT []) (wk := ⟨[], [(0, 0, false), (1, 1, false), (2, 2, false), (3, 3, false), (4, 4, false), (5, 5, false), (6, 6, false), (7, 7, false), (8, 8, true)], 9, 0⟩)
    (ps := [G_stylesStyle1q2 a0 a1 a2 a3 a4 a12 a13 a14 a15 a5 (c1_0, c1_1, c1_2, c1_3, c1_4),
    FlatB (.cells (layT (rows rw_iLii a10)) 27)]) (by kernel_rfl) ⟨(m_stylesStyle1q2_ok n a0 a1 a2 a3 a4 a12 a13 a14 a15 a5 (c1_0, c1_1, c1_2, c1_3, c1_4) hc1), (rows_flat rwf_iLii _ _), trivial⟩
theorem m_foldOverstyleschoice_1010y4_ok (n : Nat) (a0 : Int) (a1 : NL) (a2 : Int) (a3 : Int) (a4 : Bool) (a5 : Int) (a6 : Int) (a7 : Int) (a8 : Int) (a9 : Bool) (a10 : List (Int × NL × Int × Int)) (a11 : Nat) (a12 : Int) (a13 : NL) (a14 : Int) (a15 : Int) (r : Int × NL × Int × Int × Bool) (h : m_foldOverstyleschoice_1010y4 n a0 a1 a2 a3 a4 a5 a6 a7 a8 a9 a10 a11 a12 a13 a14 a15 = some r) : Gv P (.yield 0) (A_foldOverstyleschoice_1010y4 a0 a1 a2 a3 a4 a5 a6 a7 a8 a9 a10 a11 a12 a13 a14 a15) (H_foldOverstyleschoice_1010y4 a0 a1 a2 a3 a4 a5 a6 a7 a8 a9 a10 a11 a12 a13 a14 a15) (V_foldOverstyleschoice_1010y4 a0 a1 a2 a3 a4 a5 a6 a7 a8 a9 a10 a11 a12 a13 a14 a15 r) (R_foldOverstyleschoice_1010y4 a0 a1 a2 a3 a4 a5 a6 a7 a8 a9 a10 a11 a12 a13 a14 a15 r) := by
  unfold m_foldOverstyleschoice_1010y4 at h
  obtain ⟨⟨c1_0, c1_1, c1_2, c1_3, c1_4⟩, hc1, h⟩ := Option.bind_eq_some_iff.1 h
  dsimp only at h
  obtain rfl := Option.some.inj h; exact p_foldOverstyleschoice_1010y4_0 n a0 a1 a2 a3 a4 a5 a6 a7 a8 a9 a10 a11 a12 a13 a14 a15 c1_0 c1_1 c1_2 c1_3 c1_4 hc1

noncomputable def S_slicesValuesapiStyle1q2_1 (x1_5 : Int) (x1_6 : Int) (x1_7 : Int) (x1_8 : Int) (x1_9 : Bool) (x1_10 : List (Int × NL × Int × Int)) (x1_11 : Nat) (x1_12 : Int) (st : Int × List (NL) × Int × Int × Bool × Int) : XSt := match st with
  | (x1_0, x1_1, x1_2, x1_3, x1_4, x1_13) => (sT 16 [(0, (Value.func (.yield 0) #[] #[])), (5, (Value.slice (some ⟨8, 0, none⟩) (x1_10).length x1_11)), (6, (Value.int .i64 x1_12)), (7, (Value.int .i64 x1_13))], [], ⟨sB [(0, (some (rblk P 14 [false, true, false, true] .ready none [(4, (Value.pointer (some ⟨2, 0, none⟩))), (5, (Value.pointer (some ⟨3, 0, none⟩))), (6, (Value.pointer (some ⟨6, 0, none⟩))), (8, (Value.func (.func 18) #[] #[(Value.pointer (some ⟨7, 0, none⟩))]))] 1))), (1, (some (.marks true))), (2, (some (.cells (layT [(Value.int .i64 x1_0), (nlQ x1_1), (Value.int .i64 x1_2), (Value.int .i64 x1_3), (Value.bool x1_4)]) 38))), (3, (some (.cells (layT [(Value.func (.func 16) #[] #[(Value.pointer (some ⟨4, 0, none⟩)), (Value.pointer (some ⟨5, 0, none⟩))])]) 43))), (4, (some (.cells (layT [(Value.int .i64 x1_5)]) 3))), (5, (some (.cells (layT [(Value.slice (some ⟨1, 0, some 1⟩) (Args.Y).length Args.cY)]) 23))), (6, (some (.cells (layT [(Value.int .i64 x1_6), (Value.slice none 0 0), (Value.int .i64 x1_7), (Value.int .i64 x1_8), (Value.bool x1_9)]) 38))), (7, (some (.cells (layT [(Value.slice (some ⟨8, 0, none⟩) (x1_10).length x1_11)]) 22))), (8, (some (.cells (layT (rows rw_iLii x1_10)) 27)))], 9, 0⟩)
noncomputable def X_slicesValuesapiStyle1q2_1 (x1_5 : Int) (x1_6 : Int) (x1_7 : Int) (x1_8 : Int) (x1_9 : Bool) (x1_10 : List (Int × NL × Int × Int)) (x1_11 : Nat) (x1_12 : Int) (r : Int × List (NL) × Int × Int × Bool) : Ex × XSt := match r with
  | (z1_0, z1_1, z1_2, z1_3, z1_4) => (.exit 0, (sT 16 [], [], ⟨sB [(0, (some (rblk P 14 [false, true, false, true] .ready none [(4, (Value.pointer (some ⟨2, 0, none⟩))), (5, (Value.pointer (some ⟨3, 0, none⟩))), (6, (Value.pointer (some ⟨6, 0, none⟩))), (8, (Value.func (.func 18) #[] #[(Value.pointer (some ⟨7, 0, none⟩))]))] 1))), (1, (some (.marks true))), (2, (some (.cells (layT [(Value.int .i64 z1_0), (nlQ z1_1), (Value.int .i64 z1_2), (Value.int .i64 z1_3), (Value.bool z1_4)]) 38))), (3, (some (.cells (layT [(Value.func (.func 16) #[] #[(Value.pointer (some ⟨4, 0, none⟩)), (Value.pointer (some ⟨5, 0, none⟩))])]) 43))), (4, (some (.cells (layT [(Value.int .i64 x1_5)]) 3))), (5, (some (.cells (layT [(Value.slice (some ⟨1, 0, some 1⟩) (Args.Y).length Args.cY)]) 23))), (6, (some (.cells (layT [(Value.int .i64 x1_6), (Value.slice none 0 0), (Value.int .i64 x1_7), (Value.int .i64 x1_8), (Value.bool x1_9)]) 38))), (7, (some (.cells (layT [(Value.slice (some ⟨8, 0, none⟩) (x1_10).length x1_11)]) 22))), (8, (some (.cells (layT (rows rw_iLii x1_10)) 27)))], 9, 0⟩))
def B_slicesValuesapiStyle1q2_1 (n : Nat) (x1_5 : Int) (x1_6 : Int) (x1_7 : Int) (x1_8 : Int) (x1_9 : Bool) (x1_10 : List (Int × NL × Int × Int)) (x1_11 : Nat) (x1_12 : Int) (st : Int × List (NL) × Int × Int × Bool × Int) : Option ((Int × List (NL) × Int × Int × Bool × Int) ⊕ (Int × List (NL) × Int × Int × Bool)) := match st with
  | (x1_0, x1_1, x1_2, x1_3, x1_4, x1_13) =>
    match x1_1 with
    | [] =>
      if x1_13 < x1_12 then
        if 0 ≤ x1_13 ∧ x1_13 < (((x1_10).length : Nat) : Int) then
          (m_foldOverstyleschoice_1010y3 n x1_0 x1_2 x1_3 x1_4 x1_5 x1_6 x1_7 x1_8 x1_9 x1_10 x1_11 (((x1_10).getD (x1_13).toNat (0, nl0, 0, 0)).1) (((x1_10).getD (x1_13).toNat (0, nl0, 0, 0)).2.1) (((x1_10).getD (x1_13).toNat (0, nl0, 0, 0)).2.2.1) (((x1_10).getD (x1_13).toNat (0, nl0, 0, 0)).2.2.2)).bind fun t => match t with
          | (y1_3_0, y1_3_1, y1_3_2, y1_3_3, y1_3_4) =>
            match y1_3_1 with
            | [] =>
              some (.inl (y1_3_0, ([] : List (NL)), y1_3_2, y1_3_3, y1_3_4, (w64 (x1_13 + (1 : Int)))))
            | y1_3_1a :: y1_3_1t =>
              some (.inl (y1_3_0, [y1_3_1a], y1_3_2, y1_3_3, y1_3_4, (w64 (x1_13 + (1 : Int)))))
        else none
      else
        some (.inr (x1_0, ([] : List (NL)), x1_2, x1_3, x1_4))
    | x1_1a :: x1_1t =>
      if x1_13 < x1_12 then
        if 0 ≤ x1_13 ∧ x1_13 < (((x1_10).length : Nat) : Int) then
          (m_foldOverstyleschoice_1010y4 n x1_0 x1_1a x1_2 x1_3 x1_4 x1_5 x1_6 x1_7 x1_8 x1_9 x1_10 x1_11 (((x1_10).getD (x1_13).toNat (0, nl0, 0, 0)).1) (((x1_10).getD (x1_13).toNat (0, nl0, 0, 0)).2.1) (((x1_10).getD (x1_13).toNat (0, nl0, 0, 0)).2.2.1) (((x1_10).getD (x1_13).toNat (0, nl0, 0, 0)).2.2.2)).bind fun t => match t with
          | (y1_3_0, y1_3_1, y1_3_2, y1_3_3, y1_3_4) =>
            some (.inl (y1_3_0, [y1_3_1], y1_3_2, y1_3_3, y1_3_4, (w64 (x1_13 + (1 : Int)))))
        else none
      else
        some (.inr (x1_0, [x1_1a], x1_2, x1_3, x1_4))
def m_slicesValuesapiStyle1q2_1 (n : Nat) (x1_5 : Int) (x1_6 : Int) (x1_7 : Int) (x1_8 : Int) (x1_9 : Bool) (x1_10 : List (Int × NL × Int × Int)) (x1_11 : Nat) (x1_12 : Int) (st : Int × List (NL) × Int × Int × Bool × Int) : Option (Int × List (NL) × Int × Int × Bool) := iterM (B_slicesValuesapiStyle1q2_1 n x1_5 x1_6 x1_7 x1_8 x1_9 x1_10 x1_11 x1_12) n st
set_option maxRecDepth 100000 in
theorem q_slicesValuesapiStyle1q2_1_0 (n : Nat) {rnd : Option Nat} (x1_0 : Int) (x1_2 : Int) (x1_3 : Int) (x1_4 : Bool) (x1_5 : Int) (x1_6 : Int) (x1_7 : Int) (x1_8 : Int) (x1_9 : Bool) (x1_10 : List (Int × NL × Int × Int)) (x1_11 : Nat) (x1_12 : Int) (x1_13 : Int) (hy1_1 : x1_13 < x1_12) (hy1_2 : 0 ≤ x1_13 ∧ x1_13 < (((x1_10).length : Nat) : Int)) (y1_3_0 : Int) (y1_3_2 : Int) (y1_3_3 : Int) (y1_3_4 : Bool) (hy1_3 : m_foldOverstyleschoice_1010y3 n x1_0 x1_2 x1_3 x1_4 x1_5 x1_6 x1_7 x1_8 x1_9 x1_10 x1_11 (((x1_10).getD (x1_13).toNat (0, nl0, 0, 0)).1) (((x1_10).getD (x1_13).toNat (0, nl0, 0, 0)).2.1) (((x1_10).getD (x1_13).toNat (0, nl0, 0, 0)).2.2.1) (((x1_10).getD (x1_13).toNat (0, nl0, 0, 0)).2.2.2) = some (y1_3_0, [], y1_3_2, y1_3_3, y1_3_4)) : CG P rnd (fnN P 18) 9 (codeOf P 18 [false, false, true]) (S_slicesValuesapiStyle1q2_1 x1_5 x1_6 x1_7 x1_8 x1_9 x1_10 x1_11 x1_12 (x1_0, ([] : List (NL)), x1_2, x1_3, x1_4, x1_13)) (.normal, S_slicesValuesapiStyle1q2_1 x1_5 x1_6 x1_7 x1_8 x1_9 x1_10 x1_11 x1_12 (y1_3_0, ([] : List (NL)), y1_3_2, y1_3_3, y1_3_4, (w64 (x1_13 + (1 : Int))))) :=
  runC_ok hm (A := aT [(1, .val (.bool true)), (7, .pur (Value.pointer (some ⟨8, ((x1_13).toNat * 4), none⟩))), (8, .ld (Value.agg #[(Value.int .i64 (((x1_10).getD (x1_13).toNat (0, nl0, 0, 0)).1)), (nlV (((x1_10).getD (x1_13).toNat (0, nl0, 0, 0)).2.1)), (Value.int .i64 (((x1_10).getD (x1_13).toNat (0, nl0, 0, 0)).2.2.1)), (Value.int .i64 (((x1_10).getD (x1_13).toNat (0, nl0, 0, 0)).2.2.2))])), (14, .call ⟨9, [(0, 0, false), (1, 1, false), (2, 2, false), (3, 3, false), (4, 4, false), (5, 5, false), (6, 6, false), (7, 7, false), (8, 8, true)], (V_foldOverstyleschoice_1010y3 x1_0 x1_2 x1_3 x1_4 x1_5 x1_6 x1_7 x1_8 x1_9 x1_10 x1_11 (((x1_10).getD (x1_13).toNat (0, nl0, 0, 0)).1) (((x1_10).getD (x1_13).toNat (0, nl0, 0, 0)).2.1) (((x1_10).getD (x1_13).toNat (0, nl0, 0, 0)).2.2.1) (((x1_10).getD (x1_13).toNat (0, nl0, 0, 0)).2.2.2) (y1_3_0, ([] : List (NL)), y1_3_2, y1_3_3, y1_3_4)), (R_foldOverstyleschoice_1010y3 x1_0 x1_2 x1_3 x1_4 x1_5 x1_6 x1_7 x1_8 x1_9 x1_10 x1_11 (((x1_10).getD (x1_13).toNat (0, nl0, 0, 0)).1) (((x1_10).getD (x1_13).toNat (0, nl0, 0, 0)).2.1) (((x1_10).getD (x1_13).toNat (0, nl0, 0, 0)).2.2.1) (((x1_10).getD (x1_13).toNat (0, nl0, 0, 0)).2.2.2) (y1_3_0, ([] : List (NL)), y1_3_2, y1_3_3, y1_3_4)), [(0, 0, false), (1, 1, false), (2, 2, false), (3, 3, false), (4, 4, false), (5, 5, false), (6, 6, false), (7, 7, false), (8, 8, true)]⟩)]) (L := lT []) (wk := ⟨[0, 5, 6, 7], [(0, 0, false), (1, 1, false), (2, 2, false), (3, 3, false), (4, 4, false), (5, 5, false), (6, 6, false), (7, 7, false), (8, 8, true)], 9, 0⟩)
    (ps := [(Value.bool (decide (x1_13 < x1_12))) = (Value.bool true),
    opIndexAddr P 22 (Value.slice (some ⟨8, 0, none⟩) (x1_10).length x1_11) (Value.int .i64 x1_13) Ax.h0 = some ((Value.pointer (some ⟨8, ((x1_13).toNat * 4), none⟩)), Ax.h0),
    rdT (layT (rows rw_iLii x1_10)) 4 ((x1_13).toNat * 4) = some [(Value.int .i64 (((x1_10).getD (x1_13).toNat (0, nl0, 0, 0)).1)), (nlV (((x1_10).getD (x1_13).toNat (0, nl0, 0, 0)).2.1)), (Value.int .i64 (((x1_10).getD (x1_13).toNat (0, nl0, 0, 0)).2.2.1)), (Value.int .i64 (((x1_10).getD (x1_13).toNat (0, nl0, 0, 0)).2.2.2))],
    Gv P (.yield 0) (A_foldOverstyleschoice_1010y3 x1_0 x1_2 x1_3 x1_4 x1_5 x1_6 x1_7 x1_8 x1_9 x1_10 x1_11 (((x1_10).getD (x1_13).toNat (0, nl0, 0, 0)).1) (((x1_10).getD (x1_13).toNat (0, nl0, 0, 0)).2.1) (((x1_10).getD (x1_13).toNat (0, nl0, 0, 0)).2.2.1) (((x1_10).getD (x1_13).toNat (0, nl0, 0, 0)).2.2.2)) (H_foldOverstyleschoice_1010y3 x1_0 x1_2 x1_3 x1_4 x1_5 x1_6 x1_7 x1_8 x1_9 x1_10 x1_11 (((x1_10).getD (x1_13).toNat (0, nl0, 0, 0)).1) (((x1_10).getD (x1_13).toNat (0, nl0, 0, 0)).2.1) (((x1_10).getD (x1_13).toNat (0, nl0, 0, 0)).2.2.1) (((x1_10).getD (x1_13).toNat (0, nl0, 0, 0)).2.2.2)) (V_foldOverstyleschoice_1010y3 x1_0 x1_2 x1_3 x1_4 x1_5 x1_6 x1_7 x1_8 x1_9 x1_10 x1_11 (((x1_10).getD (x1_13).toNat (0, nl0, 0, 0)).1) (((x1_10).getD (x1_13).toNat (0, nl0, 0, 0)).2.1) (((x1_10).getD (x1_13).toNat (0, nl0, 0, 0)).2.2.1) (((x1_10).getD (x1_13).toNat (0, nl0, 0, 0)).2.2.2) (y1_3_0, ([] : List (NL)), y1_3_2, y1_3_3, y1_3_4)) (R_foldOverstyleschoice_1010y3 x1_0 x1_2 x1_3 x1_4 x1_5 x1_6 x1_7 x1_8 x1_9 x1_10 x1_11 (((x1_10).getD (x1_13).toNat (0, nl0, 0, 0)).1) (((x1_10).getD (x1_13).toNat (0, nl0, 0, 0)).2.1) (((x1_10).getD (x1_13).toNat (0, nl0, 0, 0)).2.2.1) (((x1_10).getD (x1_13).toNat (0, nl0, 0, 0)).2.2.2) (y1_3_0, ([] : List (NL)), y1_3_2, y1_3_3, y1_3_4)),
    FlatB (.cells (layT (rows rw_iLii x1_10)) 27),
    FlatB (.cells (layT (rows rw_iLii x1_10)) 27),
    FlatB (.cells (layT (rows rw_iLii x1_10)) 27)]) (by kernel_rfl) ⟨(vbT hy1_1), (ixS (e := 27) (by kernel_rfl) (by kernel_rfl) (hy1_2).1 (hy1_2).2), (rows_rdp rwf_iLii (0, nl0, 0, 0) (i := (x1_13).toNat) (j := 0) ((x1_13).toNat * 4) rfl (toNatLt hy1_2) (by decide) rfl), (m_foldOverstyleschoice_1010y3_ok n x1_0 x1_2 x1_3 x1_4 x1_5 x1_6 x1_7 x1_8 x1_9 x1_10 x1_11 (((x1_10).getD (x1_13).toNat (0, nl0, 0, 0)).1) (((x1_10).getD (x1_13).toNat (0, nl0, 0, 0)).2.1) (((x1_10).getD (x1_13).toNat (0, nl0, 0, 0)).2.2.1) (((x1_10).getD (x1_13).toNat (0, nl0, 0, 0)).2.2.2) (y1_3_0, ([] : List (NL)), y1_3_2, y1_3_3, y1_3_4) hy1_3), (rows_flat rwf_iLii _ _), (rows_flat rwf_iLii _ _), (rows_flat rwf_iLii _ _), trivial⟩
set_option maxRecDepth 100000 in
theorem q_slicesValuesapiStyle1q2_1_1 (n : Nat) {rnd : Option Nat} (x1_0 : Int) (x1_2 : Int) (x1_3 : Int) (x1_4 : Bool) (x1_5 : Int) (x1_6 : Int) (x1_7 : Int) (x1_8 : Int) (x1_9 : Bool) (x1_10 : List (Int × NL × Int × Int)) (x1_11 : Nat) (x1_12 : Int) (x1_13 : Int) (hy1_1 : x1_13 < x1_12) (hy1_2 : 0 ≤ x1_13 ∧ x1_13 < (((x1_10).length : Nat) : Int)) (y1_3_0 : Int) (y1_3_1a : NL) (y1_3_1t : List (NL)) (y1_3_2 : Int) (y1_3_3 : Int) (y1_3_4 : Bool) (hy1_3 : m_foldOverstyleschoice_1010y3 n x1_0 x1_2 x1_3 x1_4 x1_5 x1_6 x1_7 x1_8 x1_9 x1_10 x1_11 (((x1_10).getD (x1_13).toNat (0, nl0, 0, 0)).1) (((x1_10).getD (x1_13).toNat (0, nl0, 0, 0)).2.1) (((x1_10).getD (x1_13).toNat (0, nl0, 0, 0)).2.2.1) (((x1_10).getD (x1_13).toNat (0, nl0, 0, 0)).2.2.2) = some (y1_3_0, (y1_3_1a :: y1_3_1t), y1_3_2, y1_3_3, y1_3_4)) : CG P rnd (fnN P 18) 9 (codeOf P 18 [false, false, true]) (S_slicesValuesapiStyle1q2_1 x1_5 x1_6 x1_7 x1_8 x1_9 x1_10 x1_11 x1_12 (x1_0, ([] : List (NL)), x1_2, x1_3, x1_4, x1_13)) (.normal, S_slicesValuesapiStyle1q2_1 x1_5 x1_6 x1_7 x1_8 x1_9 x1_10 x1_11 x1_12 (y1_3_0, [y1_3_1a], y1_3_2, y1_3_3, y1_3_4, (w64 (x1_13 + (1 : Int))))) :=
  runC_ok hm (A := aT [(1, .val (.bool true)), (7, .pur (Value.pointer (some ⟨8, ((x1_13).toNat * 4), none⟩))), (8, .ld (Value.agg #[(Value.int .i64 (((x1_10).getD (x1_13).toNat (0, nl0, 0, 0)).1)), (nlV (((x1_10).getD (x1_13).toNat (0, nl0, 0, 0)).2.1)), (Value.int .i64 (((x1_10).getD (x1_13).toNat (0, nl0, 0, 0)).2.2.1)), (Value.int .i64 (((x1_10).getD (x1_13).toNat (0, nl0, 0, 0)).2.2.2))])), (14, .call ⟨9, [(0, 0, false), (1, 1, false), (2, 2, false), (3, 3, false), (4, 4, false), (5, 5, false), (6, 6, false), (7, 7, false), (8, 8, true)], (V_foldOverstyleschoice_1010y3 x1_0 x1_2 x1_3 x1_4 x1_5 x1_6 x1_7 x1_8 x1_9 x1_10 x1_11 (((x1_10).getD (x1_13).toNat (0, nl0, 0, 0)).1) (((x1_10).getD (x1_13).toNat (0, nl0, 0, 0)).2.1) (((x1_10).getD (x1_13).toNat (0, nl0, 0, 0)).2.2.1) (((x1_10).getD (x1_13).toNat (0, nl0, 0, 0)).2.2.2) (y1_3_0, (y1_3_1a :: y1_3_1t), y1_3_2, y1_3_3, y1_3_4)), (R_foldOverstyleschoice_1010y3 x1_0 x1_2 x1_3 x1_4 x1_5 x1_6 x1_7 x1_8 x1_9 x1_10 x1_11 (((x1_10).getD (x1_13).toNat (0, nl0, 0, 0)).1) (((x1_10).getD (x1_13).toNat (0, nl0, 0, 0)).2.1) (((x1_10).getD (x1_13).toNat (0, nl0, 0, 0)).2.2.1) (((x1_10).getD (x1_13).toNat (0, nl0, 0, 0)).2.2.2) (y1_3_0, (y1_3_1a :: y1_3_1t), y1_3_2, y1_3_3, y1_3_4)), [(0, 0, false), (1, 1, false), (2, 2, false), (3, 3, false), (4, 4, false), (5, 5, false), (6, 6, false), (7, 7, false), (8, 8, true)]⟩)]) (L := lT []) (wk := ⟨[0, 5, 6, 7], [(0, 0, false), (1, 1, false), (2, 2, false), (3, 3, false), (4, 4, false), (5, 5, false), (6, 6, false), (7, 7, false), (8, 8, true)], 9, 0⟩)
    (ps := [(Value.bool (decide (x1_13 < x1_12))) = (Value.bool true),
    opIndexAddr P 22 (Value.slice (some ⟨8, 0, none⟩) (x1_10).length x1_11) (Value.int .i64 x1_13) Ax.h0 = some ((Value.pointer (some ⟨8, ((x1_13).toNat * 4), none⟩)), Ax.h0),
    rdT (layT (rows rw_iLii x1_10)) 4 ((x1_13).toNat * 4) = some [(Value.int .i64 (((x1_10).getD (x1_13).toNat (0, nl0, 0, 0)).1)), (nlV (((x1_10).getD (x1_13).toNat (0, nl0, 0, 0)).2.1)), (Value.int .i64 (((x1_10).getD (x1_13).toNat (0, nl0, 0, 0)).2.2.1)), (Value.int .i64 (((x1_10).getD (x1_13).toNat (0, nl0, 0, 0)).2.2.2))],
    Gv P (.yield 0) (A_foldOverstyleschoice_1010y3 x1_0 x1_2 x1_3 x1_4 x1_5 x1_6 x1_7 x1_8 x1_9 x1_10 x1_11 (((x1_10).getD (x1_13).toNat (0, nl0, 0, 0)).1) (((x1_10).getD (x1_13).toNat (0, nl0, 0, 0)).2.1) (((x1_10).getD (x1_13).toNat (0, nl0, 0, 0)).2.2.1) (((x1_10).getD (x1_13).toNat (0, nl0, 0, 0)).2.2.2)) (H_foldOverstyleschoice_1010y3 x1_0 x1_2 x1_3 x1_4 x1_5 x1_6 x1_7 x1_8 x1_9 x1_10 x1_11 (((x1_10).getD (x1_13).toNat (0, nl0, 0, 0)).1) (((x1_10).getD (x1_13).toNat (0, nl0, 0, 0)).2.1) (((x1_10).getD (x1_13).toNat (0, nl0, 0, 0)).2.2.1) (((x1_10).getD (x1_13).toNat (0, nl0, 0, 0)).2.2.2)) (V_foldOverstyleschoice_1010y3 x1_0 x1_2 x1_3 x1_4 x1_5 x1_6 x1_7 x1_8 x1_9 x1_10 x1_11 (((x1_10).getD (x1_13).toNat (0, nl0, 0, 0)).1) (((x1_10).getD (x1_13).toNat (0, nl0, 0, 0)).2.1) (((x1_10).getD (x1_13).toNat (0, nl0, 0, 0)).2.2.1) (((x1_10).getD (x1_13).toNat (0, nl0, 0, 0)).2.2.2) (y1_3_0, (y1_3_1a :: y1_3_1t), y1_3_2, y1_3_3, y1_3_4)) (R_foldOverstyleschoice_1010y3 x1_0 x1_2 x1_3 x1_4 x1_5 x1_6 x1_7 x1_8 x1_9 x1_10 x1_11 (((x1_10).getD (x1_13).toNat (0, nl0, 0, 0)).1) (((x1_10).getD (x1_13).toNat (0, nl0, 0, 0)).2.1) (((x1_10).getD (x1_13).toNat (0, nl0, 0, 0)).2.2.1) (((x1_10).getD (x1_13).toNat (0, nl0, 0, 0)).2.2.2) (y1_3_0, (y1_3_1a :: y1_3_1t), y1_3_2, y1_3_3, y1_3_4)),
    FlatB (.cells (layT (rows rw_iLii x1_10)) 27),
    FlatB (.cells (layT (rows rw_iLii x1_10)) 27),
    FlatB (.cells (layT (rows rw_iLii x1_10)) 27)]) (by kernel_rfl) ⟨(vbT hy1_1), (ixS (e := 27) (by kernel_rfl) (by kernel_rfl) (hy1_2).1 (hy1_2).2), (rows_rdp rwf_iLii (0, nl0, 0, 0) (i := (x1_13).toNat) (j := 0) ((x1_13).toNat * 4) rfl (toNatLt hy1_2) (by decide) rfl), (m_foldOverstyleschoice_1010y3_ok n x1_0 x1_2 x1_3 x1_4 x1_5 x1_6 x1_7 x1_8 x1_9 x1_10 x1_11 (((x1_10).getD (x1_13).toNat (0, nl0, 0, 0)).1) (((x1_10).getD (x1_13).toNat (0, nl0, 0, 0)).2.1) (((x1_10).getD (x1_13).toNat (0, nl0, 0, 0)).2.2.1) (((x1_10).getD (x1_13).toNat (0, nl0, 0, 0)).2.2.2) (y1_3_0, (y1_3_1a :: y1_3_1t), y1_3_2, y1_3_3, y1_3_4) hy1_3), (rows_flat rwf_iLii _ _), (rows_flat rwf_iLii _ _), (rows_flat rwf_iLii _ _), trivial⟩
set_option maxRecDepth 100000 in
theorem q_slicesValuesapiStyle1q2_1_2 (n : Nat) {rnd : Option Nat} (x1_0 : Int) (x1_2 : Int) (x1_3 : Int) (x1_4 : Bool) (x1_5 : Int) (x1_6 : Int) (x1_7 : Int) (x1_8 : Int) (x1_9 : Bool) (x1_10 : List (Int × NL × Int × Int)) (x1_11 : Nat) (x1_12 : Int) (x1_13 : Int) (hy1_1 : ¬ (x1_13 < x1_12)) : CG P rnd (fnN P 18) 9 (codeOf P 18 [false, false, true]) (S_slicesValuesapiStyle1q2_1 x1_5 x1_6 x1_7 x1_8 x1_9 x1_10 x1_11 x1_12 (x1_0, ([] : List (NL)), x1_2, x1_3, x1_4, x1_13)) (X_slicesValuesapiStyle1q2_1 x1_5 x1_6 x1_7 x1_8 x1_9 x1_10 x1_11 x1_12 (x1_0, ([] : List (NL)), x1_2, x1_3, x1_4)) :=
  runC_ok hm (A := aT [(1, .val (.bool false))]) (L := lT []) (wk := ⟨[], [(0, 0, false), (1, 1, false), (2, 2, false), (3, 3, false), (4, 4, false), (5, 5, false), (6, 6, false), (7, 7, false), (8, 8, true)], 9, 0⟩)
    (ps := [(Value.bool (decide (x1_13 < x1_12))) = (Value.bool false),
    FlatB (.cells (layT (rows rw_iLii x1_10)) 27)]) (by kernel_rfl) ⟨(vbF hy1_1), (rows_flat rwf_iLii _ _), trivial⟩
set_option maxRecDepth 100000 in
theorem q_slicesValuesapiStyle1q2_1_3 (n : Nat) {rnd : Option Nat} (x1_0 : Int) (x1_1a : NL) (x1_1t : List (NL)) (x1_2 : Int) (x1_3 : Int) (x1_4 : Bool) (x1_5 : Int) (x1_6 : Int) (x1_7 : Int) (x1_8 : Int) (x1_9 : Bool) (x1_10 : List (Int × NL × Int × Int)) (x1_11 : Nat) (x1_12 : Int) (x1_13 : Int) (hy1_1 : x1_13 < x1_12) (hy1_2 : 0 ≤ x1_13 ∧ x1_13 < (((x1_10).length : Nat) : Int)) (y1_3_0 : Int) (y1_3_1 : NL) (y1_3_2 : Int) (y1_3_3 : Int) (y1_3_4 : Bool) (hy1_3 : m_foldOverstyleschoice_1010y4 n x1_0 x1_1a x1_2 x1_3 x1_4 x1_5 x1_6 x1_7 x1_8 x1_9 x1_10 x1_11 (((x1_10).getD (x1_13).toNat (0, nl0, 0, 0)).1) (((x1_10).getD (x1_13).toNat (0, nl0, 0, 0)).2.1) (((x1_10).getD (x1_13).toNat (0, nl0, 0, 0)).2.2.1) (((x1_10).getD (x1_13).toNat (0, nl0, 0, 0)).2.2.2) = some (y1_3_0, y1_3_1, y1_3_2, y1_3_3, y1_3_4)) : CG P rnd (fnN P 18) 9 (codeOf P 18 [false, false, true]) (S_slicesValuesapiStyle1q2_1 x1_5 x1_6 x1_7 x1_8 x1_9 x1_10 x1_11 x1_12 (x1_0, (x1_1a :: x1_1t), x1_2, x1_3, x1_4, x1_13)) (.normal, S_slicesValuesapiStyle1q2_1 x1_5 x1_6 x1_7 x1_8 x1_9 x1_10 x1_11 x1_12 (y1_3_0, [y1_3_1], y1_3_2, y1_3_3, y1_3_4, (w64 (x1_13 + (1 : Int))))) :=
  runC_ok hm (A := aT [(1, .val (.bool true)), (7, .pur (Value.pointer (some ⟨8, ((x1_13).toNat * 4), none⟩))), (8, .ld (Value.agg #[(Value.int .i64 (((x1_10).getD (x1_13).toNat (0, nl0, 0, 0)).1)), (nlV (((x1_10).getD (x1_13).toNat (0, nl0, 0, 0)).2.1)), (Value.int .i64 (((x1_10).getD (x1_13).toNat (0, nl0, 0, 0)).2.2.1)), (Value.int .i64 (((x1_10).getD (x1_13).toNat (0, nl0, 0, 0)).2.2.2))])), (14, .call ⟨9, [(0, 0, false), (1, 1, false), (2, 2, false), (3, 3, false), (4, 4, false), (5, 5, false), (6, 6, false), (7, 7, false), (8, 8, true)], (V_foldOverstyleschoice_1010y4 x1_0 x1_1a x1_2 x1_3 x1_4 x1_5 x1_6 x1_7 x1_8 x1_9 x1_10 x1_11 (((x1_10).getD (x1_13).toNat (0, nl0, 0, 0)).1) (((x1_10).getD (x1_13).toNat (0, nl0, 0, 0)).2.1) (((x1_10).getD (x1_13).toNat (0, nl0, 0, 0)).2.2.1) (((x1_10).getD (x1_13).toNat (0, nl0, 0, 0)).2.2.2) (y1_3_0, y1_3_1, y1_3_2, y1_3_3, y1_3_4)), (R_foldOverstyleschoice_1010y4 x1_0 x1_1a x1_2 x1_3 x1_4 x1_5 x1_6 x1_7 x1_8 x1_9 x1_10 x1_11 (((x1_10).getD (x1_13).toNat (0, nl0, 0, 0)).1) (((x1_10).getD (x1_13).toNat (0, nl0, 0, 0)).2.1) (((x1_10).getD (x1_13).toNat (0, nl0, 0, 0)).2.2.1) (((x1_10).getD (x1_13).toNat (0, nl0, 0, 0)).2.2.2) (y1_3_0, y1_3_1, y1_3_2, y1_3_3, y1_3_4)), [(0, 0, false), (1, 1, false), (2, 2, false), (3, 3, false), (4, 4, false), (5, 5, false), (6, 6, false), (7, 7, false), (8, 8, true)]⟩)]) (L := lT []) (wk := ⟨[0, 5, 6, 7], [(0, 0, false), (1, 1, false), (2, 2, false), (3, 3, false), (4, 4, false), (5, 5, false), (6, 6, false), (7, 7, false), (8, 8, true)], 9, 0⟩)
    (ps := [(Value.bool (decide (x1_13 < x1_12))) = (Value.bool true),
    opIndexAddr P 22 (Value.slice (some ⟨8, 0, none⟩) (x1_10).length x1_11) (Value.int .i64 x1_13) Ax.h0 = some ((Value.pointer (some ⟨8, ((x1_13).toNat * 4), none⟩)), Ax.h0),
    rdT (layT (rows rw_iLii x1_10)) 4 ((x1_13).toNat * 4) = some [(Value.int .i64 (((x1_10).getD (x1_13).toNat (0, nl0, 0, 0)).1)), (nlV (((x1_10).getD (x1_13).toNat (0, nl0, 0, 0)).2.1)), (Value.int .i64 (((x1_10).getD (x1_13).toNat (0, nl0, 0, 0)).2.2.1)), (Value.int .i64 (((x1_10).getD (x1_13).toNat (0, nl0, 0, 0)).2.2.2))],
    Gv P (.yield 0) (A_foldOverstyleschoice_1010y4 x1_0 x1_1a x1_2 x1_3 x1_4 x1_5 x1_6 x1_7 x1_8 x1_9 x1_10 x1_11 (((x1_10).getD (x1_13).toNat (0, nl0, 0, 0)).1) (((x1_10).getD (x1_13).toNat (0, nl0, 0, 0)).2.1) (((x1_10).getD (x1_13).toNat (0, nl0, 0, 0)).2.2.1) (((x1_10).getD (x1_13).toNat (0, nl0, 0, 0)).2.2.2)) (H_foldOverstyleschoice_1010y4 x1_0 x1_1a x1_2 x1_3 x1_4 x1_5 x1_6 x1_7 x1_8 x1_9 x1_10 x1_11 (((x1_10).getD (x1_13).toNat (0, nl0, 0, 0)).1) (((x1_10).getD (x1_13).toNat (0, nl0, 0, 0)).2.1) (((x1_10).getD (x1_13).toNat (0, nl0, 0, 0)).2.2.1) (((x1_10).getD (x1_13).toNat (0, nl0, 0, 0)).2.2.2)) (V_foldOverstyleschoice_1010y4 x1_0 x1_1a x1_2 x1_3 x1_4 x1_5 x1_6 x1_7 x1_8 x1_9 x1_10 x1_11 (((x1_10).getD (x1_13).toNat (0, nl0, 0, 0)).1) (((x1_10).getD (x1_13).toNat (0, nl0, 0, 0)).2.1) (((x1_10).getD (x1_13).toNat (0, nl0, 0, 0)).2.2.1) (((x1_10).getD (x1_13).toNat (0, nl0, 0, 0)).2.2.2) (y1_3_0, y1_3_1, y1_3_2, y1_3_3, y1_3_4)) (R_foldOverstyleschoice_1010y4 x1_0 x1_1a x1_2 x1_3 x1_4 x1_5 x1_6 x1_7 x1_8 x1_9 x1_10 x1_11 (((x1_10).getD (x1_13).toNat (0, nl0, 0, 0)).1) (((x1_10).getD (x1_13).toNat (0, nl0, 0, 0)).2.1) (((x1_10).getD (x1_13).toNat (0, nl0, 0, 0)).2.2.1) (((x1_10).getD (x1_13).toNat (0, nl0, 0, 0)).2.2.2) (y1_3_0, y1_3_1, y1_3_2, y1_3_3, y1_3_4)),
    FlatB (.cells (layT (rows rw_iLii x1_10)) 27),
    FlatB (.cells (layT (rows rw_iLii x1_10)) 27),
    FlatB (.cells (layT (rows rw_iLii x1_10)) 27)]) (by kernel_rfl) ⟨(vbT hy1_1), (ixS (e := 27) (by kernel_rfl) (by kernel_rfl) (hy1_2).1 (hy1_2).2), (rows_rdp rwf_iLii (0, nl0, 0, 0) (i := (x1_13).toNat) (j := 0) ((x1_13).toNat * 4) rfl (toNatLt hy1_2) (by decide) rfl), (m_foldOverstyleschoice_1010y4_ok n x1_0 x1_1a x1_2 x1_3 x1_4 x1_5 x1_6 x1_7 x1_8 x1_9 x1_10 x1_11 (((x1_10).getD (x1_13).toNat (0, nl0, 0, 0)).1) (((x1_10).getD (x1_13).toNat (0, nl0, 0, 0)).2.1) (((x1_10).getD (x1_13).toNat (0, nl0, 0, 0)).2.2.1) (((x1_10).getD (x1_13).toNat (0, nl0, 0, 0)).2.2.2) (y1_3_0, y1_3_1, y1_3_2, y1_3_3, y1_3_4) hy1_3), (rows_flat rwf_iLii _ _), (rows_flat rwf_iLii _ _), (rows_flat rwf_iLii _ _), trivial⟩
set_option maxRecDepth 100000 in
theorem q_slicesValuesapiStyle1q2_1_4 (n : Nat) {rnd : Option Nat} (x1_0 : Int) (x1_1a : NL) (x1_1t : List (NL)) (x1_2 : Int) (x1_3 : Int) (x1_4 : Bool) (x1_5 : Int) (x1_6 : Int) (x1_7 : Int) (x1_8 : Int) (x1_9 : Bool) (x1_10 : List (Int × NL × Int × Int)) (x1_11 : Nat) (x1_12 : Int) (x1_13 : Int) (hy1_1 : ¬ (x1_13 < x1_12)) : CG P rnd (fnN P 18) 9 (codeOf P 18 [false, false, true]) (S_slicesValuesapiStyle1q2_1 x1_5 x1_6 x1_7 x1_8 x1_9 x1_10 x1_11 x1_12 (x1_0, (x1_1a :: x1_1t), x1_2, x1_3, x1_4, x1_13)) (X_slicesValuesapiStyle1q2_1 x1_5 x1_6 x1_7 x1_8 x1_9 x1_10 x1_11 x1_12 (x1_0, [x1_1a], x1_2, x1_3, x1_4)) :=
  runC_ok hm (A := aT [(1, .val (.bool false))]) (L := lT []) (wk := ⟨[], [(0, 0, false), (1, 1, false), (2, 2, false), (3, 3, false), (4, 4, false), (5, 5, false), (6, 6, false), (7, 7, false), (8, 8, true)], 9, 0⟩)
    (ps := [(Value.bool (decide (x1_13 < x1_12))) = (Value.bool false),
    FlatB (.cells (layT (rows rw_iLii x1_10)) 27)]) (by kernel_rfl) ⟨(vbF hy1_1), (rows_flat rwf_iLii _ _), trivial⟩
theorem m_slicesValuesapiStyle1q2_1_ok (n : Nat) {rnd : Option Nat} (x1_5 : Int) (x1_6 : Int) (x1_7 : Int) (x1_8 : Int) (x1_9 : Bool) (x1_10 : List (Int × NL × Int × Int)) (x1_11 : Nat) (x1_12 : Int) (st : Int × List (NL) × Int × Int × Bool × Int) (r : Int × List (NL) × Int × Int × Bool) (h : m_slicesValuesapiStyle1q2_1 n x1_5 x1_6 x1_7 x1_8 x1_9 x1_10 x1_11 x1_12 st = some r) : CG P rnd (fnN P 18) 9 (codeOf P 18 [false, true]) (S_slicesValuesapiStyle1q2_1 x1_5 x1_6 x1_7 x1_8 x1_9 x1_10 x1_11 x1_12 st) (X_slicesValuesapiStyle1q2_1 x1_5 x1_6 x1_7 x1_8 x1_9 x1_10 x1_11 x1_12 r) :=
  CG.iter (b := codeOf P 18 [false, false, true]) (by kernel_rfl) (body := B_slicesValuesapiStyle1q2_1 n x1_5 x1_6 x1_7 x1_8 x1_9 x1_10 x1_11 x1_12) (S := S_slicesValuesapiStyle1q2_1 x1_5 x1_6 x1_7 x1_8 x1_9 x1_10 x1_11 x1_12) (X := X_slicesValuesapiStyle1q2_1 x1_5 x1_6 x1_7 x1_8 x1_9 x1_10 x1_11 x1_12)
    (fun s s' h => by
    obtain ⟨x1_0, x1_1, x1_2, x1_3, x1_4, x1_13⟩ := s
    unfold B_slicesValuesapiStyle1q2_1 at h
    dsimp only at h
    cases x1_1 with
    | nil =>
      dsimp only at h
      by_cases hy1_1 : x1_13 < x1_12
      · rw [if_pos hy1_1] at h
        by_cases hy1_2 : 0 ≤ x1_13 ∧ x1_13 < (((x1_10).length : Nat) : Int)
        · rw [if_pos hy1_2] at h
          obtain ⟨⟨y1_3_0, y1_3_1, y1_3_2, y1_3_3, y1_3_4⟩, hy1_3, h⟩ := Option.bind_eq_some_iff.1 h
          dsimp only at h
          cases y1_3_1 with
          | nil =>
            dsimp only at h
            obtain rfl := Sum.inl.inj (Option.some.inj h); exact q_slicesValuesapiStyle1q2_1_0 n x1_0 x1_2 x1_3 x1_4 x1_5 x1_6 x1_7 x1_8 x1_9 x1_10 x1_11 x1_12 x1_13 hy1_1 hy1_2 y1_3_0 y1_3_2 y1_3_3 y1_3_4 hy1_3
          | cons y1_3_1a y1_3_1t =>
            dsimp only at h
            obtain rfl := Sum.inl.inj (Option.some.inj h); exact q_slicesValuesapiStyle1q2_1_1 n x1_0 x1_2 x1_3 x1_4 x1_5 x1_6 x1_7 x1_8 x1_9 x1_10 x1_11 x1_12 x1_13 hy1_1 hy1_2 y1_3_0 y1_3_1a y1_3_1t y1_3_2 y1_3_3 y1_3_4 hy1_3
        · rw [if_neg hy1_2] at h; cases h
      · rw [if_neg hy1_1] at h
        cases h
    | cons x1_1a x1_1t =>
      dsimp only at h
      by_cases hy1_1 : x1_13 < x1_12
      · rw [if_pos hy1_1] at h
        by_cases hy1_2 : 0 ≤ x1_13 ∧ x1_13 < (((x1_10).length : Nat) : Int)
        · rw [if_pos hy1_2] at h
          obtain ⟨⟨y1_3_0, y1_3_1, y1_3_2, y1_3_3, y1_3_4⟩, hy1_3, h⟩ := Option.bind_eq_some_iff.1 h
          dsimp only at h
          obtain rfl := Sum.inl.inj (Option.some.inj h); exact q_slicesValuesapiStyle1q2_1_3 n x1_0 x1_1a x1_1t x1_2 x1_3 x1_4 x1_5 x1_6 x1_7 x1_8 x1_9 x1_10 x1_11 x1_12 x1_13 hy1_1 hy1_2 y1_3_0 y1_3_1 y1_3_2 y1_3_3 y1_3_4 hy1_3
        · rw [if_neg hy1_2] at h; cases h
      · rw [if_neg hy1_1] at h
        cases h)
    (fun s r h => by
    obtain ⟨x1_0, x1_1, x1_2, x1_3, x1_4, x1_13⟩ := s
    unfold B_slicesValuesapiStyle1q2_1 at h
    dsimp only at h
    cases x1_1 with
    | nil =>
      dsimp only at h
      by_cases hy1_1 : x1_13 < x1_12
      · rw [if_pos hy1_1] at h
        by_cases hy1_2 : 0 ≤ x1_13 ∧ x1_13 < (((x1_10).length : Nat) : Int)
        · rw [if_pos hy1_2] at h
          obtain ⟨⟨y1_3_0, y1_3_1, y1_3_2, y1_3_3, y1_3_4⟩, hy1_3, h⟩ := Option.bind_eq_some_iff.1 h
          dsimp only at h
          cases y1_3_1 with
          | nil =>
            dsimp only at h
            cases h
          | cons y1_3_1a y1_3_1t =>
            dsimp only at h
            cases h
        · rw [if_neg hy1_2] at h; cases h
      · rw [if_neg hy1_1] at h
        obtain rfl := Sum.inr.inj (Option.some.inj h); exact q_slicesValuesapiStyle1q2_1_2 n x1_0 x1_2 x1_3 x1_4 x1_5 x1_6 x1_7 x1_8 x1_9 x1_10 x1_11 x1_12 x1_13 hy1_1
    | cons x1_1a x1_1t =>
      dsimp only at h
      by_cases hy1_1 : x1_13 < x1_12
      · rw [if_pos hy1_1] at h
        by_cases hy1_2 : 0 ≤ x1_13 ∧ x1_13 < (((x1_10).length : Nat) : Int)
        · rw [if_pos hy1_2] at h
          obtain ⟨⟨y1_3_0, y1_3_1, y1_3_2, y1_3_3, y1_3_4⟩, hy1_3, h⟩ := Option.bind_eq_some_iff.1 h
          dsimp only at h
          cases h
        · rw [if_neg hy1_2] at h; cases h
      · rw [if_neg hy1_1] at h
        obtain rfl := Sum.inr.inj (Option.some.inj h); exact q_slicesValuesapiStyle1q2_1_4 n x1_0 x1_1a x1_1t x1_2 x1_3 x1_4 x1_5 x1_6 x1_7 x1_8 x1_9 x1_10 x1_11 x1_12 x1_13 hy1_1)
    (fun r => by intro hx; cases hx) h
noncomputable def A_slicesValuesapiStyle1q2 (a0 : Int) (a1 : Int) (a2 : Int) (a3 : Bool) (a4 : Int) (a5 : Int) (a6 : Int) (a7 : Int) (a8 : Bool) (a9 : List (Int × NL × Int × Int)) (a10 : Nat) : List Value := [(Value.func (.yield 0) #[] #[]), (Value.pointer (some ⟨7, 0, none⟩))]
noncomputable def H_slicesValuesapiStyle1q2 (a0 : Int) (a1 : Int) (a2 : Int) (a3 : Bool) (a4 : Int) (a5 : Int) (a6 : Int) (a7 : Int) (a8 : Bool) (a9 : List (Int × NL × Int × Int)) (a10 : Nat) : AH := ⟨sB [(0, (some (rblk P 14 [false, true, false, true] .ready none [(4, (Value.pointer (some ⟨2, 0, none⟩))), (5, (Value.pointer (some ⟨3, 0, none⟩))), (6, (Value.pointer (some ⟨6, 0, none⟩))), (8, (Value.func (.func 18) #[] #[(Value.pointer (some ⟨7, 0, none⟩))]))] 1))), (1, (some (.marks true))), (2, (some (.cells (layT [(Value.int .i64 a0), (Value.slice none 0 0), (Value.int .i64 a1), (Value.int .i64 a2), (Value.bool a3)]) 38))), (3, (some (.cells (layT [(Value.func (.func 16) #[] #[(Value.pointer (some ⟨4, 0, none⟩)), (Value.pointer (some ⟨5, 0, none⟩))])]) 43))), (4, (some (.cells (layT [(Value.int .i64 a4)]) 3))), (5, (some (.cells (layT [(Value.slice (some ⟨1, 0, some 1⟩) (Args.Y).length Args.cY)]) 23))), (6, (some (.cells (layT [(Value.int .i64 a5), (Value.slice none 0 0), (Value.int .i64 a6), (Value.int .i64 a7), (Value.bool a8)]) 38))), (7, (some (.cells (layT [(Value.slice (some ⟨8, 0, none⟩) (a9).length a10)]) 22))), (8, (some (.cells (layT (rows rw_iLii a9)) 27)))], 9, 9⟩
noncomputable def V_slicesValuesapiStyle1q2 (a0 : Int) (a1 : Int) (a2 : Int) (a3 : Bool) (a4 : Int) (a5 : Int) (a6 : Int) (a7 : Int) (a8 : Bool) (a9 : List (Int × NL × Int × Int)) (a10 : Nat) (r : Int × List (NL) × Int × Int × Bool) : Value := match r with
  | (o0, o1, o2, o3, o4) => (Value.tuple #[])
noncomputable def R_slicesValuesapiStyle1q2 (a0 : Int) (a1 : Int) (a2 : Int) (a3 : Bool) (a4 : Int) (a5 : Int) (a6 : Int) (a7 : Int) (a8 : Bool) (a9 : List (Int × NL × Int × Int)) (a10 : Nat) (r : Int × List (NL) × Int × Int × Bool) : AH := match r with
  | (o0, o1, o2, o3, o4) => ⟨sB [(0, (some (rblk P 14 [false, true, false, true] .ready none [(4, (Value.pointer (some ⟨2, 0, none⟩))), (5, (Value.pointer (some ⟨3, 0, none⟩))), (6, (Value.pointer (some ⟨6, 0, none⟩))), (8, (Value.func (.func 18) #[] #[(Value.pointer (some ⟨7, 0, none⟩))]))] 1))), (1, (some (.marks true))), (2, (some (.cells (layT [(Value.int .i64 o0), (nlQ o1), (Value.int .i64 o2), (Value.int .i64 o3), (Value.bool o4)]) 38))), (3, (some (.cells (layT [(Value.func (.func 16) #[] #[(Value.pointer (some ⟨4, 0, none⟩)), (Value.pointer (some ⟨5, 0, none⟩))])]) 43))), (4, (some (.cells (layT [(Value.int .i64 a4)]) 3))), (5, (some (.cells (layT [(Value.slice (some ⟨1, 0, some 1⟩) (Args.Y).length Args.cY)]) 23))), (6, (some (.cells (layT [(Value.int .i64 a5), (Value.slice none 0 0), (Value.int .i64 a6), (Value.int .i64 a7), (Value.bool a8)]) 38))), (7, (some (.cells (layT [(Value.slice (some ⟨8, 0, none⟩) (a9).length a10)]) 22))), (8, (some (.cells (layT (rows rw_iLii a9)) 27)))], 9, 0⟩
noncomputable abbrev G_slicesValuesapiStyle1q2 (a0 : Int) (a1 : Int) (a2 : Int) (a3 : Bool) (a4 : Int) (a5 : Int) (a6 : Int) (a7 : Int) (a8 : Bool) (a9 : List (Int × NL × Int × Int)) (a10 : Nat) (r : Int × List (NL) × Int × Int × Bool) : Prop := Gv P (.func 18) (A_slicesValuesapiStyle1q2 a0 a1 a2 a3 a4 a5 a6 a7 a8 a9 a10) (H_slicesValuesapiStyle1q2 a0 a1 a2 a3 a4 a5 a6 a7 a8 a9 a10) (V_slicesValuesapiStyle1q2 a0 a1 a2 a3 a4 a5 a6 a7 a8 a9 a10 r) (R_slicesValuesapiStyle1q2 a0 a1 a2 a3 a4 a5 a6 a7 a8 a9 a10 r)
def m_slicesValuesapiStyle1q2 (n : Nat) (a0 : Int) (a1 : Int) (a2 : Int) (a3 : Bool) (a4 : Int) (a5 : Int) (a6 : Int) (a7 : Int) (a8 : Bool) (a9 : List (Int × NL × Int × Int)) (a10 : Nat) : Option (Int × List (NL) × Int × Int × Bool) :=
  (m_slicesValuesapiStyle1q2_1 n a4 a5 a6 a7 a8 a9 a10 (((a9).length : Nat) : Int) (a0, ([] : List (NL)), a1, a2, a3, 0)).bind fun t => match t with
  | (c1_0, c1_1, c1_2, c1_3, c1_4) =>
    match c1_1 with
    | [] =>
      some (c1_0, ([] : List (NL)), c1_2, c1_3, c1_4)
    | c1_1a :: c1_1t =>
      some (c1_0, [c1_1a], c1_2, c1_3, c1_4)
set_option maxRecDepth 100000 in
theorem p_slicesValuesapiStyle1q2_0 (n : Nat) (a0 : Int) (a1 : Int) (a2 : Int) (a3 : Bool) (a4 : Int) (a5 : Int) (a6 : Int) (a7 : Int) (a8 : Bool) (a9 : List (Int × NL × Int × Int)) (a10 : Nat) (c1_0 : Int) (c1_2 : Int) (c1_3 : Int) (c1_4 : Bool) (hc1 : m_slicesValuesapiStyle1q2_1 n a4 a5 a6 a7 a8 a9 a10 (((a9).length : Nat) : Int) (a0, ([] : List (NL)), a1, a2, a3, 0) = some (c1_0, [], c1_2, c1_3, c1_4)) : G_slicesValuesapiStyle1q2 a0 a1 a2 a3 a4 a5 a6 a7 a8 a9 a10 (c1_0, ([] : List (NL)), c1_2, c1_3, c1_4) :=
  runF_ok hm (A := aT []) (L := lT [(5, ⟨⟨[0, 5, 6, 7], [(0, 0, false), (1, 1, false), (2, 2, false), (3, 3, false), (4, 4, false), (5, 5, false), (6, 6, false), (7, 7, false), (8, 8, true)], 9, 0⟩, (X_slicesValuesapiStyle1q2_1 a4 a5 a6 a7 a8 a9 a10 (((a9).length : Nat) : Int) (c1_0, ([] : List (NL)), c1_2, c1_3, c1_4)).1, (X_slicesValuesapiStyle1q2_1 a4 a5 a6 a7 a8 a9 a10 (((a9).length : Nat) : Int) (c1_0, ([] : List (NL)), c1_2, c1_3, c1_4)).2⟩)]) (wk := ⟨[], [(0, 0, false), (1, 1, false), (2, 2, false), (3, 3, false), (4, 4, false), (5, 5, false), (6, 6, false), (7, 7, false), (8, 8, true)], 9, 0⟩)
    (ps := [CG P none (fnN P 18) 9 (codeOf P 18 [false, true]) (S_slicesValuesapiStyle1q2_1 a4 a5 a6 a7 a8 a9 a10 (((a9).length : Nat) : Int) (a0, ([] : List (NL)), a1, a2, a3, 0)) (X_slicesValuesapiStyle1q2_1 a4 a5 a6 a7 a8 a9 a10 (((a9).length : Nat) : Int) (c1_0, ([] : List (NL)), c1_2, c1_3, c1_4)),
    FlatB (.cells (layT (rows rw_iLii a9)) 27),
    FlatB (.cells (layT (rows rw_iLii a9)) 27)]) (by kernel_rfl) ⟨(m_slicesValuesapiStyle1q2_1_ok n a4 a5 a6 a7 a8 a9 a10 (((a9).length : Nat) : Int) (a0, ([] : List (NL)), a1, a2, a3, 0) (c1_0, ([] : List (NL)), c1_2, c1_3, c1_4) hc1), (rows_flat rwf_iLii _ _), (rows_flat rwf_iLii _ _), trivial⟩
set_option maxRecDepth 100000 in
theorem p_slicesValuesapiStyle1q2_1 (n : Nat) (a0 : Int) (a1 : Int) (a2 : Int) (a3 : Bool) (a4 : Int) (a5 : Int) (a6 : Int) (a7 : Int) (a8 : Bool) (a9 : List (Int × NL × Int × Int)) (a10 : Nat) (c1_0 : Int) (c1_1a : NL) (c1_1t : List (NL)) (c1_2 : Int) (c1_3 : Int) (c1_4 : Bool) (hc1 : m_slicesValuesapiStyle1q2_1 n a4 a5 a6 a7 a8 a9 a10 (((a9).length : Nat) : Int) (a0, ([] : List (NL)), a1, a2, a3, 0) = some (c1_0, (c1_1a :: c1_1t), c1_2, c1_3, c1_4)) : G_slicesValuesapiStyle1q2 a0 a1 a2 a3 a4 a5 a6 a7 a8 a9 a10 (c1_0, [c1_1a], c1_2, c1_3, c1_4) :=
  runF_ok hm (A := aT []) (L := lT [(5, ⟨⟨[0, 5, 6, 7], [(0, 0, false), (1, 1, false), (2, 2, false), (3, 3, false), (4, 4, false), (5, 5, false), (6, 6, false), (7, 7, false), (8, 8, true)], 9, 0⟩, (X_slicesValuesapiStyle1q2_1 a4 a5 a6 a7 a8 a9 a10 (((a9).length : Nat) : Int) (c1_0, (c1_1a :: c1_1t), c1_2, c1_3, c1_4)).1, (X_slicesValuesapiStyle1q2_1 a4 a5 a6 a7 a8 a9 a10 (((a9).length : Nat) : Int) (c1_0, (c1_1a :: c1_1t), c1_2, c1_3, c1_4)).2⟩)]) (wk := ⟨[], [(0, 0, false), (1, 1, false), (2, 2, false), (3, 3, false), (4, 4, false), (5, 5, false), (6, 6, false), (7, 7, false), (8, 8, true)], 9, 0⟩)
    (ps := [CG P none (fnN P 18) 9 (codeOf P 18 [false, true]) (S_slicesValuesapiStyle1q2_1 a4 a5 a6 a7 a8 a9 a10 (((a9).length : Nat) : Int) (a0, ([] : List (NL)), a1, a2, a3, 0)) (X_slicesValuesapiStyle1q2_1 a4 a5 a6 a7 a8 a9 a10 (((a9).length : Nat) : Int) (c1_0, (c1_1a :: c1_1t), c1_2, c1_3, c1_4)),
    FlatB (.cells (layT (rows rw_iLii a9)) 27),
    FlatB (.cells (layT (rows rw_iLii a9)) 27)]) (by kernel_rfl) ⟨(m_slicesValuesapiStyle1q2_1_ok n a4 a5 a6 a7 a8 a9 a10 (((a9).length : Nat) : Int) (a0, ([] : List (NL)), a1, a2, a3, 0) (c1_0, (c1_1a :: c1_1t), c1_2, c1_3, c1_4) hc1), (rows_flat rwf_iLii _ _), (rows_flat rwf_iLii _ _), trivial⟩
theorem m_slicesValuesapiStyle1q2_ok (n : Nat) (a0 : Int) (a1 : Int) (a2 : Int) (a3 : Bool) (a4 : Int) (a5 : Int) (a6 : Int) (a7 : Int) (a8 : Bool) (a9 : List (Int × NL × Int × Int)) (a10 : Nat) (r : Int × List (NL) × Int × Int × Bool) (h : m_slicesValuesapiStyle1q2 n a0 a1 a2 a3 a4 a5 a6 a7 a8 a9 a10 = some r) : G_slicesValuesapiStyle1q2 a0 a1 a2 a3 a4 a5 a6 a7 a8 a9 a10 r := by
  unfold m_slicesValuesapiStyle1q2 at h
  obtain ⟨⟨c1_0, c1_1, c1_2, c1_3, c1_4⟩, hc1, h⟩ := Option.bind_eq_some_iff.1 h
  dsimp only at h
  cases c1_1 with
  | nil =>
    dsimp only at h
    obtain rfl := Option.some.inj h; exact p_slicesValuesapiStyle1q2_0 n a0 a1 a2 a3 a4 a5 a6 a7 a8 a9 a10 c1_0 c1_2 c1_3 c1_4 hc1
  | cons c1_1a c1_1t =>
    dsimp only at h
    obtain rfl := Option.some.inj h; exact p_slicesValuesapiStyle1q2_1 n a0 a1 a2 a3 a4 a5 a6 a7 a8 a9 a10 c1_0 c1_1a c1_1t c1_2 c1_3 c1_4 hc1

noncomputable def A_foldOverstyleschoiceq2 (a0 : List (Int × NL × Int × Int)) (a1 : Nat) (a2 : Int) (a3 : Int) (a4 : Int) (a5 : Bool) (a6 : Int) : List Value := [(Value.func (.func 18) #[] #[(Value.pointer (some ⟨0, 0, none⟩))]), (Value.agg #[(Value.int .i64 a2), (Value.slice none 0 0), (Value.int .i64 a3), (Value.int .i64 a4), (Value.bool a5)]), (Value.func (.func 16) #[] #[(Value.pointer (some ⟨2, 0, none⟩)), (Value.pointer (some ⟨3, 0, none⟩))])]
noncomputable def H_foldOverstyleschoiceq2 (a0 : List (Int × NL × Int × Int)) (a1 : Nat) (a2 : Int) (a3 : Int) (a4 : Int) (a5 : Bool) (a6 : Int) : AH := ⟨sB [(0, (some (.cells (layT [(Value.slice (some ⟨1, 0, none⟩) (a0).length a1)]) 22))), (1, (some (.cells (layT (rows rw_iLii a0)) 27))), (2, (some (.cells (layT [(Value.int .i64 a6)]) 3))), (3, (some (.cells (layT [(Value.slice (some ⟨1, 0, some 1⟩) (Args.Y).length Args.cY)]) 23)))], 4, 4⟩
noncomputable def V_foldOverstyleschoiceq2 (a0 : List (Int × NL × Int × Int)) (a1 : Nat) (a2 : Int) (a3 : Int) (a4 : Int) (a5 : Bool) (a6 : Int) (r : Int × List (NL) × Int × Int × Bool) : Value := match r with
  | (o0, o1, o2, o3, o4) => (Value.agg #[(Value.int .i64 o0), (nlQ o1), (Value.int .i64 o2), (Value.int .i64 o3), (Value.bool o4)])
noncomputable def R_foldOverstyleschoiceq2 (a0 : List (Int × NL × Int × Int)) (a1 : Nat) (a2 : Int) (a3 : Int) (a4 : Int) (a5 : Bool) (a6 : Int) (r : Int × List (NL) × Int × Int × Bool) : AH := match r with
  | (o0, o1, o2, o3, o4) => ⟨sB [(0, (some (.cells (layT [(Value.slice (some ⟨1, 0, none⟩) (a0).length a1)]) 22))), (1, (some (.cells (layT (rows rw_iLii a0)) 27))), (2, (some (.cells (layT [(Value.int .i64 a6)]) 3))), (3, (some (.cells (layT [(Value.slice (some ⟨1, 0, some 1⟩) (Args.Y).length Args.cY)]) 23))), (4, (some (.marks false))), (5, (some (.cells (layT [(Value.int .i64 o0), (nlQ o1), (Value.int .i64 o2), (Value.int .i64 o3), (Value.bool o4)]) 38)))], 6, 0⟩
noncomputable abbrev G_foldOverstyleschoiceq2 (a0 : List (Int × NL × Int × Int)) (a1 : Nat) (a2 : Int) (a3 : Int) (a4 : Int) (a5 : Bool) (a6 : Int) (r : Int × List (NL) × Int × Int × Bool) : Prop := Gv P (.func 14) (A_foldOverstyleschoiceq2 a0 a1 a2 a3 a4 a5 a6) (H_foldOverstyleschoiceq2 a0 a1 a2 a3 a4 a5 a6) (V_foldOverstyleschoiceq2 a0 a1 a2 a3 a4 a5 a6 r) (R_foldOverstyleschoiceq2 a0 a1 a2 a3 a4 a5 a6 r)
def m_foldOverstyleschoiceq2 (n : Nat) (a0 : List (Int × NL × Int × Int)) (a1 : Nat) (a2 : Int) (a3 : Int) (a4 : Int) (a5 : Bool) (a6 : Int) : Option (Int × List (NL) × Int × Int × Bool) :=
  (m_slicesValuesapiStyle1q2 n a2 a3 a4 a5 a6 0 0 0 false a0 a1).bind fun t => match t with
  | (c1_0, c1_1, c1_2, c1_3, c1_4) =>
    match c1_1 with
    | [] =>
      some (c1_0, ([] : List (NL)), c1_2, c1_3, c1_4)
    | c1_1a :: c1_1t =>
      some (c1_0, [c1_1a], c1_2, c1_3, c1_4)
set_option maxRecDepth 100000 in
theorem p_foldOverstyleschoiceq2_0 (n : Nat) (a0 : List (Int × NL × Int × Int)) (a1 : Nat) (a2 : Int) (a3 : Int) (a4 : Int) (a5 : Bool) (a6 : Int) (c1_0 : Int) (c1_2 : Int) (c1_3 : Int) (c1_4 : Bool) (hc1 : m_slicesValuesapiStyle1q2 n a2 a3 a4 a5 a6 0 0 0 false a0 a1 = some (c1_0, [], c1_2, c1_3, c1_4)) : G_foldOverstyleschoiceq2 a0 a1 a2 a3 a4 a5 a6 (c1_0, ([] : List (NL)), c1_2, c1_3, c1_4) :=
  runF_ok hm (A := aT [(8, .rng ⟨9, [(0, 8, false), (1, 7, false), (2, 4, false), (3, 5, false), (4, 2, false), (5, 3, false), (6, 6, false), (7, 0, false), (8, 1, true)], (V_slicesValuesapiStyle1q2 a2 a3 a4 a5 a6 0 0 0 false a0 a1 (c1_0, ([] : List (NL)), c1_2, c1_3, c1_4)), (R_slicesValuesapiStyle1q2 a2 a3 a4 a5 a6 0 0 0 false a0 a1 (c1_0, ([] : List (NL)), c1_2, c1_3, c1_4)), [(8, 0, false), (7, 1, false), (4, 2, false), (5, 3, false), (2, 4, false), (3, 5, false), (6, 6, false), (0, 7, false), (1, 8, true)]⟩ [4, 5, 6, 8])]) (L := lT []) (wk := ⟨[6], [(0, 0, false), (1, 1, true), (2, 2, false), (3, 3, false), (4, 7, false), (5, 6, false)], 6, 0⟩)
    (ps := [G_slicesValuesapiStyle1q2 a2 a3 a4 a5 a6 0 0 0 false a0 a1 (c1_0, ([] : List (NL)), c1_2, c1_3, c1_4),
    FlatB (.cells (layT (rows rw_iLii a0)) 27),
    FlatB (.cells (layT (rows rw_iLii a0)) 27),
    FlatB (.cells (layT (rows rw_iLii a0)) 27)]) (by kernel_rfl) ⟨(m_slicesValuesapiStyle1q2_ok n a2 a3 a4 a5 a6 0 0 0 false a0 a1 (c1_0, ([] : List (NL)), c1_2, c1_3, c1_4) hc1), (rows_flat rwf_iLii _ _), (rows_flat rwf_iLii _ _), (rows_flat rwf_iLii _ _), trivial⟩
set_option maxRecDepth 100000 in
theorem p_foldOverstyleschoiceq2_1 (n : Nat) (a0 : List (Int × NL × Int × Int)) (a1 : Nat) (a2 : Int) (a3 : Int) (a4 : Int) (a5 : Bool) (a6 : Int) (c1_0 : Int) (c1_1a : NL) (c1_1t : List (NL)) (c1_2 : Int) (c1_3 : Int) (c1_4 : Bool) (hc1 : m_slicesValuesapiStyle1q2 n a2 a3 a4 a5 a6 0 0 0 false a0 a1 = some (c1_0, (c1_1a :: c1_1t), c1_2, c1_3, c1_4)) : G_foldOverstyleschoiceq2 a0 a1 a2 a3 a4 a5 a6 (c1_0, [c1_1a], c1_2, c1_3, c1_4) :=
  runF_ok hm (A := aT [(8, .rng ⟨9, [(0, 8, false), (1, 7, false), (2, 4, false), (3, 5, false), (4, 2, false), (5, 3, false), (6, 6, false), (7, 0, false), (8, 1, true)], (V_slicesValuesapiStyle1q2 a2 a3 a4 a5 a6 0 0 0 false a0 a1 (c1_0, (c1_1a :: c1_1t), c1_2, c1_3, c1_4)), (R_slicesValuesapiStyle1q2 a2 a3 a4 a5 a6 0 0 0 false a0 a1 (c1_0, (c1_1a :: c1_1t), c1_2, c1_3, c1_4)), [(8, 0, false), (7, 1, false), (4, 2, false), (5, 3, false), (2, 4, false), (3, 5, false), (6, 6, false), (0, 7, false), (1, 8, true)]⟩ [4, 5, 6, 8])]) (L := lT []) (wk := ⟨[6], [(0, 0, false), (1, 1, true), (2, 2, false), (3, 3, false), (4, 7, false), (5, 6, false)], 6, 0⟩)
    (ps := [G_slicesValuesapiStyle1q2 a2 a3 a4 a5 a6 0 0 0 false a0 a1 (c1_0, (c1_1a :: c1_1t), c1_2, c1_3, c1_4),
    FlatB (.cells (layT (rows rw_iLii a0)) 27),
    FlatB (.cells (layT (rows rw_iLii a0)) 27),
    FlatB (.cells (layT (rows rw_iLii a0)) 27)]) (by kernel_rfl) ⟨(m_slicesValuesapiStyle1q2_ok n a2 a3 a4 a5 a6 0 0 0 false a0 a1 (c1_0, (c1_1a :: c1_1t), c1_2, c1_3, c1_4) hc1), (rows_flat rwf_iLii _ _), (rows_flat rwf_iLii _ _), (rows_flat rwf_iLii _ _), trivial⟩
theorem m_foldOverstyleschoiceq2_ok (n : Nat) (a0 : List (Int × NL × Int × Int)) (a1 : Nat) (a2 : Int) (a3 : Int) (a4 : Int) (a5 : Bool) (a6 : Int) (r : Int × List (NL) × Int × Int × Bool) (h : m_foldOverstyleschoiceq2 n a0 a1 a2 a3 a4 a5 a6 = some r) : G_foldOverstyleschoiceq2 a0 a1 a2 a3 a4 a5 a6 r := by
  unfold m_foldOverstyleschoiceq2 at h
  obtain ⟨⟨c1_0, c1_1, c1_2, c1_3, c1_4⟩, hc1, h⟩ := Option.bind_eq_some_iff.1 h
  dsimp only at h
  cases c1_1 with
  | nil =>
    dsimp only at h
    obtain rfl := Option.some.inj h; exact p_foldOverstyleschoiceq2_0 n a0 a1 a2 a3 a4 a5 a6 c1_0 c1_2 c1_3 c1_4 hc1
  | cons c1_1a c1_1t =>
    dsimp only at h
    obtain rfl := Option.some.inj h; exact p_foldOverstyleschoiceq2_1 n a0 a1 a2 a3 a4 a5 a6 c1_0 c1_1a c1_1t c1_2 c1_3 c1_4 hc1

noncomputable def A_stylesStyleq2 (a0 : List (Int × NL × Int × Int)) (a1 : Nat) (a2 : Int) : List Value := [(Value.slice (some ⟨0, 0, none⟩) (a0).length a1), (Value.int .i64 a2), (Value.slice (some ⟨1, 0, some 1⟩) (Args.Y).length Args.cY)]
noncomputable def H_stylesStyleq2 (a0 : List (Int × NL × Int × Int)) (a1 : Nat) (a2 : Int) : AH := ⟨sB [(0, (some (.cells (layT (rows rw_iLii a0)) 27)))], 1, 1⟩
noncomputable def V_stylesStyleq2 (a0 : List (Int × NL × Int × Int)) (a1 : Nat) (a2 : Int) (r : Int) : Value := match r with
  | o0 => (Value.int .i64 o0)
noncomputable def R_stylesStyleq2 (a0 : List (Int × NL × Int × Int)) (a1 : Nat) (a2 : Int) (r : Int) : AH := match r with
  | o0 => ⟨sB [(0, (some (.cells (layT (rows rw_iLii a0)) 27)))], 1, 0⟩
noncomputable abbrev G_stylesStyleq2 (a0 : List (Int × NL × Int × Int)) (a1 : Nat) (a2 : Int) (r : Int) : Prop := Gv P (.func 9) (A_stylesStyleq2 a0 a1 a2) (H_stylesStyleq2 a0 a1 a2) (V_stylesStyleq2 a0 a1 a2 r) (R_stylesStyleq2 a0 a1 a2 r)
def m_stylesStyleq2 (n : Nat) (a0 : List (Int × NL × Int × Int)) (a1 : Nat) (a2 : Int) : Option (Int) :=
  (m_slicesValuesapiStyleq2 n a0 a1).bind fun _ =>
  (m_foldOverstyleschoiceq2 n a0 a1 0 0 0 false a2).bind fun t => match t with
  | (c2_0, c2_1, c2_2, c2_3, c2_4) =>
    match c2_1 with
    | [] =>
      some c2_2
    | c2_1a :: c2_1t =>
      some c2_2
set_option maxRecDepth 100000 in
theorem p_stylesStyleq2_0 (n : Nat) (a0 : List (Int × NL × Int × Int)) (a1 : Nat) (a2 : Int) (hc1 : m_slicesValuesapiStyleq2 n a0 a1 = some ()) (c2_0 : Int) (c2_2 : Int) (c2_3 : Int) (c2_4 : Bool) (hc2 : m_foldOverstyleschoiceq2 n a0 a1 0 0 0 false a2 = some (c2_0, [], c2_2, c2_3, c2_4)) : G_stylesStyleq2 a0 a1 a2 c2_2 :=
  runF_ok hm (A := aT [(6, .call ⟨1, [(0, 0, true)], (V_slicesValuesapiStyleq2 a0 a1 ()), (R_slicesValuesapiStyleq2 a0 a1 ()), [(0, 0, true), (3, 1, false)]⟩), (9, .call ⟨4, [(0, 3, false), (1, 0, true), (2, 1, false), (3, 2, false)], (V_foldOverstyleschoiceq2 a0 a1 0 0 0 false a2 (c2_0, ([] : List (NL)), c2_2, c2_3, c2_4)), (R_foldOverstyleschoiceq2 a0 a1 0 0 0 false a2 (c2_0, ([] : List (NL)), c2_2, c2_3, c2_4)), [(3, 0, false), (0, 1, true), (1, 2, false), (2, 3, false), (5, 5, false)]⟩)]) (L := lT []) (wk := ⟨[6], [(0, 0, true)], 1, 0⟩)
    (ps := [G_slicesValuesapiStyleq2 a0 a1 (),
    FlatB (.cells (layT (rows rw_iLii a0)) 27),
    FlatB (.cells (layT (rows rw_iLii a0)) 27),
    G_foldOverstyleschoiceq2 a0 a1 0 0 0 false a2 (c2_0, ([] : List (NL)), c2_2, c2_3, c2_4),
    FlatB (.cells (layT (rows rw_iLii a0)) 27),
    FlatB (.cells (layT (rows rw_iLii a0)) 27),
    FlatB (.cells (layT (rows rw_iLii a0)) 27)]) (by kernel_rfl) ⟨(m_slicesValuesapiStyleq2_ok n a0 a1 () hc1), (rows_flat rwf_iLii _ _), (rows_flat rwf_iLii _ _), (m_foldOverstyleschoiceq2_ok n a0 a1 0 0 0 false a2 (c2_0, ([] : List (NL)), c2_2, c2_3, c2_4) hc2), (rows_flat rwf_iLii _ _), (rows_flat rwf_iLii _ _), (rows_flat rwf_iLii _ _), trivial⟩
set_option maxRecDepth 100000 in
theorem p_stylesStyleq2_1 (n : Nat) (a0 : List (Int × NL × Int × Int)) (a1 : Nat) (a2 : Int) (hc1 : m_slicesValuesapiStyleq2 n a0 a1 = some ()) (c2_0 : Int) (c2_1a : NL) (c2_1t : List (NL)) (c2_2 : Int) (c2_3 : Int) (c2_4 : Bool) (hc2 : m_foldOverstyleschoiceq2 n a0 a1 0 0 0 false a2 = some (c2_0, (c2_1a :: c2_1t), c2_2, c2_3, c2_4)) : G_stylesStyleq2 a0 a1 a2 c2_2 :=
  runF_ok hm (A := aT [(6, .call ⟨1, [(0, 0, true)], (V_slicesValuesapiStyleq2 a0 a1 ()), (R_slicesValuesapiStyleq2 a0 a1 ()), [(0, 0, true), (3, 1, false)]⟩), (9, .call ⟨4, [(0, 3, false), (1, 0, true), (2, 1, false), (3, 2, false)], (V_foldOverstyleschoiceq2 a0 a1 0 0 0 false a2 (c2_0, (c2_1a :: c2_1t), c2_2, c2_3, c2_4)), (R_foldOverstyleschoiceq2 a0 a1 0 0 0 false a2 (c2_0, (c2_1a :: c2_1t), c2_2, c2_3, c2_4)), [(3, 0, false), (0, 1, true), (1, 2, false), (2, 3, false), (5, 5, false)]⟩)]) (L := lT []) (wk := ⟨[6], [(0, 0, true)], 1, 0⟩)
    (ps := [G_slicesValuesapiStyleq2 a0 a1 (),
    FlatB (.cells (layT (rows rw_iLii a0)) 27),
    FlatB (.cells (layT (rows rw_iLii a0)) 27),
    G_foldOverstyleschoiceq2 a0 a1 0 0 0 false a2 (c2_0, (c2_1a :: c2_1t), c2_2, c2_3, c2_4),
    FlatB (.cells (layT (rows rw_iLii a0)) 27),
    FlatB (.cells (layT (rows rw_iLii a0)) 27),
    FlatB (.cells (layT (rows rw_iLii a0)) 27)]) (by kernel_rfl) ⟨(m_slicesValuesapiStyleq2_ok n a0 a1 () hc1), (rows_flat rwf_iLii _ _), (rows_flat rwf_iLii _ _), (m_foldOverstyleschoiceq2_ok n a0 a1 0 0 0 false a2 (c2_0, (c2_1a :: c2_1t), c2_2, c2_3, c2_4) hc2), (rows_flat rwf_iLii _ _), (rows_flat rwf_iLii _ _), (rows_flat rwf_iLii _ _), trivial⟩
theorem m_stylesStyleq2_ok (n : Nat) (a0 : List (Int × NL × Int × Int)) (a1 : Nat) (a2 : Int) (r : Int) (h : m_stylesStyleq2 n a0 a1 a2 = some r) : G_stylesStyleq2 a0 a1 a2 r := by
  unfold m_stylesStyleq2 at h
  obtain ⟨_, hc1, h⟩ := Option.bind_eq_some_iff.1 h
  obtain ⟨⟨c2_0, c2_1, c2_2, c2_3, c2_4⟩, hc2, h⟩ := Option.bind_eq_some_iff.1 h
  dsimp only at h
  cases c2_1 with
  | nil =>
    dsimp only at h
    obtain rfl := Option.some.inj h; exact p_stylesStyleq2_0 n a0 a1 a2 hc1 c2_0 c2_2 c2_3 c2_4 hc2
  | cons c2_1a c2_1t =>
    dsimp only at h
    obtain rfl := Option.some.inj h; exact p_stylesStyleq2_1 n a0 a1 a2 hc1 c2_0 c2_1a c2_1t c2_2 c2_3 c2_4 hc2

noncomputable def S_slicesEqualintintq2_1 (x1_0 : List Int) (x1_1 : Nat) (x1_2 : Nat) (x1_3 : Nat) (x1_4 : NL) (x1_5 : Int) (st : Int) : XSt := match st with
  | x1_6 => (sT 26 [(0, (Value.slice (some ⟨0, (x1_1 * 1), none⟩) x1_2 x1_3)), (1, (nlV x1_4)), (12, (Value.int .i64 x1_5)), (13, (Value.int .i64 x1_6))], [], ⟨sB [(0, (some (.cells (layT (iv x1_0)) 3)))], 1, 1⟩)
noncomputable def X_slicesEqualintintq2_1 (x1_0 : List Int) (x1_1 : Nat) (x1_2 : Nat) (x1_3 : Nat) (x1_4 : NL) (x1_5 : Int) (r : (Unit) ⊕ (Unit)) : Ex × XSt := match r with
  | .inl _ => (.ret, (sT 26 [(4, (Value.bool false))], [], ⟨sB [(0, (some (.cells (layT (iv x1_0)) 3)))], 1, 1⟩))
  | .inr _ => (.exit 0, (sT 26 [], [], ⟨sB [(0, (some (.cells (layT (iv x1_0)) 3)))], 1, 1⟩))
def B_slicesEqualintintq2_1 (n : Nat) (x1_0 : List Int) (x1_1 : Nat) (x1_2 : Nat) (x1_3 : Nat) (x1_4 : NL) (x1_5 : Int) (st : Int) : Option ((Int) ⊕ ((Unit) ⊕ (Unit))) := match st with
  | x1_6 =>
    if x1_6 < x1_5 then
      if 0 ≤ x1_6 ∧ x1_6 < ((x1_2 : Nat) : Int) then
        if ((x1_1 + (x1_6).toNat) * 1) < (x1_0).length then
          if 0 ≤ x1_6 ∧ x1_6 < (((x1_4).l.length : Nat) : Int) then
            if (x1_6).toNat < ((x1_4).l).length then
              if ((x1_0).getD ((x1_1 + (x1_6).toNat) * 1) 0) = (((x1_4).l).getD (x1_6).toNat 0) then
                some (.inl (w64 (x1_6 + (1 : Int))))
              else
                some (.inr (.inl ()))
            else none
          else none
        else none
      else none
    else
      some (.inr (.inr ()))
def m_slicesEqualintintq2_1 (n : Nat) (x1_0 : List Int) (x1_1 : Nat) (x1_2 : Nat) (x1_3 : Nat) (x1_4 : NL) (x1_5 : Int) (st : Int) : Option ((Unit) ⊕ (Unit)) := iterM (B_slicesEqualintintq2_1 n x1_0 x1_1 x1_2 x1_3 x1_4 x1_5) n st
set_option maxRecDepth 100000 in
theorem q_slicesEqualintintq2_1_0 (n : Nat) {rnd : Option Nat} (x1_0 : List Int) (x1_1 : Nat) (x1_2 : Nat) (x1_3 : Nat) (x1_4 : NL) (x1_5 : Int) (x1_6 : Int) (hy1_1 : x1_6 < x1_5) (hy1_2 : 0 ≤ x1_6 ∧ x1_6 < ((x1_2 : Nat) : Int)) (hy1_3 : ((x1_1 + (x1_6).toNat) * 1) < (x1_0).length) (hy1_4 : 0 ≤ x1_6 ∧ x1_6 < (((x1_4).l.length : Nat) : Int)) (hy1_5 : (x1_6).toNat < ((x1_4).l).length) (hy1_6 : ((x1_0).getD ((x1_1 + (x1_6).toNat) * 1) 0) = (((x1_4).l).getD (x1_6).toNat 0)) : CG P rnd (fnN P 17) 1 (codeOf P 17 [false, false, true, false, true, true]) (S_slicesEqualintintq2_1 x1_0 x1_1 x1_2 x1_3 x1_4 x1_5 x1_6) (.normal, S_slicesEqualintintq2_1 x1_0 x1_1 x1_2 x1_3 x1_4 x1_5 (w64 (x1_6 + (1 : Int)))) :=
  runC_ok hm (A := aT [(1, .val (.bool true)), (12, .pur (Value.pointer (some ⟨0, ((x1_1 + (x1_6).toNat) * 1), none⟩))), (13, .ld (Value.int .i64 ((x1_0).getD ((x1_1 + (x1_6).toNat) * 1) 0))), (16, .pur (Value.pointer (some ⟨(Nat.add (x1_4).num 64), (x1_6).toNat, some 1⟩))), (17, .ld (Value.int .i64 (((x1_4).l).getD (x1_6).toNat 0))), (18, .val (.bool false))]) (L := lT []) (wk := ⟨[0, 1, 12, 13], [(0, 0, true)], 1, 1⟩)
    (ps := [(Value.bool (decide (x1_6 < x1_5))) = (Value.bool true),
    opIndexAddr P 23 (Value.slice (some ⟨0, (x1_1 * 1), none⟩) x1_2 x1_3) (Value.int .i64 x1_6) Ax.h0 = some ((Value.pointer (some ⟨0, ((x1_1 + (x1_6).toNat) * 1), none⟩)), Ax.h0),
    (layT (iv x1_0)).get ((x1_1 + (x1_6).toNat) * 1) = some (Value.int .i64 ((x1_0).getD ((x1_1 + (x1_6).toNat) * 1) 0)),
    opIndexAddr P 23 (nlV x1_4) (Value.int .i64 x1_6) Ax.h0 = some ((Value.pointer (some ⟨(Nat.add (x1_4).num 64), (x1_6).toNat, some 1⟩)), Ax.h0),
    loadG P 3 (Value.pointer (some ⟨(Nat.add (x1_4).num 64), (x1_6).toNat, some 1⟩)) Ax.h0 = some ((Value.int .i64 (((x1_4).l).getD (x1_6).toNat 0)), Ax.h0),
    (Value.bool (((x1_0).getD ((x1_1 + (x1_6).toNat) * 1) 0) != (((x1_4).l).getD (x1_6).toNat 0))) = (Value.bool false),
    FlatB (.cells (layT (iv x1_0)) 3)]) (by kernel_rfl) ⟨(vbT hy1_1), (ixSO (e := 3) (es := 1) x1_1 (by kernel_rfl) (by kernel_rfl) hy1_2), (iv_ld _ _ hy1_3), (ixW1 (e := 3) (by kernel_rfl) (by kernel_rfl) hy1_4), (ldN x1_4 (by kernel_rfl) hy1_5), (vnF hy1_6), (iv_flat _ _), trivial⟩
set_option maxRecDepth 100000 in
theorem q_slicesEqualintintq2_1_1 (n : Nat) {rnd : Option Nat} (x1_0 : List Int) (x1_1 : Nat) (x1_2 : Nat) (x1_3 : Nat) (x1_4 : NL) (x1_5 : Int) (x1_6 : Int) (hy1_1 : x1_6 < x1_5) (hy1_2 : 0 ≤ x1_6 ∧ x1_6 < ((x1_2 : Nat) : Int)) (hy1_3 : ((x1_1 + (x1_6).toNat) * 1) < (x1_0).length) (hy1_4 : 0 ≤ x1_6 ∧ x1_6 < (((x1_4).l.length : Nat) : Int)) (hy1_5 : (x1_6).toNat < ((x1_4).l).length) (hy1_6 : ¬ (((x1_0).getD ((x1_1 + (x1_6).toNat) * 1) 0) = (((x1_4).l).getD (x1_6).toNat 0))) : CG P rnd (fnN P 17) 1 (codeOf P 17 [false, false, true, false, true, true]) (S_slicesEqualintintq2_1 x1_0 x1_1 x1_2 x1_3 x1_4 x1_5 x1_6) (X_slicesEqualintintq2_1 x1_0 x1_1 x1_2 x1_3 x1_4 x1_5 (.inl ())) :=
  runC_ok hm (A := aT [(1, .val (.bool true)), (12, .pur (Value.pointer (some ⟨0, ((x1_1 + (x1_6).toNat) * 1), none⟩))), (13, .ld (Value.int .i64 ((x1_0).getD ((x1_1 + (x1_6).toNat) * 1) 0))), (16, .pur (Value.pointer (some ⟨(Nat.add (x1_4).num 64), (x1_6).toNat, some 1⟩))), (17, .ld (Value.int .i64 (((x1_4).l).getD (x1_6).toNat 0))), (18, .val (.bool true))]) (L := lT []) (wk := ⟨[4], [(0, 0, true)], 1, 1⟩)
    (ps := [(Value.bool (decide (x1_6 < x1_5))) = (Value.bool true),
    opIndexAddr P 23 (Value.slice (some ⟨0, (x1_1 * 1), none⟩) x1_2 x1_3) (Value.int .i64 x1_6) Ax.h0 = some ((Value.pointer (some ⟨0, ((x1_1 + (x1_6).toNat) * 1), none⟩)), Ax.h0),
    (layT (iv x1_0)).get ((x1_1 + (x1_6).toNat) * 1) = some (Value.int .i64 ((x1_0).getD ((x1_1 + (x1_6).toNat) * 1) 0)),
    opIndexAddr P 23 (nlV x1_4) (Value.int .i64 x1_6) Ax.h0 = some ((Value.pointer (some ⟨(Nat.add (x1_4).num 64), (x1_6).toNat, some 1⟩)), Ax.h0),
    loadG P 3 (Value.pointer (some ⟨(Nat.add (x1_4).num 64), (x1_6).toNat, some 1⟩)) Ax.h0 = some ((Value.int .i64 (((x1_4).l).getD (x1_6).toNat 0)), Ax.h0),
    (Value.bool (((x1_0).getD ((x1_1 + (x1_6).toNat) * 1) 0) != (((x1_4).l).getD (x1_6).toNat 0))) = (Value.bool true),
    FlatB (.cells (layT (iv x1_0)) 3)]) (by kernel_rfl) ⟨(vbT hy1_1), (ixSO (e := 3) (es := 1) x1_1 (by kernel_rfl) (by kernel_rfl) hy1_2), (iv_ld _ _ hy1_3), (ixW1 (e := 3) (by kernel_rfl) (by kernel_rfl) hy1_4), (ldN x1_4 (by kernel_rfl) hy1_5), (vnT hy1_6), (iv_flat _ _), trivial⟩
set_option maxRecDepth 100000 in
theorem q_slicesEqualintintq2_1_2 (n : Nat) {rnd : Option Nat} (x1_0 : List Int) (x1_1 : Nat) (x1_2 : Nat) (x1_3 : Nat) (x1_4 : NL) (x1_5 : Int) (x1_6 : Int) (hy1_1 : ¬ (x1_6 < x1_5)) : CG P rnd (fnN P 17) 1 (codeOf P 17 [false, false, true, false, true, true]) (S_slicesEqualintintq2_1 x1_0 x1_1 x1_2 x1_3 x1_4 x1_5 x1_6) (X_slicesEqualintintq2_1 x1_0 x1_1 x1_2 x1_3 x1_4 x1_5 (.inr ())) :=
  runC_ok hm (A := aT [(1, .val (.bool false))]) (L := lT []) (wk := ⟨[], [(0, 0, true)], 1, 1⟩)
    (ps := [(Value.bool (decide (x1_6 < x1_5))) = (Value.bool false),
    FlatB (.cells (layT (iv x1_0)) 3)]) (by kernel_rfl) ⟨(vbF hy1_1), (iv_flat _ _), trivial⟩
theorem m_slicesEqualintintq2_1_ok (n : Nat) {rnd : Option Nat} (x1_0 : List Int) (x1_1 : Nat) (x1_2 : Nat) (x1_3 : Nat) (x1_4 : NL) (x1_5 : Int) (st : Int) (r : (Unit) ⊕ (Unit)) (h : m_slicesEqualintintq2_1 n x1_0 x1_1 x1_2 x1_3 x1_4 x1_5 st = some r) : CG P rnd (fnN P 17) 1 (codeOf P 17 [false, true, false, true, true]) (S_slicesEqualintintq2_1 x1_0 x1_1 x1_2 x1_3 x1_4 x1_5 st) (X_slicesEqualintintq2_1 x1_0 x1_1 x1_2 x1_3 x1_4 x1_5 r) :=
  CG.iter (b := codeOf P 17 [false, false, true, false, true, true]) (by kernel_rfl) (body := B_slicesEqualintintq2_1 n x1_0 x1_1 x1_2 x1_3 x1_4 x1_5) (S := S_slicesEqualintintq2_1 x1_0 x1_1 x1_2 x1_3 x1_4 x1_5) (X := X_slicesEqualintintq2_1 x1_0 x1_1 x1_2 x1_3 x1_4 x1_5)
    (fun x1_6 s' h => by
    unfold B_slicesEqualintintq2_1 at h
    dsimp only at h
    by_cases hy1_1 : x1_6 < x1_5
    · rw [if_pos hy1_1] at h
      by_cases hy1_2 : 0 ≤ x1_6 ∧ x1_6 < ((x1_2 : Nat) : Int)
      · rw [if_pos hy1_2] at h
        by_cases hy1_3 : ((x1_1 + (x1_6).toNat) * 1) < (x1_0).length
        · rw [if_pos hy1_3] at h
          by_cases hy1_4 : 0 ≤ x1_6 ∧ x1_6 < (((x1_4).l.length : Nat) : Int)
          · rw [if_pos hy1_4] at h
            by_cases hy1_5 : (x1_6).toNat < ((x1_4).l).length
            · rw [if_pos hy1_5] at h
              by_cases hy1_6 : ((x1_0).getD ((x1_1 + (x1_6).toNat) * 1) 0) = (((x1_4).l).getD (x1_6).toNat 0)
              · rw [if_pos hy1_6] at h
                obtain rfl := Sum.inl.inj (Option.some.inj h); exact q_slicesEqualintintq2_1_0 n x1_0 x1_1 x1_2 x1_3 x1_4 x1_5 x1_6 hy1_1 hy1_2 hy1_3 hy1_4 hy1_5 hy1_6
              · rw [if_neg hy1_6] at h
                cases h
            · rw [if_neg hy1_5] at h; cases h
          · rw [if_neg hy1_4] at h; cases h
        · rw [if_neg hy1_3] at h; cases h
      · rw [if_neg hy1_2] at h; cases h
    · rw [if_neg hy1_1] at h
      cases h)
    (fun x1_6 r h => by
    unfold B_slicesEqualintintq2_1 at h
    dsimp only at h
    by_cases hy1_1 : x1_6 < x1_5
    · rw [if_pos hy1_1] at h
      by_cases hy1_2 : 0 ≤ x1_6 ∧ x1_6 < ((x1_2 : Nat) : Int)
      · rw [if_pos hy1_2] at h
        by_cases hy1_3 : ((x1_1 + (x1_6).toNat) * 1) < (x1_0).length
        · rw [if_pos hy1_3] at h
          by_cases hy1_4 : 0 ≤ x1_6 ∧ x1_6 < (((x1_4).l.length : Nat) : Int)
          · rw [if_pos hy1_4] at h
            by_cases hy1_5 : (x1_6).toNat < ((x1_4).l).length
            · rw [if_pos hy1_5] at h
              by_cases hy1_6 : ((x1_0).getD ((x1_1 + (x1_6).toNat) * 1) 0) = (((x1_4).l).getD (x1_6).toNat 0)
              · rw [if_pos hy1_6] at h
                cases h
              · rw [if_neg hy1_6] at h
                obtain rfl := Sum.inr.inj (Option.some.inj h); exact q_slicesEqualintintq2_1_1 n x1_0 x1_1 x1_2 x1_3 x1_4 x1_5 x1_6 hy1_1 hy1_2 hy1_3 hy1_4 hy1_5 hy1_6
            · rw [if_neg hy1_5] at h; cases h
          · rw [if_neg hy1_4] at h; cases h
        · rw [if_neg hy1_3] at h; cases h
      · rw [if_neg hy1_2] at h; cases h
    · rw [if_neg hy1_1] at h
      obtain rfl := Sum.inr.inj (Option.some.inj h); exact q_slicesEqualintintq2_1_2 n x1_0 x1_1 x1_2 x1_3 x1_4 x1_5 x1_6 hy1_1)
    (fun r => by intro hx; rcases r with _ | _ <;> cases hx) h
noncomputable def A_slicesEqualintintq2 (a0 : List Int) (a1 : Nat) (a2 : Nat) (a3 : Nat) (a4 : NL) : List Value := [(Value.slice (some ⟨0, (a1 * 1), none⟩) a2 a3), (nlV a4)]
noncomputable def H_slicesEqualintintq2 (a0 : List Int) (a1 : Nat) (a2 : Nat) (a3 : Nat) (a4 : NL) : AH := ⟨sB [(0, (some (.cells (layT (iv a0)) 3)))], 1, 1⟩
noncomputable def V_slicesEqualintintq2 (a0 : List Int) (a1 : Nat) (a2 : Nat) (a3 : Nat) (a4 : NL) (r : Bool) : Value := match r with
  | o0 => (Value.bool o0)
noncomputable def R_slicesEqualintintq2 (a0 : List Int) (a1 : Nat) (a2 : Nat) (a3 : Nat) (a4 : NL) (r : Bool) : AH := match r with
  | o0 => ⟨sB [], 1, 1⟩
noncomputable abbrev G_slicesEqualintintq2 (a0 : List Int) (a1 : Nat) (a2 : Nat) (a3 : Nat) (a4 : NL) (r : Bool) : Prop := Gv P (.func 17) (A_slicesEqualintintq2 a0 a1 a2 a3 a4) (H_slicesEqualintintq2 a0 a1 a2 a3 a4) (V_slicesEqualintintq2 a0 a1 a2 a3 a4 r) (R_slicesEqualintintq2 a0 a1 a2 a3 a4 r)
def m_slicesEqualintintq2 (n : Nat) (a0 : List Int) (a1 : Nat) (a2 : Nat) (a3 : Nat) (a4 : NL) : Option (Bool) :=
  if ((a2 : Nat) : Int) = (((a4).l.length : Nat) : Int) then
    match m_slicesEqualintintq2_1 n a0 a1 a2 a3 a4 ((a2 : Nat) : Int) 0 with
    | none => none
    | some (.inl _) =>
      some false
    | some (.inr _) =>
      some true
  else
    some false
set_option maxRecDepth 100000 in
theorem p_slicesEqualintintq2_0 (n : Nat) (a0 : List Int) (a1 : Nat) (a2 : Nat) (a3 : Nat) (a4 : NL) (hc1 : ((a2 : Nat) : Int) = (((a4).l.length : Nat) : Int)) (hc2 : m_slicesEqualintintq2_1 n a0 a1 a2 a3 a4 ((a2 : Nat) : Int) 0 = some (.inl ())) : G_slicesEqualintintq2 a0 a1 a2 a3 a4 false :=
  runF_ok hm (A := aT [(8, .val (.bool false))]) (L := lT [(16, ⟨⟨[0, 1, 12, 13], [(0, 0, true)], 1, 1⟩, (X_slicesEqualintintq2_1 a0 a1 a2 a3 a4 ((a2 : Nat) : Int) (.inl ())).1, (X_slicesEqualintintq2_1 a0 a1 a2 a3 a4 ((a2 : Nat) : Int) (.inl ())).2⟩)]) (wk := ⟨[4], [], 1, 1⟩)
    (ps := [(Value.bool (((a2 : Nat) : Int) != (((a4).l.length : Nat) : Int))) = (Value.bool false),
    CG P none (fnN P 17) 1 (codeOf P 17 [false, true, false, true, true]) (S_slicesEqualintintq2_1 a0 a1 a2 a3 a4 ((a2 : Nat) : Int) 0) (X_slicesEqualintintq2_1 a0 a1 a2 a3 a4 ((a2 : Nat) : Int) (.inl ())),
    FlatB (.cells (layT (iv a0)) 3)]) (by kernel_rfl) ⟨(vnF hc1), (m_slicesEqualintintq2_1_ok n a0 a1 a2 a3 a4 ((a2 : Nat) : Int) 0 (.inl ()) hc2), (iv_flat _ _), trivial⟩
set_option maxRecDepth 100000 in
theorem p_slicesEqualintintq2_1 (n : Nat) (a0 : List Int) (a1 : Nat) (a2 : Nat) (a3 : Nat) (a4 : NL) (hc1 : ((a2 : Nat) : Int) = (((a4).l.length : Nat) : Int)) (hc2 : m_slicesEqualintintq2_1 n a0 a1 a2 a3 a4 ((a2 : Nat) : Int) 0 = some (.inr ())) : G_slicesEqualintintq2 a0 a1 a2 a3 a4 true :=
  runF_ok hm (A := aT [(8, .val (.bool false))]) (L := lT [(16, ⟨⟨[0, 1, 12, 13], [(0, 0, true)], 1, 1⟩, (X_slicesEqualintintq2_1 a0 a1 a2 a3 a4 ((a2 : Nat) : Int) (.inr ())).1, (X_slicesEqualintintq2_1 a0 a1 a2 a3 a4 ((a2 : Nat) : Int) (.inr ())).2⟩)]) (wk := ⟨[4], [], 1, 1⟩)
    (ps := [(Value.bool (((a2 : Nat) : Int) != (((a4).l.length : Nat) : Int))) = (Value.bool false),
    CG P none (fnN P 17) 1 (codeOf P 17 [false, true, false, true, true]) (S_slicesEqualintintq2_1 a0 a1 a2 a3 a4 ((a2 : Nat) : Int) 0) (X_slicesEqualintintq2_1 a0 a1 a2 a3 a4 ((a2 : Nat) : Int) (.inr ())),
    FlatB (.cells (layT (iv a0)) 3)]) (by kernel_rfl) ⟨(vnF hc1), (m_slicesEqualintintq2_1_ok n a0 a1 a2 a3 a4 ((a2 : Nat) : Int) 0 (.inr ()) hc2), (iv_flat _ _), trivial⟩
set_option maxRecDepth 100000 in
theorem p_slicesEqualintintq2_2 (n : Nat) (a0 : List Int) (a1 : Nat) (a2 : Nat) (a3 : Nat) (a4 : NL) (hc1 : ¬ (((a2 : Nat) : Int) = (((a4).l.length : Nat) : Int))) : G_slicesEqualintintq2 a0 a1 a2 a3 a4 false :=
  runF_ok hm (A := aT [(8, .val (.bool true))]) (L := lT []) (wk := ⟨[4], [], 1, 1⟩)
    (ps := [(Value.bool (((a2 : Nat) : Int) != (((a4).l.length : Nat) : Int))) = (Value.bool true)]) (by kernel_rfl) ⟨(vnT hc1), trivial⟩
theorem m_slicesEqualintintq2_ok (n : Nat) (a0 : List Int) (a1 : Nat) (a2 : Nat) (a3 : Nat) (a4 : NL) (r : Bool) (h : m_slicesEqualintintq2 n a0 a1 a2 a3 a4 = some r) : G_slicesEqualintintq2 a0 a1 a2 a3 a4 r := by
  unfold m_slicesEqualintintq2 at h
  by_cases hc1 : ((a2 : Nat) : Int) = (((a4).l.length : Nat) : Int)
  · rw [if_pos hc1] at h
    rcases hc2 : m_slicesEqualintintq2_1 n a0 a1 a2 a3 a4 ((a2 : Nat) : Int) 0 with _ | (⟨⟩ | ⟨⟩)
    · rw [hc2] at h; cases h
    · rw [hc2] at h
      dsimp only at h
      obtain rfl := Option.some.inj h; exact p_slicesEqualintintq2_0 n a0 a1 a2 a3 a4 hc1 hc2
    · rw [hc2] at h
      dsimp only at h
      obtain rfl := Option.some.inj h; exact p_slicesEqualintintq2_1 n a0 a1 a2 a3 a4 hc1 hc2
  · rw [if_neg hc1] at h
    obtain rfl := Option.some.inj h; exact p_slicesEqualintintq2_2 n a0 a1 a2 a3 a4 hc1

noncomputable def A_stylesendsWithintq2 (a0 : List Int) (a1 : NL) : List Value := [(Value.slice (some ⟨0, 0, none⟩) (a0).length (Nat.add big 1)), (nlV a1)]
noncomputable def H_stylesendsWithintq2 (a0 : List Int) (a1 : NL) : AH := ⟨sB [(0, (some (.cells (layT (iv a0)) 3)))], 1, 1⟩
noncomputable def V_stylesendsWithintq2 (a0 : List Int) (a1 : NL) (r : Bool) : Value := match r with
  | o0 => (Value.bool o0)
noncomputable def R_stylesendsWithintq2 (a0 : List Int) (a1 : NL) (r : Bool) : AH := match r with
  | o0 => ⟨sB [], 1, 1⟩
noncomputable abbrev G_stylesendsWithintq2 (a0 : List Int) (a1 : NL) (r : Bool) : Prop := Gv P (.func 13) (A_stylesendsWithintq2 a0 a1) (H_stylesendsWithintq2 a0 a1) (V_stylesendsWithintq2 a0 a1 r) (R_stylesendsWithintq2 a0 a1 r)
def m_stylesendsWithintq2 (n : Nat) (a0 : List Int) (a1 : NL) : Option (Bool) :=
  if (((a1).l.length : Nat) : Int) ≤ (((a0).length : Nat) : Int) then
    if 0 ≤ (w64 ((((a0).length : Nat) : Int) - (((a1).l.length : Nat) : Int))) ∧ (w64 ((((a0).length : Nat) : Int) - (((a1).l.length : Nat) : Int))) ≤ (((a0).length : Nat) : Int) then
      (m_slicesEqualintintq2 n a0 (((w64 ((((a0).length : Nat) : Int) - (((a1).l.length : Nat) : Int)))).toNat) ((a0).length - ((w64 ((((a0).length : Nat) : Int) - (((a1).l.length : Nat) : Int)))).toNat) (Nat.add big 1) a1).bind fun c3_ =>
      some c3_
    else none
  else
    some false
set_option maxRecDepth 100000 in
theorem p_stylesendsWithintq2_0 (n : Nat) (a0 : List Int) (a1 : NL) (hc1 : (((a1).l.length : Nat) : Int) ≤ (((a0).length : Nat) : Int)) (hc2 : 0 ≤ (w64 ((((a0).length : Nat) : Int) - (((a1).l.length : Nat) : Int))) ∧ (w64 ((((a0).length : Nat) : Int) - (((a1).l.length : Nat) : Int))) ≤ (((a0).length : Nat) : Int)) (c3_ : Bool) (hc3 : m_slicesEqualintintq2 n a0 (((w64 ((((a0).length : Nat) : Int) - (((a1).l.length : Nat) : Int)))).toNat) ((a0).length - ((w64 ((((a0).length : Nat) : Int) - (((a1).l.length : Nat) : Int)))).toNat) (Nat.add big 1) a1 = some c3_) : G_stylesendsWithintq2 a0 a1 c3_ :=
  runF_ok hm (A := aT [(7, .val (.bool true)), (15, .pur (Value.slice (some ⟨0, (((w64 ((((a0).length : Nat) : Int) - (((a1).l.length : Nat) : Int)))).toNat * 1), none⟩) ((a0).length - ((w64 ((((a0).length : Nat) : Int) - (((a1).l.length : Nat) : Int)))).toNat) (Nat.add big 1))), (17, .call ⟨1, [(0, 0, true)], (V_slicesEqualintintq2 a0 (((w64 ((((a0).length : Nat) : Int) - (((a1).l.length : Nat) : Int)))).toNat) ((a0).length - ((w64 ((((a0).length : Nat) : Int) - (((a1).l.length : Nat) : Int)))).toNat) (Nat.add big 1) a1 c3_), (R_slicesEqualintintq2 a0 (((w64 ((((a0).length : Nat) : Int) - (((a1).l.length : Nat) : Int)))).toNat) ((a0).length - ((w64 ((((a0).length : Nat) : Int) - (((a1).l.length : Nat) : Int)))).toNat) (Nat.add big 1) a1 c3_), []⟩)]) (L := lT []) (wk := ⟨[4], [], 1, 1⟩)
    (ps := [(Value.bool (decide ((((a1).l.length : Nat) : Int) ≤ (((a0).length : Nat) : Int)))) = (Value.bool true),
    opSlice P 23 (Value.slice (some ⟨0, 0, none⟩) (a0).length (Nat.add big 1)) (some (Value.int .i64 (w64 ((((a0).length : Nat) : Int) - (((a1).l.length : Nat) : Int))))) none none Ax.h0 = some ((Value.slice (some ⟨0, (((w64 ((((a0).length : Nat) : Int) - (((a1).l.length : Nat) : Int)))).toNat * 1), none⟩) ((a0).length - ((w64 ((((a0).length : Nat) : Int) - (((a1).l.length : Nat) : Int)))).toNat) (Nat.add big 1)), Ax.h0),
    G_slicesEqualintintq2 a0 (((w64 ((((a0).length : Nat) : Int) - (((a1).l.length : Nat) : Int)))).toNat) ((a0).length - ((w64 ((((a0).length : Nat) : Int) - (((a1).l.length : Nat) : Int)))).toNat) (Nat.add big 1) a1 c3_,
    FlatB (.cells (layT (iv a0)) 3)]) (by kernel_rfl) ⟨(vbT hc1), (slRow (e := 3) (es := 1) (by kernel_rfl) (by kernel_rfl) rfl rfl hc2), (m_slicesEqualintintq2_ok n a0 (((w64 ((((a0).length : Nat) : Int) - (((a1).l.length : Nat) : Int)))).toNat) ((a0).length - ((w64 ((((a0).length : Nat) : Int) - (((a1).l.length : Nat) : Int)))).toNat) (Nat.add big 1) a1 c3_ hc3), (iv_flat _ _), trivial⟩
set_option maxRecDepth 100000 in
theorem p_stylesendsWithintq2_1 (n : Nat) (a0 : List Int) (a1 : NL) (hc1 : ¬ ((((a1).l.length : Nat) : Int) ≤ (((a0).length : Nat) : Int))) : G_stylesendsWithintq2 a0 a1 false :=
  runF_ok hm (A := aT [(7, .val (.bool false))]) (L := lT []) (wk := ⟨[4], [], 1, 1⟩)
    (ps := [(Value.bool (decide ((((a1).l.length : Nat) : Int) ≤ (((a0).length : Nat) : Int)))) = (Value.bool false)]) (by kernel_rfl) ⟨(vbF hc1), trivial⟩
theorem m_stylesendsWithintq2_ok (n : Nat) (a0 : List Int) (a1 : NL) (r : Bool) (h : m_stylesendsWithintq2 n a0 a1 = some r) : G_stylesendsWithintq2 a0 a1 r := by
  unfold m_stylesendsWithintq2 at h
  by_cases hc1 : (((a1).l.length : Nat) : Int) ≤ (((a0).length : Nat) : Int)
  · rw [if_pos hc1] at h
    by_cases hc2 : 0 ≤ (w64 ((((a0).length : Nat) : Int) - (((a1).l.length : Nat) : Int))) ∧ (w64 ((((a0).length : Nat) : Int) - (((a1).l.length : Nat) : Int))) ≤ (((a0).length : Nat) : Int)
    · rw [if_pos hc2] at h
      obtain ⟨c3_, hc3, h⟩ := Option.bind_eq_some_iff.1 h
      obtain rfl := Option.some.inj h; exact p_stylesendsWithintq2_0 n a0 a1 hc1 hc2 c3_ hc3
    · rw [if_neg hc2] at h; cases h
  · rw [if_neg hc1] at h
    obtain rfl := Option.some.inj h; exact p_stylesendsWithintq2_1 n a0 a1 hc1

noncomputable def A_stylesMatchesq2 (a0 : Int) (a1 : NL) (a2 : Int) (a3 : Int) (a4 : Int) (a5 : List Int) : List Value := [(Value.agg #[(Value.int .i64 a0), (nlV a1), (Value.int .i64 a2), (Value.int .i64 a3)]), (Value.int .i64 a4), (Value.slice (some ⟨0, 0, none⟩) (a5).length (Nat.add big 1))]
noncomputable def H_stylesMatchesq2 (a0 : Int) (a1 : NL) (a2 : Int) (a3 : Int) (a4 : Int) (a5 : List Int) : AH := ⟨sB [(0, (some (.cells (layT (iv a5)) 3)))], 1, 1⟩
noncomputable def V_stylesMatchesq2 (a0 : Int) (a1 : NL) (a2 : Int) (a3 : Int) (a4 : Int) (a5 : List Int) (r : Bool) : Value := match r with
  | o0 => (Value.bool o0)
noncomputable def R_stylesMatchesq2 (a0 : Int) (a1 : NL) (a2 : Int) (a3 : Int) (a4 : Int) (a5 : List Int) (r : Bool) : AH := match r with
  | o0 => ⟨sB [], 1, 1⟩
noncomputable abbrev G_stylesMatchesq2 (a0 : Int) (a1 : NL) (a2 : Int) (a3 : Int) (a4 : Int) (a5 : List Int) (r : Bool) : Prop := Gv P (.func 8) (A_stylesMatchesq2 a0 a1 a2 a3 a4 a5) (H_stylesMatchesq2 a0 a1 a2 a3 a4 a5) (V_stylesMatchesq2 a0 a1 a2 a3 a4 a5 r) (R_stylesMatchesq2 a0 a1 a2 a3 a4 a5 r)
def m_stylesMatchesq2 (n : Nat) (a0 : Int) (a1 : NL) (a2 : Int) (a3 : Int) (a4 : Int) (a5 : List Int) : Option (Bool) :=
  if a0 = a4 then
    (m_stylesendsWithintq2 n a5 a1).bind fun c2_ =>
    some c2_
  else
    some false
set_option maxRecDepth 100000 in
theorem p_stylesMatchesq2_0 (n : Nat) (a0 : Int) (a1 : NL) (a2 : Int) (a3 : Int) (a4 : Int) (a5 : List Int) (hc1 : a0 = a4) (c2_ : Bool) (hc2 : m_stylesendsWithintq2 n a5 a1 = some c2_) : G_stylesMatchesq2 a0 a1 a2 a3 a4 a5 c2_ :=
  runF_ok hm (A := aT [(7, .val (.bool true)), (12, .call ⟨1, [(0, 0, true)], (V_stylesendsWithintq2 a5 a1 c2_), (R_stylesendsWithintq2 a5 a1 c2_), []⟩)]) (L := lT []) (wk := ⟨[6], [], 1, 1⟩)
    (ps := [(Value.bool (a0 == a4)) = (Value.bool true),
    G_stylesendsWithintq2 a5 a1 c2_,
    FlatB (.cells (layT (iv a5)) 3)]) (by kernel_rfl) ⟨(veT hc1), (m_stylesendsWithintq2_ok n a5 a1 c2_ hc2), (iv_flat _ _), trivial⟩
set_option maxRecDepth 100000 in
theorem p_stylesMatchesq2_1 (n : Nat) (a0 : Int) (a1 : NL) (a2 : Int) (a3 : Int) (a4 : Int) (a5 : List Int) (hc1 : ¬ (a0 = a4)) : G_stylesMatchesq2 a0 a1 a2 a3 a4 a5 false :=
  runF_ok hm (A := aT [(7, .val (.bool false))]) (L := lT []) (wk := ⟨[6], [], 1, 1⟩)
    (ps := [(Value.bool (a0 == a4)) = (Value.bool false)]) (by kernel_rfl) ⟨(veF hc1), trivial⟩
theorem m_stylesMatchesq2_ok (n : Nat) (a0 : Int) (a1 : NL) (a2 : Int) (a3 : Int) (a4 : Int) (a5 : List Int) (r : Bool) (h : m_stylesMatchesq2 n a0 a1 a2 a3 a4 a5 = some r) : G_stylesMatchesq2 a0 a1 a2 a3 a4 a5 r := by
  unfold m_stylesMatchesq2 at h
  by_cases hc1 : a0 = a4
  · rw [if_pos hc1] at h
    obtain ⟨c2_, hc2, h⟩ := Option.bind_eq_some_iff.1 h
    obtain rfl := Option.some.inj h; exact p_stylesMatchesq2_0 n a0 a1 a2 a3 a4 a5 hc1 c2_ hc2
  · rw [if_neg hc1] at h
    obtain rfl := Option.some.inj h; exact p_stylesMatchesq2_1 n a0 a1 a2 a3 a4 a5 hc1

noncomputable def A_stylesStyle1q3 (a0 : Int) (a1 : Int) (a2 : Int) (a3 : Bool) (a4 : Int) (a5 : NL) (a6 : Int) (a7 : Int) (a8 : Int) (a9 : List Int) : List Value := [(Value.agg #[(Value.int .i64 a0), (Value.slice none 0 0), (Value.int .i64 a1), (Value.int .i64 a2), (Value.bool a3)]), (Value.agg #[(Value.int .i64 a4), (nlV a5), (Value.int .i64 a6), (Value.int .i64 a7)]), (Value.pointer (some ⟨0, 0, none⟩)), (Value.pointer (some ⟨1, 0, none⟩))]
noncomputable def H_stylesStyle1q3 (a0 : Int) (a1 : Int) (a2 : Int) (a3 : Bool) (a4 : Int) (a5 : NL) (a6 : Int) (a7 : Int) (a8 : Int) (a9 : List Int) : AH := ⟨sB [(0, (some (.cells (layT [(Value.int .i64 a8)]) 3))), (1, (some (.cells (layT [(Value.slice (some ⟨2, 0, none⟩) (a9).length (Nat.add big 1))]) 23))), (2, (some (.cells (layT (iv a9)) 3)))], 3, 3⟩
noncomputable def V_stylesStyle1q3 (a0 : Int) (a1 : Int) (a2 : Int) (a3 : Bool) (a4 : Int) (a5 : NL) (a6 : Int) (a7 : Int) (a8 : Int) (a9 : List Int) (r : Int × List (NL) × Int × Int × Bool) : Value := match r with
  | (o0, o1, o2, o3, o4) => (Value.agg #[(Value.int .i64 o0), (nlQ o1), (Value.int .i64 o2), (Value.int .i64 o3), (Value.bool o4)])
noncomputable def R_stylesStyle1q3 (a0 : Int) (a1 : Int) (a2 : Int) (a3 : Bool) (a4 : Int) (a5 : NL) (a6 : Int) (a7 : Int) (a8 : Int) (a9 : List Int) (r : Int × List (NL) × Int × Int × Bool) : AH := match r with
  | (o0, o1, o2, o3, o4) => ⟨sB [(3, (some (.cells (layT [(Value.int .i64 o0), (nlQ o1), (Value.int .i64 o2), (Value.int .i64 o3), (Value.bool o4)]) 38)))], 4, 3⟩
noncomputable abbrev G_stylesStyle1q3 (a0 : Int) (a1 : Int) (a2 : Int) (a3 : Bool) (a4 : Int) (a5 : NL) (a6 : Int) (a7 : Int) (a8 : Int) (a9 : List Int) (r : Int × List (NL) × Int × Int × Bool) : Prop := Gv P (.func 16) (A_stylesStyle1q3 a0 a1 a2 a3 a4 a5 a6 a7 a8 a9) (H_stylesStyle1q3 a0 a1 a2 a3 a4 a5 a6 a7 a8 a9) (V_stylesStyle1q3 a0 a1 a2 a3 a4 a5 a6 a7 a8 a9 r) (R_stylesStyle1q3 a0 a1 a2 a3 a4 a5 a6 a7 a8 a9 r)
def m_stylesStyle1q3 (n : Nat) (a0 : Int) (a1 : Int) (a2 : Int) (a3 : Bool) (a4 : Int) (a5 : NL) (a6 : Int) (a7 : Int) (a8 : Int) (a9 : List Int) : Option (Int × List (NL) × Int × Int × Bool) :=
  (m_stylesMatchesq2 n a4 a5 a6 a7 a8 a9).bind fun c1_ =>
  if c1_ = true then
    if a3 = true then
      if a7 ≤ a2 then
        some (a0, ([] : List (NL)), a1, a2, a3)
      else
        some (a4, [a5], a6, a7, true)
    else
      some (a4, [a5], a6, a7, true)
  else
    some (a0, ([] : List (NL)), a1, a2, a3)
set_option maxRecDepth 100000 in
theorem p_stylesStyle1q3_0 (n : Nat) (a0 : Int) (a1 : Int) (a2 : Int) (a3 : Bool) (a4 : Int) (a5 : NL) (a6 : Int) (a7 : Int) (a8 : Int) (a9 : List Int) (c1_ : Bool) (hc1 : m_stylesMatchesq2 n a4 a5 a6 a7 a8 a9 = some c1_) (hc2 : c1_ = true) (hc3 : a3 = true) (hc4 : a7 ≤ a2) : G_stylesStyle1q3 a0 a1 a2 a3 a4 a5 a6 a7 a8 a9 (a0, ([] : List (NL)), a1, a2, a3) :=
  runF_ok hm (A := aT [(9, .call ⟨1, [(0, 2, true)], (V_stylesMatchesq2 a4 a5 a6 a7 a8 a9 c1_), (R_stylesMatchesq2 a4 a5 a6 a7 a8 a9 c1_), []⟩), (10, .val (.bool false)), (14, .val (.bool true)), (20, .val (.bool true))]) (L := lT []) (wk := ⟨[6], [(3, 5, false)], 4, 3⟩)
    (ps := [G_stylesMatchesq2 a4 a5 a6 a7 a8 a9 c1_,
    FlatB (.cells (layT (iv a9)) 3),
    (Value.bool (!c1_)) = (Value.bool false),
    (Value.bool a3) = (Value.bool true),
    (Value.bool (decide (a7 ≤ a2))) = (Value.bool true)]) (by kernel_rfl) ⟨(m_stylesMatchesq2_ok n a4 a5 a6 a7 a8 a9 c1_ hc1), (iv_flat _ _), (vBn hc2), (vB hc3), (vbT hc4), trivial⟩
set_option maxRecDepth 100000 in
theorem p_stylesStyle1q3_1 (n : Nat) (a0 : Int) (a1 : Int) (a2 : Int) (a3 : Bool) (a4 : Int) (a5 : NL) (a6 : Int) (a7 : Int) (a8 : Int) (a9 : List Int) (c1_ : Bool) (hc1 : m_stylesMatchesq2 n a4 a5 a6 a7 a8 a9 = some c1_) (hc2 : c1_ = true) (hc3 : a3 = true) (hc4 : ¬ (a7 ≤ a2)) : G_stylesStyle1q3 a0 a1 a2 a3 a4 a5 a6 a7 a8 a9 (a4, [a5], a6, a7, true) :=
  runF_ok hm (A := aT [(9, .call ⟨1, [(0, 2, true)], (V_stylesMatchesq2 a4 a5 a6 a7 a8 a9 c1_), (R_stylesMatchesq2 a4 a5 a6 a7 a8 a9 c1_), []⟩), (10, .val (.bool false)), (14, .val (.bool true)), (20, .val (.bool false))]) (L := lT []) (wk := ⟨[6], [(3, 5, false)], 4, 3⟩)
    (ps := [G_stylesMatchesq2 a4 a5 a6 a7 a8 a9 c1_,
    FlatB (.cells (layT (iv a9)) 3),
    (Value.bool (!c1_)) = (Value.bool false),
    (Value.bool a3) = (Value.bool true),
    (Value.bool (decide (a7 ≤ a2))) = (Value.bool false)]) (by kernel_rfl) ⟨(m_stylesMatchesq2_ok n a4 a5 a6 a7 a8 a9 c1_ hc1), (iv_flat _ _), (vBn hc2), (vB hc3), (vbF hc4), trivial⟩
set_option maxRecDepth 100000 in
theorem p_stylesStyle1q3_2 (n : Nat) (a0 : Int) (a1 : Int) (a2 : Int) (a3 : Bool) (a4 : Int) (a5 : NL) (a6 : Int) (a7 : Int) (a8 : Int) (a9 : List Int) (c1_ : Bool) (hc1 : m_stylesMatchesq2 n a4 a5 a6 a7 a8 a9 = some c1_) (hc2 : c1_ = true) (hc3 : ¬ (a3 = true)) : G_stylesStyle1q3 a0 a1 a2 a3 a4 a5 a6 a7 a8 a9 (a4, [a5], a6, a7, true) :=
  runF_ok hm (A := aT [(9, .call ⟨1, [(0, 2, true)], (V_stylesMatchesq2 a4 a5 a6 a7 a8 a9 c1_), (R_stylesMatchesq2 a4 a5 a6 a7 a8 a9 c1_), []⟩), (10, .val (.bool false)), (14, .val (.bool false))]) (L := lT []) (wk := ⟨[6], [(3, 5, false)], 4, 3⟩)
    (ps := [G_stylesMatchesq2 a4 a5 a6 a7 a8 a9 c1_,
    FlatB (.cells (layT (iv a9)) 3),
    (Value.bool (!c1_)) = (Value.bool false),
    (Value.bool a3) = (Value.bool false)]) (by kernel_rfl) ⟨(m_stylesMatchesq2_ok n a4 a5 a6 a7 a8 a9 c1_ hc1), (iv_flat _ _), (vBn hc2), (vB (Bool.eq_false_iff.2 hc3)), trivial⟩
set_option maxRecDepth 100000 in
theorem p_stylesStyle1q3_3 (n : Nat) (a0 : Int) (a1 : Int) (a2 : Int) (a3 : Bool) (a4 : Int) (a5 : NL) (a6 : Int) (a7 : Int) (a8 : Int) (a9 : List Int) (c1_ : Bool) (hc1 : m_stylesMatchesq2 n a4 a5 a6 a7 a8 a9 = some c1_) (hc2 : ¬ (c1_ = true)) : G_stylesStyle1q3 a0 a1 a2 a3 a4 a5 a6 a7 a8 a9 (a0, ([] : List (NL)), a1, a2, a3) :=
  runF_ok hm (A := aT [(9, .call ⟨1, [(0, 2, true)], (V_stylesMatchesq2 a4 a5 a6 a7 a8 a9 c1_), (R_stylesMatchesq2 a4 a5 a6 a7 a8 a9 c1_), []⟩), (10, .val (.bool true))]) (L := lT []) (wk := ⟨[6], [(3, 5, false)], 4, 3⟩)
    (ps := [G_stylesMatchesq2 a4 a5 a6 a7 a8 a9 c1_,
    FlatB (.cells (layT (iv a9)) 3),
    (Value.bool (!c1_)) = (Value.bool true)]) (by kernel_rfl) ⟨(m_stylesMatchesq2_ok n a4 a5 a6 a7 a8 a9 c1_ hc1), (iv_flat _ _), (vBn (Bool.eq_false_iff.2 hc2)), trivial⟩
theorem m_stylesStyle1q3_ok (n : Nat) (a0 : Int) (a1 : Int) (a2 : Int) (a3 : Bool) (a4 : Int) (a5 : NL) (a6 : Int) (a7 : Int) (a8 : Int) (a9 : List Int) (r : Int × List (NL) × Int × Int × Bool) (h : m_stylesStyle1q3 n a0 a1 a2 a3 a4 a5 a6 a7 a8 a9 = some r) : G_stylesStyle1q3 a0 a1 a2 a3 a4 a5 a6 a7 a8 a9 r := by
  unfold m_stylesStyle1q3 at h
  obtain ⟨c1_, hc1, h⟩ := Option.bind_eq_some_iff.1 h
  by_cases hc2 : c1_ = true
  · rw [if_pos hc2] at h
    by_cases hc3 : a3 = true
    · rw [if_pos hc3] at h
      by_cases hc4 : a7 ≤ a2
      · rw [if_pos hc4] at h
        obtain rfl := Option.some.inj h; exact p_stylesStyle1q3_0 n a0 a1 a2 a3 a4 a5 a6 a7 a8 a9 c1_ hc1 hc2 hc3 hc4
      · rw [if_neg hc4] at h
        obtain rfl := Option.some.inj h; exact p_stylesStyle1q3_1 n a0 a1 a2 a3 a4 a5 a6 a7 a8 a9 c1_ hc1 hc2 hc3 hc4
    · rw [if_neg hc3] at h
      obtain rfl := Option.some.inj h; exact p_stylesStyle1q3_2 n a0 a1 a2 a3 a4 a5 a6 a7 a8 a9 c1_ hc1 hc2 hc3
  · rw [if_neg hc2] at h
    obtain rfl := Option.some.inj h; exact p_stylesStyle1q3_3 n a0 a1 a2 a3 a4 a5 a6 a7 a8 a9 c1_ hc1 hc2

noncomputable def A_foldOverstyleschoice_1010y5 (a0 : Int) (a1 : Int) (a2 : Int) (a3 : Bool) (a4 : Int) (a5 : List Int) (a6 : Int) (a7 : Int) (a8 : Int) (a9 : Bool) (a10 : Int) (a11 : NL) (a12 : Int) (a13 : Int) : List Value := [(Value.agg #[(Value.int .i64 a10), (nlV a11), (Value.int .i64 a12), (Value.int .i64 a13)])]
noncomputable def H_foldOverstyleschoice_1010y5 (a0 : Int) (a1 : Int) (a2 : Int) (a3 : Bool) (a4 : Int) (a5 : List Int) (a6 : Int) (a7 : Int) (a8 : Int) (a9 : Bool) (a10 : Int) (a11 : NL) (a12 : Int) (a13 : Int) : AH := ⟨sB [(0, (some (rblk P 14 [false, true, false, true] .ready none [(4, (Value.pointer (some ⟨2, 0, none⟩))), (5, (Value.pointer (some ⟨3, 0, none⟩))), (6, (Value.pointer (some ⟨7, 0, none⟩))), (8, (Value.func (.func 18) #[] #[(Value.pointer (some ⟨8, 0, none⟩))]))] 1))), (1, (some (.marks true))), (2, (some (.cells (layT [(Value.int .i64 a0), (Value.slice none 0 0), (Value.int .i64 a1), (Value.int .i64 a2), (Value.bool a3)]) 38))), (3, (some (.cells (layT [(Value.func (.func 16) #[] #[(Value.pointer (some ⟨4, 0, none⟩)), (Value.pointer (some ⟨5, 0, none⟩))])]) 43))), (4, (some (.cells (layT [(Value.int .i64 a4)]) 3))), (5, (some (.cells (layT [(Value.slice (some ⟨6, 0, none⟩) (a5).length (Nat.add big 1))]) 23))), (6, (some (.cells (layT (iv a5)) 3))), (7, (some (.cells (layT [(Value.int .i64 a6), (Value.slice none 0 0), (Value.int .i64 a7), (Value.int .i64 a8), (Value.bool a9)]) 38))), (8, (some (.cells (layT [(Value.slice (some ⟨0, 0, some 1⟩) (Args.S).length Args.cS)]) 22)))], 9, 9⟩
noncomputable def V_foldOverstyleschoice_1010y5 (a0 : Int) (a1 : Int) (a2 : Int) (a3 : Bool) (a4 : Int) (a5 : List Int) (a6 : Int) (a7 : Int) (a8 : Int) (a9 : Bool) (a10 : Int) (a11 : NL) (a12 : Int) (a13 : Int) (r : Int × List (NL) × Int × Int × Bool) : Value := match r with
  | (o0, o1, o2, o3, o4) => (Value.bool true)
noncomputable def R_foldOverstyleschoice_1010y5 (a0 : Int) (a1 : Int) (a2 : Int) (a3 : Bool) (a4 : Int) (a5 : List Int) (a6 : Int) (a7 : Int) (a8 : Int) (a9 : Bool) (a10 : Int) (a11 : NL) (a12 : Int) (a13 : Int) (r : Int × List (NL) × Int × Int × Bool) : AH := match r with
  | (o0, o1, o2, o3, o4) => ⟨sB [(0, (some (rblk P 14 [false, true, false, true] .ready none [(4, (Value.pointer (some ⟨2, 0, none⟩))), (5, (Value.pointer (some ⟨3, 0, none⟩))), (6, (Value.pointer (some ⟨7, 0, none⟩))), (8, (Value.func (.func 18) #[] #[(Value.pointer (some ⟨8, 0, none⟩))]))] 1))), (1, (some (.marks true))), (2, (some (.cells (layT [(Value.int .i64 o0), (nlQ o1), (Value.int .i64 o2), (Value.int .i64 o3), (Value.bool o4)]) 38))), (3, (some (.cells (layT [(Value.func (.func 16) #[] #[(Value.pointer (some ⟨4, 0, none⟩)), (Value.pointer (some ⟨5, 0, none⟩))])]) 43))), (4, (some (.cells (layT [(Value.int .i64 a4)]) 3))), (5, (some (.cells (layT [(Value.slice (some ⟨6, 0, none⟩) (a5).length (Nat.add big 1))]) 23))), (6, (some (.cells (layT (iv a5)) 3))), (7, (some (.cells (layT [(Value.int .i64 a6), (Value.slice none 0 0), (Value.int .i64 a7), (Value.int .i64 a8), (Value.bool a9)]) 38))), (8, (some (.cells (layT [(Value.slice (some ⟨0, 0, some 1⟩) (Args.S).length Args.cS)]) 22)))], 9, 0⟩
def m_foldOverstyleschoice_1010y5 (n : Nat) (a0 : Int) (a1 : Int) (a2 : Int) (a3 : Bool) (a4 : Int) (a5 : List Int) (a6 : Int) (a7 : Int) (a8 : Int) (a9 : Bool) (a10 : Int) (a11 : NL) (a12 : Int) (a13 : Int) : Option (Int × List (NL) × Int × Int × Bool) :=
  (m_stylesStyle1q3 n a0 a1 a2 a3 a10 a11 a12 a13 a4 a5).bind fun t => match t with
  | (c1_0, c1_1, c1_2, c1_3, c1_4) =>
    match c1_1 with
    | [] =>
      some (c1_0, ([] : List (NL)), c1_2, c1_3, c1_4)
    | c1_1a :: c1_1t =>
      some (c1_0, [c1_1a], c1_2, c1_3, c1_4)
set_option maxRecDepth 100000 in
theorem p_foldOverstyleschoice_1010y5_0 (n : Nat) (a0 : Int) (a1 : Int) (a2 : Int) (a3 : Bool) (a4 : Int) (a5 : List Int) (a6 : Int) (a7 : Int) (a8 : Int) (a9 : Bool) (a10 : Int) (a11 : NL) (a12 : Int) (a13 : Int) (c1_0 : Int) (c1_2 : Int) (c1_3 : Int) (c1_4 : Bool) (hc1 : m_stylesStyle1q3 n a0 a1 a2 a3 a10 a11 a12 a13 a4 a5 = some (c1_0, [], c1_2, c1_3, c1_4)) : Gv P (.yield 0) (A_foldOverstyleschoice_1010y5 a0 a1 a2 a3 a4 a5 a6 a7 a8 a9 a10 a11 a12 a13) (H_foldOverstyleschoice_1010y5 a0 a1 a2 a3 a4 a5 a6 a7 a8 a9 a10 a11 a12 a13) (V_foldOverstyleschoice_1010y5 a0 a1 a2 a3 a4 a5 a6 a7 a8 a9 a10 a11 a12 a13 (c1_0, ([] : List (NL)), c1_2, c1_3, c1_4)) (R_foldOverstyleschoice_1010y5 a0 a1 a2 a3 a4 a5 a6 a7 a8 a9 a10 a11 a12 a13 (c1_0, ([] : List (NL)), c1_2, c1_3, c1_4)) :=
  runY_ok hm (A1 := aT []) (L1 := lT []) (A2 := aT [(4, .call ⟨3, [(0, 4, false), (1, 5, false), (2, 6, true)], (V_stylesStyle1q3 a0 a1 a2 a3 a10 a11 a12 a13 a4 a5 (c1_0, ([] : List (NL)), c1_2, c1_3, c1_4)), (R_stylesStyle1q3 a0 a1 a2 a3 a10 a11 a12 a13 a4 a5 (c1_0, ([] : List (NL)), c1_2, c1_3, c1_4)), [(10, 3, false)]⟩)]) (L2 := lT []) (wk := ⟨[], [(0, 0, false), (1, 1, false), (2, 2, false), (3, 3, false), (4, 4, false), (5, 5, false), (6, 6, true), (7, 7, false), (8, 8, false)], 9, 0⟩)
    (ps := [G_stylesStyle1q3 a0 a1 a2 a3 a10 a11 a12 a13 a4 a5 (c1_0, ([] : List (NL)), c1_2, c1_3, c1_4),
    FlatB (.cells (layT (iv a5)) 3),
    FlatB (.cells (layT (iv a5)) 3)]) (by kernel_rfl) ⟨(m_stylesStyle1q3_ok n a0 a1 a2 a3 a10 a11 a12 a13 a4 a5 (c1_0, ([] : List (NL)), c1_2, c1_3, c1_4) hc1), (iv_flat _ _), (iv_flat _ _), trivial⟩
set_option maxRecDepth 100000 in
theorem p_foldOverstyleschoice_1010y5_1 (n : Nat) (a0 : Int) (a1 : Int) (a2 : Int) (a3 : Bool) (a4 : Int) (a5 : List Int) (a6 : Int) (a7 : Int) (a8 : Int) (a9 : Bool) (a10 : Int) (a11 : NL) (a12 : Int) (a13 : Int) (c1_0 : Int) (c1_1a : NL) (c1_1t : List (NL)) (c1_2 : Int) (c1_3 : Int) (c1_4 : Bool) (hc1 : m_stylesStyle1q3 n a0 a1 a2 a3 a10 a11 a12 a13 a4 a5 = some (c1_0, (c1_1a :: c1_1t), c1_2, c1_3, c1_4)) : Gv P (.yield 0) (A_foldOverstyleschoice_1010y5 a0 a1 a2 a3 a4 a5 a6 a7 a8 a9 a10 a11 a12 a13) (H_foldOverstyleschoice_1010y5 a0 a1 a2 a3 a4 a5 a6 a7 a8 a9 a10 a11 a12 a13) (V_foldOverstyleschoice_1010y5 a0 a1 a2 a3 a4 a5 a6 a7 a8 a9 a10 a11 a12 a13 (c1_0, [c1_1a], c1_2, c1_3, c1_4)) (R_foldOverstyleschoice_1010y5 a0 a1 a2 a3 a4 a5 a6 a7 a8 a9 a10 a11 a12 a13 (c1_0, [c1_1a], c1_2, c1_3, c1_4)) :=
  runY_ok hm (A1 := aT []) (L1 := lT []) (A2 := aT [(4, .call ⟨3, [(0, 4, false), (1, 5, false), (2, 6, true)], (V_stylesStyle1q3 a0 a1 a2 a3 a10 a11 a12 a13 a4 a5 (c1_0, (c1_1a :: c1_1t), c1_2, c1_3, c1_4)), (R_stylesStyle1q3 a0 a1 a2 a3 a10 a11 a12 a13 a4 a5 (c1_0, (c1_1a :: c1_1t), c1_2, c1_3, c1_4)), [(10, 3, false)]⟩)]) (L2 := lT []) (wk := ⟨[], [(0, 0, false), (1, 1, false), (2, 2, false), (3, 3, false), (4, 4, false), (5, 5, false), (6, 6, true), (7, 7, false), (8, 8, false)], 9, 0⟩)
    (ps := [G_stylesStyle1q3 a0 a1 a2 a3 a10 a11 a12 a13 a4 a5 (c1_0, (c1_1a :: c1_1t), c1_2, c1_3, c1_4),
    FlatB (.cells (layT (iv a5)) 3),
    FlatB (.cells (layT (iv a5)) 3)]) (by kernel_rfl) ⟨(m_stylesStyle1q3_ok n a0 a1 a2 a3 a10 a11 a12 a13 a4 a5 (c1_0, (c1_1a :: c1_1t), c1_2, c1_3, c1_4) hc1), (iv_flat _ _), (iv_flat _ _), trivial⟩
theorem m_foldOverstyleschoice_1010y5_ok (n : Nat) (a0 : Int) (a1 : Int) (a2 : Int) (a3 : Bool) (a4 : Int) (a5 : List Int) (a6 : Int) (a7 : Int) (a8 : Int) (a9 : Bool) (a10 : Int) (a11 : NL) (a12 : Int) (a13 : Int) (r : Int × List (NL) × Int × Int × Bool) (h : m_foldOverstyleschoice_1010y5 n a0 a1 a2 a3 a4 a5 a6 a7 a8 a9 a10 a11 a12 a13 = some r) : Gv P (.yield 0) (A_foldOverstyleschoice_1010y5 a0 a1 a2 a3 a4 a5 a6 a7 a8 a9 a10 a11 a12 a13) (H_foldOverstyleschoice_1010y5 a0 a1 a2 a3 a4 a5 a6 a7 a8 a9 a10 a11 a12 a13) (V_foldOverstyleschoice_1010y5 a0 a1 a2 a3 a4 a5 a6 a7 a8 a9 a10 a11 a12 a13 r) (R_foldOverstyleschoice_1010y5 a0 a1 a2 a3 a4 a5 a6 a7 a8 a9 a10 a11 a12 a13 r) := by
  unfold m_foldOverstyleschoice_1010y5 at h
  obtain ⟨⟨c1_0, c1_1, c1_2, c1_3, c1_4⟩, hc1, h⟩ := Option.bind_eq_some_iff.1 h
  dsimp only at h
  cases c1_1 with
  | nil =>
    dsimp only at h
    obtain rfl := Option.some.inj h; exact p_foldOverstyleschoice_1010y5_0 n a0 a1 a2 a3 a4 a5 a6 a7 a8 a9 a10 a11 a12 a13 c1_0 c1_2 c1_3 c1_4 hc1
  | cons c1_1a c1_1t =>
    dsimp only at h
    obtain rfl := Option.some.inj h; exact p_foldOverstyleschoice_1010y5_1 n a0 a1 a2 a3 a4 a5 a6 a7 a8 a9 a10 a11 a12 a13 c1_0 c1_1a c1_1t c1_2 c1_3 c1_4 hc1

noncomputable def A_stylesStyle1q4 (a0 : Int) (a1 : NL) (a2 : Int) (a3 : Int) (a4 : Bool) (a5 : Int) (a6 : NL) (a7 : Int) (a8 : Int) (a9 : Int) (a10 : List Int) : List Value := [(Value.agg #[(Value.int .i64 a0), (nlV a1), (Value.int .i64 a2), (Value.int .i64 a3), (Value.bool a4)]), (Value.agg #[(Value.int .i64 a5), (nlV a6), (Value.int .i64 a7), (Value.int .i64 a8)]), (Value.pointer (some ⟨0, 0, none⟩)), (Value.pointer (some ⟨1, 0, none⟩))]
noncomputable def H_stylesStyle1q4 (a0 : Int) (a1 : NL) (a2 : Int) (a3 : Int) (a4 : Bool) (a5 : Int) (a6 : NL) (a7 : Int) (a8 : Int) (a9 : Int) (a10 : List Int) : AH := ⟨sB [(0, (some (.cells (layT [(Value.int .i64 a9)]) 3))), (1, (some (.cells (layT [(Value.slice (some ⟨2, 0, none⟩) (a10).length (Nat.add big 1))]) 23))), (2, (some (.cells (layT (iv a10)) 3)))], 3, 3⟩
noncomputable def V_stylesStyle1q4 (a0 : Int) (a1 : NL) (a2 : Int) (a3 : Int) (a4 : Bool) (a5 : Int) (a6 : NL) (a7 : Int) (a8 : Int) (a9 : Int) (a10 : List Int) (r : Int × NL × Int × Int × Bool) : Value := match r with
  | (o0, o1, o2, o3, o4) => (Value.agg #[(Value.int .i64 o0), (nlV o1), (Value.int .i64 o2), (Value.int .i64 o3), (Value.bool o4)])
noncomputable def R_stylesStyle1q4 (a0 : Int) (a1 : NL) (a2 : Int) (a3 : Int) (a4 : Bool) (a5 : Int) (a6 : NL) (a7 : Int) (a8 : Int) (a9 : Int) (a10 : List Int) (r : Int × NL × Int × Int × Bool) : AH := match r with
  | (o0, o1, o2, o3, o4) => ⟨sB [(3, (some (.cells (layT [(Value.int .i64 o0), (nlV o1), (Value.int .i64 o2), (Value.int .i64 o3), (Value.bool o4)]) 38)))], 4, 3⟩
noncomputable abbrev G_stylesStyle1q4 (a0 : Int) (a1 : NL) (a2 : Int) (a3 : Int) (a4 : Bool) (a5 : Int) (a6 : NL) (a7 : Int) (a8 : Int) (a9 : Int) (a10 : List Int) (r : Int × NL × Int × Int × Bool) : Prop := Gv P (.func 16) (A_stylesStyle1q4 a0 a1 a2 a3 a4 a5 a6 a7 a8 a9 a10) (H_stylesStyle1q4 a0 a1 a2 a3 a4 a5 a6 a7 a8 a9 a10) (V_stylesStyle1q4 a0 a1 a2 a3 a4 a5 a6 a7 a8 a9 a10 r) (R_stylesStyle1q4 a0 a1 a2 a3 a4 a5 a6 a7 a8 a9 a10 r)
def m_stylesStyle1q4 (n : Nat) (a0 : Int) (a1 : NL) (a2 : Int) (a3 : Int) (a4 : Bool) (a5 : Int) (a6 : NL) (a7 : Int) (a8 : Int) (a9 : Int) (a10 : List Int) : Option (Int × NL × Int × Int × Bool) :=
  (m_stylesMatchesq2 n a5 a6 a7 a8 a9 a10).bind fun c1_ =>
  if c1_ = true then
    if a4 = true then
      if a8 ≤ a3 then
        some (a0, a1, a2, a3, a4)
      else
        some (a5, a6, a7, a8, true)
    else
      some (a5, a6, a7, a8, true)
  else
    some (a0, a1, a2, a3, a4)
set_option maxRecDepth 100000 in
theorem p_stylesStyle1q4_0 (n : Nat) (a0 : Int) (a1 : NL) (a2 : Int) (a3 : Int) (a4 : Bool) (a5 : Int) (a6 : NL) (a7 : Int) (a8 : Int) (a9 : Int) (a10 : List Int) (c1_ : Bool) (hc1 : m_stylesMatchesq2 n a5 a6 a7 a8 a9 a10 = some c1_) (hc2 : c1_ = true) (hc3 : a4 = true) (hc4 : a8 ≤ a3) : G_stylesStyle1q4 a0 a1 a2 a3 a4 a5 a6 a7 a8 a9 a10 (a0, a1, a2, a3, a4) :=
  runF_ok hm (A := aT [(9, .call ⟨1, [(0, 2, true)], (V_stylesMatchesq2 a5 a6 a7 a8 a9 a10 c1_), (R_stylesMatchesq2 a5 a6 a7 a8 a9 a10 c1_), []⟩), (10, .val (.bool false)), (14, .val (.bool true)), (20, .val (.bool true))]) (L := lT []) (wk := ⟨[6], [(3, 5, false)], 4, 3⟩)
    (ps := [G_stylesMatchesq2 a5 a6 a7 a8 a9 a10 c1_,
    FlatB (.cells (layT (iv a10)) 3),
    (Value.bool (!c1_)) = (Value.bool false),
    (Value.bool a4) = (Value.bool true),
    (Value.bool (decide (a8 ≤ a3))) = (Value.bool true)]) (by kernel_rfl) ⟨(m_stylesMatchesq2_ok n a5 a6 a7 a8 a9 a10 c1_ hc1), (iv_flat _ _), (vBn hc2), (vB hc3), (vbT hc4), trivial⟩
set_option maxRecDepth 100000 in
theorem p_stylesStyle1q4_1 (n : Nat) (a0 : Int) (a1 : NL) (a2 : Int) (a3 : Int) (a4 : Bool) (a5 : Int) (a6 : NL) (a7 : Int) (a8 : Int) (a9 : Int) (a10 : List Int) (c1_ : Bool) (hc1 : m_stylesMatchesq2 n a5 a6 a7 a8 a9 a10 = some c1_) (hc2 : c1_ = true) (hc3 : a4 = true) (hc4 : ¬ (a8 ≤ a3)) : G_stylesStyle1q4 a0 a1 a2 a3 a4 a5 a6 a7 a8 a9 a10 (a5, a6, a7, a8, true) :=
  runF_ok hm (A := aT [(9, .call ⟨1, [(0, 2, true)], (V_stylesMatchesq2 a5 a6 a7 a8 a9 a10 c1_), (R_stylesMatchesq2 a5 a6 a7 a8 a9 a10 c1_), []⟩), (10, .val (.bool false)), (14, .val (.bool true)), (20, .val (.bool false))]) (L := lT []) (wk := ⟨[6], [(3, 5, false)], 4, 3⟩)
    (ps := [G_stylesMatchesq2 a5 a6 a7 a8 a9 a10 c1_,
    FlatB (.cells (layT (iv a10)) 3),
    (Value.bool (!c1_)) = (Value.bool false),
    (Value.bool a4) = (Value.bool true),
    (Value.bool (decide (a8 ≤ a3))) = (Value.bool false)]) (by kernel_rfl) ⟨(m_stylesMatchesq2_ok n a5 a6 a7 a8 a9 a10 c1_ hc1), (iv_flat _ _), (vBn hc2), (vB hc3), (vbF hc4), trivial⟩
set_option maxRecDepth 100000 in
theorem p_stylesStyle1q4_2 (n : Nat) (a0 : Int) (a1 : NL) (a2 : Int) (a3 : Int) (a4 : Bool) (a5 : Int) (a6 : NL) (a7 : Int) (a8 : Int) (a9 : Int) (a10 : List Int) (c1_ : Bool) (hc1 : m_stylesMatchesq2 n a5 a6 a7 a8 a9 a10 = some c1_) (hc2 : c1_ = true) (hc3 : ¬ (a4 = true)) : G_stylesStyle1q4 a0 a1 a2 a3 a4 a5 a6 a7 a8 a9 a10 (a5, a6, a7, a8, true) :=
  runF_ok hm (A := aT [(9, .call ⟨1, [(0, 2, true)], (V_stylesMatchesq2 a5 a6 a7 a8 a9 a10 c1_), (R_stylesMatchesq2 a5 a6 a7 a8 a9 a10 c1_), []⟩), (10, .val (.bool false)), (14, .val (.bool false))]) (L := lT []) (wk := ⟨[6], [(3, 5, false)], 4, 3⟩)
    (ps := [G_stylesMatchesq2 a5 a6 a7 a8 a9 a10 c1_,
    FlatB (.cells (layT (iv a10)) 3),
    (Value.bool (!c1_)) = (Value.bool false),
    (Value.bool a4) = (Value.bool false)]) (by kernel_rfl) ⟨(m_stylesMatchesq2_ok n a5 a6 a7 a8 a9 a10 c1_ hc1), (iv_flat _ _), (vBn hc2), (vB (Bool.eq_false_iff.2 hc3)), trivial⟩
set_option maxRecDepth 100000 in
theorem p_stylesStyle1q4_3 (n : Nat) (a0 : Int) (a1 : NL) (a2 : Int) (a3 : Int) (a4 : Bool) (a5 : Int) (a6 : NL) (a7 : Int) (a8 : Int) (a9 : Int) (a10 : List Int) (c1_ : Bool) (hc1 : m_stylesMatchesq2 n a5 a6 a7 a8 a9 a10 = some c1_) (hc2 : ¬ (c1_ = true)) : G_stylesStyle1q4 a0 a1 a2 a3 a4 a5 a6 a7 a8 a9 a10 (a0, a1, a2, a3, a4) :=
  runF_ok hm (A := aT [(9, .call ⟨1, [(0, 2, true)], (V_stylesMatchesq2 a5 a6 a7 a8 a9 a10 c1_), (R_stylesMatchesq2 a5 a6 a7 a8 a9 a10 c1_), []⟩), (10, .val (.bool true))]) (L := lT []) (wk := ⟨[6], [(3, 5, false)], 4, 3⟩)
    (ps := [G_stylesMatchesq2 a5 a6 a7 a8 a9 a10 c1_,
    FlatB (.cells (layT (iv a10)) 3),
    (Value.bool (!c1_)) = (Value.bool true)]) (by kernel_rfl) ⟨(m_stylesMatchesq2_ok n a5 a6 a7 a8 a9 a10 c1_ hc1), (iv_flat _ _), (vBn (Bool.eq_false_iff.2 hc2)), trivial⟩
theorem m_stylesStyle1q4_ok (n : Nat) (a0 : Int) (a1 : NL) (a2 : Int) (a3 : Int) (a4 : Bool) (a5 : Int) (a6 : NL) (a7 : Int) (a8 : Int) (a9 : Int) (a10 : List Int) (r : Int × NL × Int × Int × Bool) (h : m_stylesStyle1q4 n a0 a1 a2 a3 a4 a5 a6 a7 a8 a9 a10 = some r) : G_stylesStyle1q4 a0 a1 a2 a3 a4 a5 a6 a7 a8 a9 a10 r := by
  unfold m_stylesStyle1q4 at h
  obtain ⟨c1_, hc1, h⟩ := Option.bind_eq_some_iff.1 h
  by_cases hc2 : c1_ = true
  · rw [if_pos hc2] at h
    by_cases hc3 : a4 = true
    · rw [if_pos hc3] at h
      by_cases hc4 : a8 ≤ a3
      · rw [if_pos hc4] at h
        obtain rfl := Option.some.inj h; exact p_stylesStyle1q4_0 n a0 a1 a2 a3 a4 a5 a6 a7 a8 a9 a10 c1_ hc1 hc2 hc3 hc4
      · rw [if_neg hc4] at h
        obtain rfl := Option.some.inj h; exact p_stylesStyle1q4_1 n a0 a1 a2 a3 a4 a5 a6 a7 a8 a9 a10 c1_ hc1 hc2 hc3 hc4
    · rw [if_neg hc3] at h
      obtain rfl := Option.some.inj h; exact p_stylesStyle1q4_2 n a0 a1 a2 a3 a4 a5 a6 a7 a8 a9 a10 c1_ hc1 hc2 hc3
  · rw [if_neg hc2] at h
    obtain rfl := Option.some.inj h; exact p_stylesStyle1q4_3 n a0 a1 a2 a3 a4 a5 a6 a7 a8 a9 a10 c1_ hc1 hc2

noncomputable def A_foldOverstyleschoice_1010y6 (a0 : Int) (a1 : NL) (a2 : Int) (a3 : Int) (a4 : Bool) (a5 : Int) (a6 : List Int) (a7 : Int) (a8 : Int) (a9 : Int) (a10 : Bool) (a11 : Int) (a12 : NL) (a13 : Int) (a14 : Int) : List Value := [(Value.agg #[(Value.int .i64 a11), (nlV a12), (Value.int .i64 a13), (Value.int .i64 a14)])]
noncomputable def H_foldOverstyleschoice_1010y6 (a0 : Int) (a1 : NL) (a2 : Int) (a3 : Int) (a4 : Bool) (a5 : Int) (a6 : List Int) (a7 : Int) (a8 : Int) (a9 : Int) (a10 : Bool) (a11 : Int) (a12 : NL) (a13 : Int) (a14 : Int) : AH := ⟨sB [(0, (some (rblk P 14 [false, true, false, true] .ready none [(4, (Value.pointer (some ⟨2, 0, none⟩))), (5, (Value.pointer (some ⟨3, 0, none⟩))), (6, (Value.pointer (some ⟨7, 0, none⟩))), (8, (Value.func (.func 18) #[] #[(Value.pointer (some ⟨8, 0, none⟩))]))] 1))), (1, (some (.marks true))), (2, (some (.cells (layT [(Value.int .i64 a0), (nlV a1), (Value.int .i64 a2), (Value.int .i64 a3), (Value.bool a4)]) 38))), (3, (some (.cells (layT [(Value.func (.func 16) #[] #[(Value.pointer (some ⟨4, 0, none⟩)), (Value.pointer (some ⟨5, 0, none⟩))])]) 43))), (4, (some (.cells (layT [(Value.int .i64 a5)]) 3))), (5, (some (.cells (layT [(Value.slice (some ⟨6, 0, none⟩) (a6).length (Nat.add big 1))]) 23))), (6, (some (.cells (layT (iv a6)) 3))), (7, (some (.cells (layT [(Value.int .i64 a7), (Value.slice none 0 0), (Value.int .i64 a8), (Value.int .i64 a9), (Value.bool a10)]) 38))), (8, (some (.cells (layT [(Value.slice (some ⟨0, 0, some 1⟩) (Args.S).length Args.cS)]) 22)))], 9, 9⟩
noncomputable def V_foldOverstyleschoice_1010y6 (a0 : Int) (a1 : NL) (a2 : Int) (a3 : Int) (a4 : Bool) (a5 : Int) (a6 : List Int) (a7 : Int) (a8 : Int) (a9 : Int) (a10 : Bool) (a11 : Int) (a12 : NL) (a13 : Int) (a14 : Int) (r : Int × NL × Int × Int × Bool) : Value := match r with
  | (o0, o1, o2, o3, o4) => (Value.bool true)
noncomputable def R_foldOverstyleschoice_1010y6 (a0 : Int) (a1 : NL) (a2 : Int) (a3 : Int) (a4 : Bool) (a5 : Int) (a6 : List Int) (a7 : Int) (a8 : Int) (a9 : Int) (a10 : Bool) (a11 : Int) (a12 : NL) (a13 : Int) (a14 : Int) (r : Int × NL × Int × Int × Bool) : AH := match r with
  | (o0, o1, o2, o3, o4) => ⟨sB [(0, (some (rblk P 14 [false, true, false, true] .ready none [(4, (Value.pointer (some ⟨2, 0, none⟩))), (5, (Value.pointer (some ⟨3, 0, none⟩))), (6, (Value.pointer (some ⟨7, 0, none⟩))), (8, (Value.func (.func 18) #[] #[(Value.pointer (some ⟨8, 0, none⟩))]))] 1))), (1, (some (.marks true))), (2, (some (.cells (layT [(Value.int .i64 o0), (nlV o1), (Value.int .i64 o2), (Value.int .i64 o3), (Value.bool o4)]) 38))), (3, (some (.cells (layT [(Value.func (.func 16) #[] #[(Value.pointer (some ⟨4, 0, none⟩)), (Value.pointer (some ⟨5, 0, none⟩))])]) 43))), (4, (some (.cells (layT [(Value.int .i64 a5)]) 3))), (5, (some (.cells (layT [(Value.slice (some ⟨6, 0, none⟩) (a6).length (Nat.add big 1))]) 23))), (6, (some (.cells (layT (iv a6)) 3))), (7, (some (.cells (layT [(Value.int .i64 a7), (Value.slice none 0 0), (Value.int .i64 a8), (Value.int .i64 a9), (Value.bool a10)]) 38))), (8, (some (.cells (layT [(Value.slice (some ⟨0, 0, some 1⟩) (Args.S).length Args.cS)]) 22)))], 9, 0⟩
def m_foldOverstyleschoice_1010y6 (n : Nat) (a0 : Int) (a1 : NL) (a2 : Int) (a3 : Int) (a4 : Bool) (a5 : Int) (a6 : List Int) (a7 : Int) (a8 : Int) (a9 : Int) (a10 : Bool) (a11 : Int) (a12 : NL) (a13 : Int) (a14 : Int) : Option (Int × NL × Int × Int × Bool) :=
  (m_stylesStyle1q4 n a0 a1 a2 a3 a4 a11 a12 a13 a14 a5 a6).bind fun t => match t with
  | (c1_0, c1_1, c1_2, c1_3, c1_4) =>
    some (c1_0, c1_1, c1_2, c1_3, c1_4)
set_option maxRecDepth 100000 in
theorem p_foldOverstyleschoice_1010y6_0 (n : Nat) (a0 : Int) (a1 : NL) (a2 : Int) (a3 : Int) (a4 : Bool) (a5 : Int) (a6 : List Int) (a7 : Int) (a8 : Int) (a9 : Int) (a10 : Bool) (a11 : Int) (a12 : NL) (a13 : Int) (a14 : Int) (c1_0 : Int) (c1_1 : NL) (c1_2 : Int) (c1_3 : Int) (c1_4 : Bool) (hc1 : m_stylesStyle1q4 n a0 a1 a2 a3 a4 a11 a12 a13 a14 a5 a6 = some (c1_0, c1_1, c1_2, c1_3, c1_4)) : Gv P (.yield 0) (A_foldOverstyleschoice_1010y6 a0 a1 a2 a3 a4 a5 a6 a7 a8 a9 a10 a11 a12 a13 a14) (H_foldOverstyleschoice_1010y6 a0 a1 a2 a3 a4 a5 a6 a7 a8 a9 a10 a11 a12 a13 a14) (V_foldOverstyleschoice_1010y6 a0 a1 a2 a3 a4 a5 a6 a7 a8 a9 a10 a11 a12 a13 a14 (c1_0, c1_1, c1_2, c1_3, c1_4)) (R_foldOverstyleschoice_1010y6 a0 a1 a2 a3 a4 a5 a6 a7 a8 a9 a10 a11 a12 a13 a14 (c1_0, c1_1, c1_2, c1_3, c1_4)) :=
  runY_ok hm (A1 := aT []) (L1 := lT []) (A2 := aT [(4, .call ⟨3, [(0, 4, false), (1, 5, false), (2, 6, true)], (V_stylesStyle1q4 a0 a1 a2 a3 a4 a11 a12 a13 a14 a5 a6 (c1_0, c1_1, c1_2, c1_3, c1_4)), (R_stylesStyle1q4 a0 a1 a2 a3 a4 a11 a12 a13 a14 a5 a6 (c1_0, c1_1, c1_2, c1_3, c1_4)), [(10, 3, false)]⟩)]) (L2 := lT []) (wk := ⟨[], [(0, 0, false), (1, 1, false), (2, 2, false), (3, 3, false), (4, 4, false), (5, 5, false), (6, 6, true), (7, 7, false), (8, 8, false)], 9, 0⟩)
    (ps := [G_stylesStyle1q4 a0 a1 a2 a3 a4 a11 a12 a13 a14 a5 a6 (c1_0, c1_1, c1_2, c1_3, c1_4),
    FlatB (.cells (layT (iv a6)) 3),
    FlatB (.cells (layT (iv a6)) 3)]) (by kernel_rfl) ⟨(m_stylesStyle1q4_ok n a0 a1 a2 a3 a4 a11 a12 a13 a14 a5 a6 (c1_0, c1_1, c1_2, c1_3, c1_4) hc1), (iv_flat _ _), (iv_flat _ _), trivial⟩
theorem m_foldOverstyleschoice_1010y6_ok (n : Nat) (a0 : Int) (a1 : NL) (a2 : Int) (a3 : Int) (a4 : Bool) (a5 : Int) (a6 : List Int) (a7 : Int) (a8 : Int) (a9 : Int) (a10 : Bool) (a11 : Int) (a12 : NL) (a13 : Int) (a14 : Int) (r : Int × NL × Int × Int × Bool) (h : m_foldOverstyleschoice_1010y6 n a0 a1 a2 a3 a4 a5 a6 a7 a8 a9 a10 a11 a12 a13 a14 = some r) : Gv P (.yield 0) (A_foldOverstyleschoice_1010y6 a0 a1 a2 a3 a4 a5 a6 a7 a8 a9 a10 a11 a12 a13 a14) (H_foldOverstyleschoice_1010y6 a0 a1 a2 a3 a4 a5 a6 a7 a8 a9 a10 a11 a12 a13 a14) (V_foldOverstyleschoice_1010y6 a0 a1 a2 a3 a4 a5 a6 a7 a8 a9 a10 a11 a12 a13 a14 r) (R_foldOverstyleschoice_1010y6 a0 a1 a2 a3 a4 a5 a6 a7 a8 a9 a10 a11 a12 a13 a14 r) := by
  unfold m_foldOverstyleschoice_1010y6 at h
  obtain ⟨⟨c1_0, c1_1, c1_2, c1_3, c1_4⟩, hc1, h⟩ := Option.bind_eq_some_iff.1 h
  dsimp only at h
  obtain rfl := Option.some.inj h; exact p_foldOverstyleschoice_1010y6_0 n a0 a1 a2 a3 a4 a5 a6 a7 a8 a9 a10 a11 a12 a13 a14 c1_0 c1_1 c1_2 c1_3 c1_4 hc1


end Go.Proofs.Ytliifcfgcfenkaa.styow
