/-
  The walk of viewportlaw10.ShiftMeets where the edit may be. Own work.
-/
import Derived.Test.YtlondbckhlfibaaShiftMeetsWalk
import Derived.IntWalk
import Derived.Deep.QuietTactic
import Derived.BigQuiet
set_option linter.unusedSimpArgs false
set_option linter.unusedVariables false
namespace Go.Proofs.Ytlondbckhlfibaa
open Go.RowKit

theorem two32_held {w W : World} {x y z a b : Int} (h : St w W (two32 x y z a b)) : St w W (two32 x y z a b) ∧ W.cell? ⟨w.heap.size, 0, none⟩ = some (.int .i64 x) ∧ W.cell? ⟨w.heap.size, 1, none⟩ = some (.int .i64 y) ∧ W.cell? ⟨w.heap.size, 2, none⟩ = some (.int .i64 z) ∧ W.cell? ⟨w.heap.size + 1, 0, none⟩ = some (.int .i64 a) ∧ W.cell? ⟨w.heap.size + 1, 1, none⟩ = some (.int .i64 b) := by
  have hT := h
  simp only [St, Cells, Nat.add_zero] at hT
  obtain ⟨h0, ⟨c0, f0, k0⟩, ⟨c1, f1, k1⟩, ⟨c2, f2, k2⟩, ⟨c3, f3, k3⟩, ⟨c4, f4, k4⟩, -⟩ := hT
  exact ⟨h, c0, c1, c2, c3, c4⟩
theorem two32_of {w W : World} {x y z a b : Int} (h : St w W (two32 x y z a b) ∧ W.cell? ⟨w.heap.size, 0, none⟩ = some (.int .i64 x) ∧ W.cell? ⟨w.heap.size, 1, none⟩ = some (.int .i64 y) ∧ W.cell? ⟨w.heap.size, 2, none⟩ = some (.int .i64 z) ∧ W.cell? ⟨w.heap.size + 1, 0, none⟩ = some (.int .i64 a) ∧ W.cell? ⟨w.heap.size + 1, 1, none⟩ = some (.int .i64 b)) : St w W (two32 x y z a b) := h.1

def btwB (z x k p q : Int) : Bool := decide (0 < z) && (x == k) && decide (p < k) && decide (k < q)

set_option maxHeartbeats 8000000 in
set_option maxRecDepth 100000 in
theorem meets_good (x y z n a b by_ cut : Int) (w : World) (hc : checkI x y z n = 0) (wb : (Lit.int .i64 by_).wf = true) :
    Calls Try.prog 6 #[.agg #[.int .i64 x, .int .i64 y, .int .i64 z], .int .i64 n, .agg #[.int .i64 a, .int .i64 b], .int .i64 by_, .int .i64 cut] w fun e w' => e = .returned (.bool true) ∧ Below w.heap.size w w' := by
  have hne : (checkI x y z n != 0) = false := by simp [hc]
  obtain ⟨⟨a1, a2, a3, a4, a5, a6, a7⟩, a8⟩ := check_zero hc
  have HC := hid hc
  clear hc
  go_enter Try.func6, Try.ntmps6
  go_wp2_with fail
  refine (lives_st w _ (two32 x y z a b) (two32_init _ _ _ _ _ _ _ _)).mono ?_
  rintro e w1 ⟨rfl, hS⟩
  have hT := hS
  simp only [St, Cells, Nat.add_zero] at hT
  obtain ⟨h0, ⟨c0, f0, k0⟩, ⟨c1, f1, k1⟩, ⟨c2, f2, k2⟩, ⟨c3, f3, k3⟩, ⟨c4, f4, k4⟩, -⟩ := hT
  go_wp2_with fail
  refine (check_st _ _ _ _ w _ (two32 x y z a b) hS).mono ?_
  rintro e w2 ⟨rfl, hS2⟩
  clear hS h0 c0 f0 k0 c1 f1 k1 c2 f2 k2 c3 f3 k3 c4 f4 k4
  go_upto_region 5 with fail
  go_cut [] (fun wx => ∃ p q : Int, 0 ≤ p ∧ p ≤ n ∧ 0 ≤ q ∧ q ≤ n ∧ St w wx (two32 x y z p q))
  case first =>
    have ha1 := Int.emod_nonneg a (show n + 1 ≠ 0 by omega)
    have ha2 := Int.emod_lt_of_pos a (show 0 < n + 1 by omega)
    have hb1 := Int.emod_nonneg b (show n + 1 ≠ 0 by omega)
    have hb2 := Int.emod_lt_of_pos b (show 0 < n + 1 by omega)
    have kw : IntKind.i64.wrap (n + 1) = n + 1 := IntWalk.i64_in _ (by omega)
    have hT := hS2
    simp only [St, Cells, Nat.add_zero] at hT
    obtain ⟨h0, ⟨c0, f0, k0⟩, ⟨c1, f1, k1⟩, ⟨c2, f2, k2⟩, ⟨c3, f3, k3⟩, ⟨c4, f4, k4⟩, -⟩ := hT
    go_region_with (go_at_call 24; refine (pick_any _ _ (by omega) (by omega) _).mono ?_; rintro e w' ⟨rfl, rfl⟩)
    all_goals (go_wp2_with fail; go_meet)
    all_goals exact ⟨_, _, ha1, by omega, hb1, by omega, two32_set hS2.drew _ _⟩
  case rest =>
    clear hS2
    obtain ⟨p, q, p1, p2, q1, q2, hS⟩ := hcut
    have hT := hS
    simp only [St, Cells, Nat.add_zero] at hT
    obtain ⟨h0, ⟨c0, f0, k0⟩, ⟨c1, f1, k1⟩, ⟨c2, f2, k2⟩, ⟨c3, f3, k3⟩, ⟨c4, f4, k4⟩, -⟩ := hT
    go_upto_if 38 with fail
    go_cut [] (fun wx => ∃ p q : Int, 0 ≤ p ∧ p ≤ q ∧ q ≤ n ∧ St w wx (two32 x y z p q))
    case first =>
      go_wp2
      all_goals go_meet
      · exact ⟨_, _, q1, by omega, p2, two32_set hS _ _⟩
      · exact ⟨_, _, p1, by omega, q2, hS⟩
    case rest =>
      clear p1 p2 q1 q2 hS h0 c0 f0 k0 c1 f1 k1 c2 f2 k2 c3 f3 k3 c4 f4 k4
      obtain ⟨p, q, p1, p2, p3, hS⟩ := hcut
      have hT := hS
      simp only [St, Cells, Nat.add_zero] at hT
      obtain ⟨h0, ⟨c0, f0, k0⟩, ⟨c1, f1, k1⟩, ⟨c2, f2, k2⟩, ⟨c3, f3, k3⟩, ⟨c4, f4, k4⟩, -⟩ := hT
      go_upto_region 9 with (go_at_call 24; refine (pick_any _ _ (by omega) (by omega) _).mono ?_; rintro e w' ⟨rfl, rfl⟩)
      have r1 := Int.emod_nonneg by_ (show (1000 : Int) ≠ 0 by omega)
      have r2 := Int.emod_lt_of_pos by_ (show (0 : Int) < 1000 by omega)
      generalize by_ % 1000 = r at r1 r2 ⊢
      have kd : IntKind.i64.wrap (q - p) = q - p := IntWalk.i64_in _ (by omega)
      have ke : IntKind.i64.wrap (q - p + 1) = q - p + 1 := IntWalk.i64_in _ (by omega)
      have t1 := Int.emod_nonneg cut (show q - p + 1 ≠ 0 by omega)
      have t2 := Int.emod_lt_of_pos cut (show 0 < q - p + 1 by omega)
      have kf : IntKind.i64.wrap (p + cut % (q - p + 1)) = p + cut % (q - p + 1) := IntWalk.i64_in _ (by omega)
      go_cut [11] (fun s11 wx => ∃ k : Int, s11 = .int .i64 k ∧ p ≤ k ∧ k ≤ q ∧ St w wx (two32 x y z p q))
      case first =>
        go_quiet ((go_at_call 24; exact Calls.quiet_of_same ((pick_any _ _ (by omega) (by omega) _).mono fun _ _ ⟨he, hw⟩ => ⟨he, hw.symm⟩)))
        go_wp2_with fail
        go_meet
        exact ⟨_, rfl, by omega, by omega, hS.drewN _⟩
      case rest =>
        clear kd ke kf t1 t2 hS h0 c0 f0 k0 c1 f1 k1 c2 f2 k2 c3 f3 k3 c4 f4 k4
        obtain ⟨k, rfl, t1, t2, hS⟩ := hcut
        have hT := hS
        simp only [St, Cells, Nat.add_zero] at hT
        obtain ⟨h0, ⟨c0, f0, k0⟩, ⟨c1, f1, k1⟩, ⟨c2, f2, k2⟩, ⟨c3, f3, k3⟩, ⟨c4, f4, k4⟩, -⟩ := hT
        obtain ⟨F1, F2, F3⟩ := meets_facts HC.out p1 p2 p3 t1 t2 r1 r2
        have e10 := fun W h => meets_st p q x y z w W (two32 x y z p q) h
        have e11 := fun W h => meets_st p k x y z w W (two32 x y z p q) h
        have e12 := fun W h => meets_st k q x y z w W (two32 x y z p q) h
        have e13 := fun W h => meets_st (p - r) q x y z w W (two32 x y z p q) h
        have e14 := fun W h => meets_st p (q + r) x y z w W (two32 x y z p q) h
        generalize hM : meetsB p q x y z = M at *
        generalize hL : meetsB p k x y z = L at *
        generalize hR : meetsB k q x y z = R at *
        generalize hU : meetsB (p - r) q x y z = U at *
        generalize hV : meetsB p (q + r) x y z = V at *
        clear hM hL hR hU hV
        have E10 := hid e10
        have E11 := hid e11
        have E12 := hid e12
        have E13 := hid e13
        have E14 := hid e14
        have G1 := hid F1
        have G2 := hid F2
        have G3 := hid F3
        clear e10 e11 e12 e13 e14 F1 F2 F3
        go_wp2_with fail
        refine (E10.out _ hS).mono ?_
        rintro e w3 ⟨rfl, hS3⟩
        clear hS h0 c0 f0 k0 c1 f1 k1 c2 f2 k2 c3 f3 k3 c4 f4 k4
        go_upto_region 11 with fail
        go_cut [13, 14] (fun s13 s14 wx => s13 = .bool L ∧ s14 = .bool R ∧ St w wx (two32 x y z p q))
        case first =>
          go_region_held3 (fun wx => St w wx (two32 x y z p q) ∧ wx.cell? ⟨w.heap.size, 0, none⟩ = some (.int .i64 x) ∧ wx.cell? ⟨w.heap.size, 1, none⟩ = some (.int .i64 y) ∧ wx.cell? ⟨w.heap.size, 2, none⟩ = some (.int .i64 z) ∧ wx.cell? ⟨w.heap.size + 1, 0, none⟩ = some (.int .i64 p) ∧ wx.cell? ⟨w.heap.size + 1, 1, none⟩ = some (.int .i64 q))
            (first | assumption | exact two32_held hS3.drew | exact two32_held hS')
            (first
              | (go_at_call 16; with_reducible refine (E11.out _ (two32_of (by assumption))).mono ?_; rintro e w' ⟨rfl, hS'⟩)
              | (go_at_call 16; with_reducible refine (E12.out _ (two32_of (by assumption))).mono ?_; rintro e w' ⟨rfl, hS'⟩))
          go_wp2_with fail
          go_meet
          exact ⟨rfl, rfl, hS'⟩
        case rest =>
          clear hS3
          obtain ⟨rfl, rfl, hS⟩ := hcut
          have kd : IntKind.i64.wrap (p - r) = p - r := IntWalk.i64_in _ (by omega)
          have ke : IntKind.i64.wrap (q + r) = q + r := IntWalk.i64_in _ (by omega)
          clear kd ke
          cases M
          · obtain rfl : L = false := by cases L with
              | false => rfl
              | true => exact absurd (G2.out (.inl rfl)) (by simp)
            obtain rfl : R = false := by cases R with
              | false => rfl
              | true => exact absurd (G2.out (.inr rfl)) (by simp)
            have g3 := hid G3.out
            clear G1 G2 G3
            have hT := hS
            simp only [St, Cells, Nat.add_zero] at hT
            obtain ⟨h0, ⟨c0, f0, k0⟩, ⟨c1, f1, k1⟩, ⟨c2, f2, k2⟩, ⟨c3, f3, k3⟩, ⟨c4, f4, k4⟩, -⟩ := hT
            have g4 : ¬ (0 < z ∧ x = k ∧ p < k ∧ k < q) := by
              have g := g3.out
              simp at g
              omega
            clear g3
            by_cases i1 : 0 < z
            · by_cases i2 : x = k
              · subst i2
                by_cases i3 : p < x
                · have i4 : ¬ x < q := by omega
                  clear g4
                  go_wp2
                  go_ret
                  exact ⟨rfl, hS.1⟩
                · clear g4
                  go_wp2
                  go_ret
                  exact ⟨rfl, hS.1⟩
              · have i5 : (x == k) = false := by simp [i2]
                clear g4 i2
                go_wp2
                go_ret
                exact ⟨rfl, hS.1⟩
            · clear g4
              go_wp2
              go_ret
              exact ⟨rfl, hS.1⟩
          · obtain ⟨rfl, rfl⟩ := G1.out rfl
            have hT := hS
            simp only [St, Cells, Nat.add_zero] at hT
            obtain ⟨h0, ⟨c0, f0, k0⟩, ⟨c1, f1, k1⟩, ⟨c2, f2, k2⟩, ⟨c3, f3, k3⟩, ⟨c4, f4, k4⟩, -⟩ := hT
            by_cases hLR : L = false ∧ R = false
            · obtain ⟨rfl, rfl⟩ := hLR
              have g3 : 0 < z ∧ x = k ∧ p < k ∧ k < q := by
                have g := G3.out
                simp at g
                omega
              obtain ⟨g4, rfl, g5, g6⟩ := g3
              clear G1 G2 G3
              go_wp2_with fail
              refine (E13.out _ hS).mono ?_
              rintro e w4 ⟨rfl, hS4⟩
              have hT4 := hS4
              clear h0 c0 f0 k0 c1 f1 k1 c2 f2 k2 c3 f3 k3 c4 f4 k4
              simp only [St, Cells, Nat.add_zero] at hT4
              obtain ⟨h0, ⟨c0, f0, k0⟩, ⟨c1, f1, k1⟩, ⟨c2, f2, k2⟩, ⟨c3, f3, k3⟩, ⟨c4, f4, k4⟩, -⟩ := hT4
              go_wp2_with fail
              refine (E14.out _ hS4).mono ?_
              rintro e w5 ⟨rfl, hS5⟩
              have hT4 := hS5
              clear h0 c0 f0 k0 c1 f1 k1 c2 f2 k2 c3 f3 k3 c4 f4 k4
              simp only [St, Cells, Nat.add_zero] at hT4
              obtain ⟨h0, ⟨c0, f0, k0⟩, ⟨c1, f1, k1⟩, ⟨c2, f2, k2⟩, ⟨c3, f3, k3⟩, ⟨c4, f4, k4⟩, -⟩ := hT4
              go_wp2
              all_goals go_ret
              all_goals exact ⟨rfl, hS5.1⟩
            · clear G1 G2 G3
              cases L <;> cases R
              · exact absurd ⟨rfl, rfl⟩ hLR
              all_goals clear hLR
              all_goals
                go_wp2_with fail
                refine (E13.out _ hS).mono ?_
                rintro e w4 ⟨rfl, hS4⟩
                have hT4 := hS4
                clear h0 c0 f0 k0 c1 f1 k1 c2 f2 k2 c3 f3 k3 c4 f4 k4
                simp only [St, Cells, Nat.add_zero] at hT4
                obtain ⟨h0, ⟨c0, f0, k0⟩, ⟨c1, f1, k1⟩, ⟨c2, f2, k2⟩, ⟨c3, f3, k3⟩, ⟨c4, f4, k4⟩, -⟩ := hT4
                go_wp2_with fail
                refine (E14.out _ hS4).mono ?_
                rintro e w5 ⟨rfl, hS5⟩
                have hT4 := hS5
                clear h0 c0 f0 k0 c1 f1 k1 c2 f2 k2 c3 f3 k3 c4 f4 k4
                simp only [St, Cells, Nat.add_zero] at hT4
                obtain ⟨h0, ⟨c0, f0, k0⟩, ⟨c1, f1, k1⟩, ⟨c2, f2, k2⟩, ⟨c3, f3, k3⟩, ⟨c4, f4, k4⟩, -⟩ := hT4
                go_wp2
                all_goals go_ret
                all_goals exact ⟨rfl, hS5.1⟩

theorem walk_ShiftMeets (x y z n a b by_ cut : Int) (w : World) (_ : (Lit.int .i64 x).wf = true) (_ : (Lit.int .i64 y).wf = true) (_ : (Lit.int .i64 z).wf = true) (_ : (Lit.int .i64 n).wf = true) (_ : (Lit.int .i64 a).wf = true) (_ : (Lit.int .i64 b).wf = true) (wb : (Lit.int .i64 by_).wf = true) (_ : (Lit.int .i64 cut).wf = true) :
    Calls Try.prog 6 #[.agg #[.int .i64 x, .int .i64 y, .int .i64 z], .int .i64 n, .agg #[.int .i64 a, .int .i64 b], .int .i64 by_, .int .i64 cut] w fun e w' => e = .returned (.bool true) ∧ Below w.heap.size w w' := by
  by_cases hc : checkI x y z n = 0
  · exact meets_good x y z n a b by_ cut w hc wb
  · exact meets_bad x y z n a b by_ cut w hc

end Go.Proofs.Ytlondbckhlfibaa
