/-
  The walk of viewportlaw10.ShiftOrder where the edit may be. Own work.
-/
import Derived.Test.YtlondbckhlfibaaShiftOrderWalk
set_option linter.unusedSimpArgs false
set_option linter.unusedVariables false
namespace Go.Proofs.Ytlondbckhlfibaa
open Go.RowKit

theorem pick_st (n m : Int) (hm : 1 ≤ m) (hm' : m ≤ 1099511627776) (w : World) :
    Calls Try.prog 24 #[.int .i64 n, .int .i64 m] w fun e w' => e = .returned (.int .i64 (n % m)) ∧ w = w' := pick_any n m hm hm' w

theorem one3_held {w wx : World} {x y z : Int} (h : St w wx (one3 x y z)) : St w wx (one3 x y z) ∧ wx.cell? ⟨w.heap.size, 0, none⟩ = some (.int .i64 x) ∧ wx.cell? ⟨w.heap.size, 1, none⟩ = some (.int .i64 y) ∧ wx.cell? ⟨w.heap.size, 2, none⟩ = some (.int .i64 z) := by
  have hT := h
  simp only [St, Cells, Nat.add_zero] at hT
  obtain ⟨h0, ⟨c0, f0, k0⟩, ⟨c1, f1, k1⟩, ⟨c2, f2, k2⟩, -⟩ := hT
  exact ⟨h, c0, c1, c2⟩

theorem one3_st {w wx : World} {x y z : Int} (h : St w wx (one3 x y z) ∧ wx.cell? ⟨w.heap.size, 0, none⟩ = some (.int .i64 x) ∧ wx.cell? ⟨w.heap.size, 1, none⟩ = some (.int .i64 y) ∧ wx.cell? ⟨w.heap.size, 2, none⟩ = some (.int .i64 z)) : St w wx (one3 x y z) := h.1

set_option maxHeartbeats 4000000 in
set_option maxRecDepth 100000 in
theorem order_good (x y z n a b : Int) (w : World) (hc : checkI x y z n = 0) :
    Calls Try.prog 5 #[.agg #[.int .i64 x, .int .i64 y, .int .i64 z], .int .i64 n, .int .i64 a, .int .i64 b] w fun e w' => e = .returned (.bool true) ∧ Below w.heap.size w w' := by
  have hne : (checkI x y z n != 0) = false := by simp [hc]
  obtain ⟨⟨a1, a2, a3, a4, a5, a6, a7⟩, a8⟩ := check_zero hc
  have HC := hid hc
  clear hc
  go_enter Try.func5, Try.ntmps5
  go_wp2_with fail
  refine (lives_st w _ (one3 x y z) (one3_init _ _ _ _ _)).mono ?_
  rintro e w1 ⟨rfl, hS⟩
  have hT := hS
  simp only [St, Cells, Nat.add_zero] at hT
  obtain ⟨h0, ⟨c0, f0, k0⟩, ⟨c1, f1, k1⟩, ⟨c2, f2, k2⟩, -⟩ := hT
  go_wp2_with fail
  refine (check_st _ _ _ _ w _ (one3 x y z) hS).mono ?_
  rintro e w2 ⟨rfl, hS2⟩
  clear hS h0 c0 f0 k0 c1 f1 k1 c2 f2 k2
  go_upto_region 5 with fail
  go_cut [2, 3] (fun s2 s3 wx => ∃ p q : Int, s2 = .int .i64 p ∧ s3 = .int .i64 q ∧ 0 ≤ p ∧ p ≤ n ∧ 0 ≤ q ∧ q ≤ n ∧ St w wx (one3 x y z))
  case first =>
    have ha1 := Int.emod_nonneg a (show n + 1 ≠ 0 by omega)
    have ha2 := Int.emod_lt_of_pos a (show 0 < n + 1 by omega)
    have hb1 := Int.emod_nonneg b (show n + 1 ≠ 0 by omega)
    have hb2 := Int.emod_lt_of_pos b (show 0 < n + 1 by omega)
    go_wp2_with (go_at_call 24; refine (pick_any _ _ (by omega) (by omega) _).mono ?_; rintro e w' ⟨rfl, rfl⟩)
    go_meet
    exact ⟨_, _, rfl, rfl, ha1, by omega, hb1, by omega, hS2⟩
  case rest =>
    obtain ⟨p, q, rfl, rfl, p1, p2, q1, q2, hS⟩ := hcut
    go_upto_if 30 with fail
    go_cut [2, 3] (fun s2 s3 wx => ∃ p q : Int, s2 = .int .i64 p ∧ s3 = .int .i64 q ∧ 0 ≤ p ∧ p ≤ q ∧ q ≤ n ∧ St w wx (one3 x y z))
    case first =>
      go_wp2
      all_goals go_meet
      · exact ⟨_, _, rfl, rfl, q1, by omega, p2, hS⟩
      · exact ⟨_, _, rfl, rfl, p1, by omega, q2, hS⟩
    case rest =>
      clear p1 p2 q1 q2 hS
      obtain ⟨p, q, rfl, rfl, p1, p2, p3, hS⟩ := hcut
      have hf := order_facts HC.out p1 p2 p3
      go_upto_region 8 with fail
      go_cut [9, 10, 11, 12] (fun s9 s10 s11 s12 wx => s9 = .int .i64 (startI p x y z) ∧ s10 = .int .i64 (startI q x y z) ∧ s11 = .int .i64 (endI p x y z) ∧ s12 = .int .i64 (endI q x y z) ∧ St w wx (one3 x y z))
      case first =>
        have hT := hS
        simp only [St, Cells, Nat.add_zero] at hT
        obtain ⟨h0, ⟨c0, f0, k0⟩, ⟨c1, f1, k1⟩, ⟨c2, f2, k2⟩, -⟩ := hT
        go_region_held3 (fun wx => St w wx (one3 x y z) ∧ wx.cell? ⟨w.heap.size, 0, none⟩ = some (.int .i64 x) ∧ wx.cell? ⟨w.heap.size, 1, none⟩ = some (.int .i64 y) ∧ wx.cell? ⟨w.heap.size, 2, none⟩ = some (.int .i64 z))
          (first | exact ⟨hS.drew, c0, c1, c2⟩ | exact one3_held (by assumption))
          (first
            | (go_at_call 17; refine (start_st _ _ _ _ w _ (one3 x y z) (one3_st (by assumption))).mono ?_; rintro e w' ⟨rfl, hS'⟩)
            | (go_at_call 18; refine (end_st _ _ _ _ w _ (one3 x y z) (one3_st (by assumption))).mono ?_; rintro e w' ⟨rfl, hS'⟩))
        go_wp2_with fail
        go_meet
        exact ⟨rfl, rfl, rfl, rfl, hS'⟩
      case rest =>
        obtain ⟨rfl, rfl, rfl, rfl, hS⟩ := hcut
        generalize startI p x y z = X at hf ⊢
        generalize startI q x y z = Y at hf ⊢
        generalize endI p x y z = P at hf ⊢
        generalize endI q x y z = Q at hf ⊢
        obtain ⟨i1, i2, i3, i4, i5, i6, i7, i8, i9, i10, i11, i12, i13⟩ := hf
        have hT := hS
        simp only [St, Cells, Nat.add_zero] at hT
        obtain ⟨h0, ⟨c0, f0, k0⟩, ⟨c1, f1, k1⟩, ⟨c2, f2, k2⟩, -⟩ := hT
        have I8 := hid i8
        have I9 := hid i9
        have I10 := hid i10
        clear i8 i9 i10
        go_wp2_with fail
        have el := len_st x y z n w _ (one3 x y z) hS
        rw [len_plain HC.out] at el
        refine el.mono ?_
        clear el
        rintro e w3 ⟨rfl, hS3⟩
        have hT := hS3
        clear h0 c0 f0 k0 c1 f1 k1 c2 f2 k2
        simp only [St, Cells, Nat.add_zero] at hT
        obtain ⟨h0, ⟨c0, f0, k0⟩, ⟨c1, f1, k1⟩, ⟨c2, f2, k2⟩, -⟩ := hT
        have es := start_st n x y z w _ (one3 x y z) hS3
        have ES := hid es
        clear es
        generalize startI n x y z = R at i12 i13 I10 ES
        by_cases t3 : R = n - y + z
        · have g1 : (R == n - y + z) = true := by simp [t3]
          clear t3 I10
          by_cases t1 : p < x
          · obtain ⟨rfl, rfl⟩ := I8.out t1
            go_wp2_with (go_at_call 17; refine ES.out.mono ?_; rintro e w4 ⟨rfl, hS4⟩)
            go_ret
            exact ⟨rfl, hS4.1⟩
          · by_cases t2 : x + y < p
            · obtain ⟨j1, j2⟩ := I9.out t2
              have b1 : (n - y + z - X != n - p) = false := by simp [j1]
              have b2 : (n - y + z - P != n - p) = false := by simp [j2]
              clear j1 j2
              go_wp2_with (go_at_call 17; refine ES.out.mono ?_; rintro e w4 ⟨rfl, hS4⟩)
              go_ret
              exact ⟨rfl, hS4.1⟩
            · go_wp2_with (go_at_call 17; refine ES.out.mono ?_; rintro e w4 ⟨rfl, hS4⟩)
              go_ret
              exact ⟨rfl, hS4.1⟩
        · exfalso
          rcases I10.out with h | h
          · exact t3 h
          · omega

theorem walk_ShiftOrder (x y z n a b : Int) (w : World) (_ : (Lit.int .i64 x).wf = true) (_ : (Lit.int .i64 y).wf = true) (_ : (Lit.int .i64 z).wf = true) (_ : (Lit.int .i64 n).wf = true) (_ : (Lit.int .i64 a).wf = true) (_ : (Lit.int .i64 b).wf = true) :
    Calls Try.prog 5 #[.agg #[.int .i64 x, .int .i64 y, .int .i64 z], .int .i64 n, .int .i64 a, .int .i64 b] w fun e w' => e = .returned (.bool true) ∧ Below w.heap.size w w' := by
  by_cases hc : checkI x y z n = 0
  · exact order_good x y z n a b w hc
  · exact order_bad x y z n a b w hc

end Go.Proofs.Ytlondbckhlfibaa
