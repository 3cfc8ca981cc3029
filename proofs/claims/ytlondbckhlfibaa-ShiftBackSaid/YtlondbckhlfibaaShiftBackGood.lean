/-
  The walk of viewportlaw10.ShiftBack where the edit may be. Own work.
-/
import Derived.Test.YtlondbckhlfibaaShiftBackWalk
import Derived.IntWalk
set_option linter.unusedSimpArgs false
set_option linter.unusedVariables false
namespace Go.Proofs.Ytlondbckhlfibaa
open Go.RowKit

/-- an edit, a span; and later an edit and a span -/
def BackAnd (w u v W : World) (x y z p q s t : Int) : Prop := St w W (two32 x y z p q) ∧ St u W [(0, 0, .int .i64 x), (0, 1, .int .i64 z), (0, 2, .int .i64 y)] ∧ St v W [(0, 0, .int .i64 s), (0, 1, .int .i64 t)]
theorem BackAnd.next {w u v W W' : World} {x y z p q s t : Int} (k : BackAnd w u v W x y z p q s t) (hb : Below W.heap.size W W') : BackAnd w u v W' x y z p q s t := ⟨k.1.next hb, k.2.1.next hb, k.2.2.next hb⟩
theorem BackAnd.drew {w u v W : World} {x y z p q s t : Int} (k : BackAnd w u v W x y z p q s t) : BackAnd w u v W.drew x y z p q s t := ⟨k.1.drew, k.2.1.drew, k.2.2.drew⟩
def BackHeld (w u v W : World) (x y z p q s t : Int) : Prop := BackAnd w u v W x y z p q s t ∧
  W.cell? ⟨w.heap.size, 0, none⟩ = some (.int .i64 x) ∧ W.cell? ⟨w.heap.size, 1, none⟩ = some (.int .i64 y) ∧ W.cell? ⟨w.heap.size, 2, none⟩ = some (.int .i64 z) ∧
  W.cell? ⟨w.heap.size + 1, 0, none⟩ = some (.int .i64 p) ∧ W.cell? ⟨w.heap.size + 1, 1, none⟩ = some (.int .i64 q) ∧
  W.cell? ⟨u.heap.size, 0, none⟩ = some (.int .i64 x) ∧ W.cell? ⟨u.heap.size, 1, none⟩ = some (.int .i64 z) ∧ W.cell? ⟨u.heap.size, 2, none⟩ = some (.int .i64 y) ∧
  W.cell? ⟨v.heap.size, 0, none⟩ = some (.int .i64 s) ∧ W.cell? ⟨v.heap.size, 1, none⟩ = some (.int .i64 t)
theorem BackAnd.held {w u v W : World} {x y z p q s t : Int} (k : BackAnd w u v W x y z p q s t) : BackHeld w u v W x y z p q s t := by
  have hT := k
  simp only [BackAnd, St, Cells, Nat.add_zero] at hT
  obtain ⟨⟨h0, ⟨c0, f0, k0⟩, ⟨c1, f1, k1⟩, ⟨c2, f2, k2⟩, ⟨c3, f3, k3⟩, ⟨c4, f4, k4⟩, -⟩, ⟨h1, ⟨c5, f5, k5⟩, ⟨c6, f6, k6⟩, ⟨c7, f7, k7⟩, -⟩, ⟨h2, ⟨c8, f8, k8⟩, ⟨c9, f9, k9⟩, -⟩⟩ := hT
  exact ⟨k, c0, c1, c2, c3, c4, c5, c6, c7, c8, c9⟩
theorem back_next {w u v W W' : World} {x y z p q s t : Int} (k : BackHeld w u v W x y z p q s t) (hb : Below W.heap.size W W') : BackAnd w u v W' x y z p q s t := k.1.next hb
theorem back_of {w u v W : World} {x y z p q s t : Int} (k : BackHeld w u v W x y z p q s t) : BackAnd w u v W x y z p q s t := k.1

set_option maxHeartbeats 8000000 in
set_option maxRecDepth 100000 in
theorem back_good (x y z n a b : Int) (w : World) (hc : checkI x y z n = 0) :
    Calls Try.prog 9 #[.agg #[.int .i64 x, .int .i64 y, .int .i64 z], .int .i64 n, .agg #[.int .i64 a, .int .i64 b]] w fun e w' => e = .returned (.bool true) ∧ Below w.heap.size w w' := by
  have hne : (checkI x y z n != 0) = false := by simp [hc]
  obtain ⟨⟨a1, a2, a3, a4, a5, a6, a7⟩, a8⟩ := check_zero hc
  have HC := hid hc
  clear hc
  go_enter Try.func9, Try.ntmps9
  go_wp2_with fail
  refine (lives_st w _ (two32 x y z a b) (two32_init _ _ _ _ _ _ _ _)).mono ?_
  rintro e w1 ⟨rfl, hS⟩
  have hT := hS
  simp only [St, Cells, Nat.add_zero] at hT
  obtain ⟨h0, ⟨c0, f0, k0⟩, ⟨c1, f1, k1⟩, ⟨c2, f2, k2⟩, ⟨c3, f3, k3⟩, ⟨c4, f4, k4⟩, -⟩ := hT
  go_wp2_with fail
  refine (check_st _ _ _ _ w _ (two32 x y z a b) hS).mono ?_
  rintro e w2 ⟨rfl, hS2⟩
  clear hS h0 c0 f0 k0 c1 f1 k1 c2 f2 k2 c3 f3 k3 c4 f4 k4
  go_upto_region 5 with fail
  go_cut [] (fun wx => ∃ p q : Int, 0 ≤ p ∧ p ≤ n ∧ 0 ≤ q ∧ q ≤ n ∧ St w wx (two32 x y z p q))
  case first =>
    have ha1 := Int.emod_nonneg a (show n + 1 ≠ 0 by omega)
    have ha2 := Int.emod_lt_of_pos a (show 0 < n + 1 by omega)
    have hb1 := Int.emod_nonneg b (show n + 1 ≠ 0 by omega)
    have hb2 := Int.emod_lt_of_pos b (show 0 < n + 1 by omega)
    have kw : IntKind.i64.wrap (n + 1) = n + 1 := IntWalk.i64_in _ (by omega)
    have hT := hS2
    simp only [St, Cells, Nat.add_zero] at hT
    obtain ⟨h0, ⟨c0, f0, k0⟩, ⟨c1, f1, k1⟩, ⟨c2, f2, k2⟩, ⟨c3, f3, k3⟩, ⟨c4, f4, k4⟩, -⟩ := hT
    go_region_with (go_at_call 24; refine (pick_any _ _ (by omega) (by omega) _).mono ?_; rintro e w' ⟨rfl, rfl⟩)
    all_goals (go_wp2_with fail; go_meet)
    all_goals exact ⟨_, _, ha1, by omega, hb1, by omega, two32_set hS2.drew _ _⟩
  case rest =>
    clear hS2
    obtain ⟨p, q, p1, p2, q1, q2, hS⟩ := hcut
    have hT := hS
    simp only [St, Cells, Nat.add_zero] at hT
    obtain ⟨h0, ⟨c0, f0, k0⟩, ⟨c1, f1, k1⟩, ⟨c2, f2, k2⟩, ⟨c3, f3, k3⟩, ⟨c4, f4, k4⟩, -⟩ := hT
    by_cases hpq : q ≤ p
    · go_wp2
      go_ret
      exact ⟨rfl, hS.1⟩
    · have em := meets_st p q x y z w wc (two32 x y z p q) hS
      cases hM : meetsB p q x y z
      · rw [hM] at em
        have HM := hid hM
        clear hM
        go_wp2_with fail
        refine em.mono ?_
        clear em
        rintro e w3 ⟨rfl, hS3⟩
        clear hS h0 c0 f0 k0 c1 f1 k1 c2 f2 k2 c3 f3 k3 c4 f4 k4
        have hT := hS3
        simp only [St, Cells, Nat.add_zero] at hT
        obtain ⟨h0, ⟨c0, f0, k0⟩, ⟨c1, f1, k1⟩, ⟨c2, f2, k2⟩, ⟨c3, f3, k3⟩, ⟨c4, f4, k4⟩, -⟩ := hT
        go_wp2_with fail
        have hU : St w3 (w3.alloc (.cells #[.int .i64 x, .int .i64 z, .int .i64 y] 24)) [(0, 0, .int .i64 x), (0, 1, .int .i64 z), (0, 2, .int .i64 y)] := by
          refine ⟨(Below.refl _ _).alloc (Nat.le_refl _) _, ?_⟩
          simp only [Cells, Nat.add_zero]
          and_intros <;> go_simp
        have hS4 := hS3.next ((Below.refl _ _).alloc (Nat.le_refl _) (.cells #[.int .i64 x, .int .i64 z, .int .i64 y] 24))
        refine (move_any p q x y z _).mono ?_
        rintro e w4 ⟨rfl, hb⟩
        obtain ⟨s, hs⟩ : ∃ s, s = startI p x y z := ⟨_, rfl⟩
        obtain ⟨t, ht⟩ : ∃ t, t = maxI (startI p x y z) (endI q x y z) := ⟨_, rfl⟩
        have hf := back_facts HC.out p1 hpq q2 HM.out hs ht
        rw [← ht, ← hs]
        have hA : BackAnd w w3 w4 (w4.alloc (.cells #[.int .i64 s, .int .i64 t] 28)) x y z p q s t := by
          refine ⟨(hS4.next hb).next ((Below.refl _ _).alloc (Nat.le_refl _) _), (hU.next hb).next ((Below.refl _ _).alloc (Nat.le_refl _) _), (Below.refl _ _).alloc (Nat.le_refl _) _, ?_⟩
          simp only [Cells, Nat.add_zero]
          and_intros <;> go_simp
        clear hs ht hb hU hS4 hS3 h0 c0 f0 k0 c1 f1 k1 c2 f2 k2 c3 f3 k3 c4 f4 k4
        obtain ⟨g1, g2, g3, g4, s1, s2, t1, t2⟩ := hf
        have j1 : IntKind.i64.wrap (t - s) = t - s := IntWalk.i64_in _ (by omega)
        have j2 : IntKind.i64.wrap (q - p) = q - p := IntWalk.i64_in _ (by omega)
        have j3 : (t - s != q - p) = false := by simp [g1]
        have e1 := fun W => len_any x y z n W
        rw [len_plain HC.out] at e1
        have e2 := fun W => check_any x z y (n - y + z) W
        rw [g2] at e2
        have E1 := hid e1
        have E2 := hid e2
        have G3 := hid g3
        have G4 := hid g4
        clear e1 e2 g1 g2 g3 g4
        have hT := hA
        simp only [BackAnd, St, Cells, Nat.add_zero] at hT
        obtain ⟨⟨h0, ⟨c0, f0, k0⟩, ⟨c1, f1, k1⟩, ⟨c2, f2, k2⟩, ⟨c3, f3, k3⟩, ⟨c4, f4, k4⟩, -⟩, ⟨h1, ⟨c5, f5, k5⟩, ⟨c6, f6, k6⟩, ⟨c7, f7, k7⟩, -⟩, ⟨h2, ⟨c8, f8, k8⟩, ⟨c9, f9, k9⟩, -⟩⟩ := hT
        go_upto_region 10 with fail
        go_cut [65] (fun s65 wx => s65 = .bool false ∧ BackAnd w w3 w4 wx x y z p q s t)
        case first =>
          go_region_held3 (fun wx => BackAnd w w3 w4 wx x y z p q s t ∧
          wx.cell? ⟨w.heap.size, 0, none⟩ = some (.int .i64 x) ∧ wx.cell? ⟨w.heap.size, 1, none⟩ = some (.int .i64 y) ∧ wx.cell? ⟨w.heap.size, 2, none⟩ = some (.int .i64 z) ∧
          wx.cell? ⟨w.heap.size + 1, 0, none⟩ = some (.int .i64 p) ∧ wx.cell? ⟨w.heap.size + 1, 1, none⟩ = some (.int .i64 q) ∧
          wx.cell? ⟨w3.heap.size, 0, none⟩ = some (.int .i64 x) ∧ wx.cell? ⟨w3.heap.size, 1, none⟩ = some (.int .i64 z) ∧ wx.cell? ⟨w3.heap.size, 2, none⟩ = some (.int .i64 y) ∧
          wx.cell? ⟨w4.heap.size, 0, none⟩ = some (.int .i64 s) ∧ wx.cell? ⟨w4.heap.size, 1, none⟩ = some (.int .i64 t))
            (first | assumption | exact hA.drew.held | exact (back_next (by assumption) hb).held)
            (first
              | (go_at_call 15; with_reducible refine (E1.out _).mono ?_; rintro e w' ⟨rfl, hb⟩)
              | (go_at_call 14; with_reducible refine (E2.out _).mono ?_; rintro e w' ⟨rfl, hb⟩))
          go_wp2_with fail
          go_meet
          exact ⟨rfl, back_of (by assumption)⟩
        case rest =>
          clear hA h0 c0 f0 k0 c1 f1 k1 c2 f2 k2 c3 f3 k3 c4 f4 k4 h1 c5 f5 k5 c6 f6 k6 c7 f7 k7 h2 c8 f8 k8 c9 f9 k9 j1 j2 j3
          obtain ⟨rfl, hA⟩ := hcut
          have hT := hA
          simp only [BackAnd, St, Cells, Nat.add_zero] at hT
          obtain ⟨⟨h0, ⟨c0, f0, k0⟩, ⟨c1, f1, k1⟩, ⟨c2, f2, k2⟩, ⟨c3, f3, k3⟩, ⟨c4, f4, k4⟩, -⟩, ⟨h1, ⟨c5, f5, k5⟩, ⟨c6, f6, k6⟩, ⟨c7, f7, k7⟩, -⟩, ⟨h2, ⟨c8, f8, k8⟩, ⟨c9, f9, k9⟩, -⟩⟩ := hT
          by_cases hin : p < x ∧ x < q
          · obtain ⟨i1, i2⟩ := hin
            obtain ⟨rfl, rfl⟩ := G3.out i1 i2
            clear G3 G4
            go_wp2
            go_ret
            exact ⟨rfl, hA.1.1⟩
          · obtain ⟨g5, g6, g7⟩ := G4.out hin
            have e3 := fun W => meets_any s t x z y W
            rw [g5] at e3
            have e4 := fun W => move_any s t x z y W
            rw [g7, g6] at e4
            have E3 := hid e3
            have E4 := hid e4
            clear e3 e4 g5 g6 g7 G3 G4 E1 E2
            by_cases i1 : p < x
            · have i2 : ¬ x < q := by omega
              clear hin
              go_upto_region 14 with fail
              go_region_held3 (fun wx => BackAnd w w3 w4 wx x y z p q s t ∧
          wx.cell? ⟨w.heap.size, 0, none⟩ = some (.int .i64 x) ∧ wx.cell? ⟨w.heap.size, 1, none⟩ = some (.int .i64 y) ∧ wx.cell? ⟨w.heap.size, 2, none⟩ = some (.int .i64 z) ∧
          wx.cell? ⟨w.heap.size + 1, 0, none⟩ = some (.int .i64 p) ∧ wx.cell? ⟨w.heap.size + 1, 1, none⟩ = some (.int .i64 q) ∧
          wx.cell? ⟨w3.heap.size, 0, none⟩ = some (.int .i64 x) ∧ wx.cell? ⟨w3.heap.size, 1, none⟩ = some (.int .i64 z) ∧ wx.cell? ⟨w3.heap.size, 2, none⟩ = some (.int .i64 y) ∧
          wx.cell? ⟨w4.heap.size, 0, none⟩ = some (.int .i64 s) ∧ wx.cell? ⟨w4.heap.size, 1, none⟩ = some (.int .i64 t))
                (first | assumption | exact hA.drew.held | exact (back_next (by assumption) hb).held)
                (first
                  | (go_at_call 16; with_reducible refine (E3.out _).mono ?_; rintro e w' ⟨rfl, hb⟩)
                  | (go_at_call 19; with_reducible refine (E4.out _).mono ?_; rintro e w' ⟨rfl, hb⟩))
              all_goals go_wp2
              all_goals go_ret
              all_goals exact ⟨rfl, (back_of (by assumption)).1.1⟩
            · clear hin
              go_upto_region 14 with fail
              go_region_held3 (fun wx => BackAnd w w3 w4 wx x y z p q s t ∧
          wx.cell? ⟨w.heap.size, 0, none⟩ = some (.int .i64 x) ∧ wx.cell? ⟨w.heap.size, 1, none⟩ = some (.int .i64 y) ∧ wx.cell? ⟨w.heap.size, 2, none⟩ = some (.int .i64 z) ∧
          wx.cell? ⟨w.heap.size + 1, 0, none⟩ = some (.int .i64 p) ∧ wx.cell? ⟨w.heap.size + 1, 1, none⟩ = some (.int .i64 q) ∧
          wx.cell? ⟨w3.heap.size, 0, none⟩ = some (.int .i64 x) ∧ wx.cell? ⟨w3.heap.size, 1, none⟩ = some (.int .i64 z) ∧ wx.cell? ⟨w3.heap.size, 2, none⟩ = some (.int .i64 y) ∧
          wx.cell? ⟨w4.heap.size, 0, none⟩ = some (.int .i64 s) ∧ wx.cell? ⟨w4.heap.size, 1, none⟩ = some (.int .i64 t))
                (first | assumption | exact hA.drew.held | exact (back_next (by assumption) hb).held)
                (first
                  | (go_at_call 16; with_reducible refine (E3.out _).mono ?_; rintro e w' ⟨rfl, hb⟩)
                  | (go_at_call 19; with_reducible refine (E4.out _).mono ?_; rintro e w' ⟨rfl, hb⟩))
              all_goals go_wp2
              all_goals go_ret
              all_goals exact ⟨rfl, (back_of (by assumption)).1.1⟩
      · rw [hM] at em
        clear hM
        go_wp2_with fail
        refine em.mono ?_
        clear em
        rintro e w3 ⟨rfl, hS3⟩
        go_wp2
        go_ret
        exact ⟨rfl, hS3.1⟩

set_option maxHeartbeats 2000000 in
theorem back_bad (x y z n a b : Int) (w : World) (hc : checkI x y z n ≠ 0) :
    Calls Try.prog 9 #[.agg #[.int .i64 x, .int .i64 y, .int .i64 z], .int .i64 n, .agg #[.int .i64 a, .int .i64 b]] w fun e w' => e = .returned (.bool true) ∧ Below w.heap.size w w' := by
  have hne : (checkI x y z n != 0) = true := by simp [hc]
  go_enter Try.func9, Try.ntmps9
  go_wp2_with fail
  refine (lives_st w _ (two32 x y z a b) (two32_init _ _ _ _ _ _ _ _)).mono ?_
  rintro e w1 ⟨rfl, hS⟩
  have hT := hS
  simp only [St, Cells, Nat.add_zero] at hT
  obtain ⟨h0, ⟨c0, f0, k0⟩, ⟨c1, f1, k1⟩, ⟨c2, f2, k2⟩, ⟨c3, f3, k3⟩, ⟨c4, f4, k4⟩, -⟩ := hT
  go_wp2_with fail
  refine (check_st _ _ _ _ w _ (two32 x y z a b) hS).mono ?_
  rintro e w2 ⟨rfl, hS2⟩
  go_wp2
  go_ret
  exact ⟨rfl, hS2.1⟩

theorem walk_ShiftBack (x y z n a b : Int) (w : World) (_ : (Lit.int .i64 x).wf = true) (_ : (Lit.int .i64 y).wf = true) (_ : (Lit.int .i64 z).wf = true) (_ : (Lit.int .i64 n).wf = true) (_ : (Lit.int .i64 a).wf = true) (_ : (Lit.int .i64 b).wf = true) :
    Calls Try.prog 9 #[.agg #[.int .i64 x, .int .i64 y, .int .i64 z], .int .i64 n, .agg #[.int .i64 a, .int .i64 b]] w fun e w' => e = .returned (.bool true) ∧ Below w.heap.size w w' := by
  by_cases hc : checkI x y z n = 0
  · exact back_good x y z n a b w hc
  · exact back_bad x y z n a b w hc

end Go.Proofs.Ytlondbckhlfibaa
