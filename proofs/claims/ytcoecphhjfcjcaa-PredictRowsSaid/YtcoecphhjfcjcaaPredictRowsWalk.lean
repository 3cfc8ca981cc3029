/-
  PredictRows, walked. Own work.
-/
import Derived.Test.YtcoecphhjfcjcaaPredictRow
import Derived.Test.YtcoecphhjfcjcaalivesGood
set_option linter.unusedSimpArgs false
set_option linter.unusedVariables false
namespace Go.Proofs.Ytcoecphhjfcjcaa
open Go.RowKit Sl

def HidR (p : Prop) : Prop := p
theorem hidR {p : Prop} (h : p) : HidR p := h

set_option maxHeartbeats 3200000 in
set_option maxRecDepth 1000000 in
theorem walk_PredictRows (k : Int) (x : Option Addr) (xs : List Int) (cap : Nat) (w : World) (_ : (Lit.int .i64 k).wf = true) (h : IntsAt w x xs) (hm : xs.length ≤ maxLen) :
    Calls Try.prog 3 #[.int .i64 k, .slice x xs.length cap] w fun e w' => e = .returned (.bool true) ∧ Below w.heap.size w w' := by
  go_enter Try.func3, Try.ntmps3
  go_wp2_with fail
  refine (lives.walk_lives w).mono ?_
  rintro e w1 ⟨rfl, hb1⟩
  have h1 := h.later hb1
  go_wp2_with fail
  · go_ret
    exact ⟨rfl, hb1⟩
  · refine (row_any k x cap xs w1 h1 (by omega)).mono ?_
    rintro e w2 ⟨r, rfl, hR, hb2⟩
    obtain ⟨f1, f2, f3, f4⟩ := row_facts hR
    have hb : Below w.heap.size w w2 := hb1.trans (hb2.mono hb1.size)
    rcases h1.later hb2 with rfl | ⟨b, off, rfl, hbl, hc⟩
    · obtain rfl : r = [] := List.eq_nil_of_length_eq_zero (by simpa using f2)
      go_wp2
      refine wp_loop_rounds 1 ?_
      rw [rounds_succ]
      have f5 : min (max 0 k) 0 = 0 := by omega
      clear f3 f4 hR f1 f2
      go_wp2
      go_ret
      exact ⟨rfl, hb⟩
    · have F := hidR f3
      have G := hidR f4
      have f5 : decide (max 0 k < (r.length : Int)) = false := by simp; omega
      have f6 : decide (xs.length < r.length) = false := by simp; omega
      have f7 : r.length ≤ xs.length := f2
      have H := hidR f7
      clear f3 f4 f1 f2 f7
      go_wp2
      clear f5 f6
      have f2 : r.length ≤ xs.length := H
      go_loopw [6] (fun i wr => ∃ n : Nat, n ≤ r.length ∧ i = .int .i64 n ∧ Below w.heap.size w wr ∧ (∀ j, j < xs.length → wr.cell? ⟨b, off + j, none⟩ = some (.int .i64 (xs.getD j 0)))) (fun i _ => r.length - (intOf i).toNat)
      case atStart => exact ⟨0, Nat.zero_le _, rfl, by first | exact hb | exact hb.drew, hc⟩
      case round =>
        obtain ⟨n, hn, rfl, hbr, hcr⟩ := hrel
        by_cases hlt : n < r.length
        · have hx : n < xs.length := by omega
          have hcx := hcr n hx
          have e0 : xs.getD n 0 = xs[n] := by simp [List.getD_eq_getElem?_getD, hx]
          obtain ⟨a1, a2, a3, a4⟩ := F n hlt
          rw [e0] at a1 a2 a3 hcx
          have er : r[n]? = some r[n] := List.getElem?_eq_getElem hlt
          generalize hy : xs[n] = y at *
          generalize hz : r[n] = z at *
          have HC := hidR hcr
          have HB := hidR hbr
          have H1 := hidR hy
          clear hcr hbr F G H hc hR hb1 hb2 hb h1 h hy e0
          have E : ∀ (h : n < (ByteArray.mk r.toArray).size), (ByteArray.mk r.toArray)[n]'h = z := fun h => hz
          clear hz
          by_cases c1 : y = -2
          · have c2 : (z.toNat : Int) = 255 := a2.1 c1
            have c3 : n + 1 = r.length := a4 c2
            have c4 : ∀ (h : n < (ByteArray.mk r.toArray).size), (((ByteArray.mk r.toArray)[n]'h).toNat : Int) = 255 := fun h => by rw [E h]; exact c2
            clear a1 a2 a3 a4 E c2
            subst c1
            go_wp2_with fail
            go_roundw
            case rel => exact ⟨n + 1, by omega, by first | rfl | simp, HB, HC⟩
            case measure => simp [intOf]; omega
          · have c2 : (y == -2) = false := by simpa using c1
            by_cases c3 : 0 ≤ y
            · by_cases c4 : y < 254
              · have c5 : ∀ (h : n < (ByteArray.mk r.toArray).size), (((ByteArray.mk r.toArray)[n]'h).toNat : Int) = y := fun h => by rw [E h]; exact a1 c3 c4
                have c6 : decide (y < 0) = false := by simp; omega
                have c7 : decide (253 < y) = false := by simp; omega
                have c8 : (y == 255) = false := by simp; omega
                have c9 : wrap64 y = y := IntWalk.wrap64_in _ (by omega)
                clear a1 a2 a3 a4 E
                go_wp2_with fail
                go_roundw
                case rel => exact ⟨n + 1, by omega, by first | rfl | simp, HB, HC⟩
                case measure => simp [intOf]; omega
              · have c5 : ∀ (h : n < (ByteArray.mk r.toArray).size), (((ByteArray.mk r.toArray)[n]'h).toNat : Int) = 254 := fun h => by rw [E h]; exact a3 c1 (.inr (by omega))
                have c6 : decide (y < 0) = false := by simp; omega
                have c7 : decide (y < 254) = false := by simp; omega
                have c8 : decide (253 < y) = true := by simp; omega
                clear a1 a2 a3 a4 E
                go_wp2_with fail
                go_roundw
                case rel => exact ⟨n + 1, by omega, by first | rfl | simp, HB, HC⟩
                case measure => simp [intOf]; omega
            · have c5 : ∀ (h : n < (ByteArray.mk r.toArray).size), (((ByteArray.mk r.toArray)[n]'h).toNat : Int) = 254 := fun h => by rw [E h]; exact a3 c1 (.inl (by omega))
              have c6 : decide (y < 0) = true := by simp; omega
              have c7 : decide (0 ≤ y) = false := by simp; omega
              clear a1 a2 a3 a4 E
              go_wp2_with fail
              go_roundw
              case rel => exact ⟨n + 1, by omega, by first | rfl | simp, HB, HC⟩
              case measure => simp [intOf]; omega
        · have e : n = r.length := by omega
          subst e
          clear hcr hn hlt F
          have HB := hidR hbr
          clear hbr
          by_cases g : (r.length : Int) = min (max 0 k) xs.length
          · have g1 : ((r.length : Int) == min (max 0 k) xs.length) = true := by simpa using g
            clear G
            go_wp2_with fail
            go_ret
            exact ⟨rfl, HB⟩
          · have g1 : ((r.length : Int) == min (max 0 k) xs.length) = false := by simpa using g
            obtain ⟨p, q⟩ := G.resolve_left g
            have E : ∀ (h : r.length - 1 < (ByteArray.mk r.toArray).size), (((ByteArray.mk r.toArray)[r.length - 1]'h).toNat : Int) = 255 := fun h => q
            clear G q
            go_wp2_with fail
            go_ret
            exact ⟨rfl, HB⟩
end Go.Proofs.Ytcoecphhjfcjcaa
