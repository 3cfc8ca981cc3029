/-
  Contract of predict.Row. Own work.
-/
import Derived.Test.YtcoecphhjfcjcaaIntsArg
import Derived.IntWalk
import Derived.LoopTactic
import Derived.Below
import Derived.OwnWalkIn
import Derived.Laws.IdiomStrings
import Derived.Laws.BytesArg
import Derived.OwnWalk
set_option linter.unusedSimpArgs false
set_option linter.unusedVariables false
namespace Go.Proofs.Ytcoecphhjfcjcaa
open Go.RowKit Sl

theorem infoU8 : (Try.prog.info? 5).map (fun i => (i.zero, i.size, i.bytes)) = some (some (.int .u8 0), 1, 1) := by kernel_rfl

/-- a kind as a byte -/
def clampK (x : Int) : UInt8 := if x < 0 ∨ 254 ≤ x then 254 else UInt8.ofNat x.toNat
/-- the first n of them, as bytes -/
abbrev RowL (xs : List Int) (n : Nat) : List UInt8 := (xs.take n).map clampK
theorem rowL_length {xs : List Int} {n : Nat} (h : n ≤ xs.length) : (RowL xs n).length = n := by simp; omega
theorem rowL_succ {xs : List Int} {n : Nat} (h : n < xs.length) : RowL xs (n + 1) = RowL xs n ++ [clampK (xs.getD n 0)] := by
  have e : xs.take (n + 1) = xs.take n ++ [xs.getD n 0] := by rw [List.take_add_one, List.getElem?_eq_getElem h, List.getD_eq_getElem?_getD, List.getElem?_eq_getElem h]; rfl
  rw [RowL, e, List.map_append]; rfl
/-- a row's bytes as values -/
abbrev u8s (l : List UInt8) : List Value := l.map fun (n : UInt8) => Value.int .u8 (n.toNat : Int)

/-- a row of bytes as a text -/
theorem conv_own {w : World} {B n : Nat} {v : Value} {l : List UInt8} (h : w.ownsRow B 5 1 v n (u8s l)) :
    (convert 39 9 v).run Try.prog w = .ok (.string ⟨l.toArray⟩) w := by
  have hl : l.length = n := by simpa using h.1
  rcases h.2 with ⟨rfl, h2⟩ | ⟨g, cp, cur, rfl, -⟩
  · obtain rfl : l = [] := List.eq_nil_of_length_eq_zero (by omega)
    exact run_convert_bytes_nil w _ _ Try.underlying39 Try.underlying5 0 0 _ Try.underlying9
  · subst hl
    exact run_convert_bytes_back w _ _ _ _ cp l Try.underlying39 Try.underlying5 Try.underlying9 fun j hj => h.cells (g := g) rfl j _ (by simp [List.getElem?_eq_getElem hj])

/-- one byte behind a row -/
theorem app1 {ops : Array Oper} {rest : List Oper} {o : Oper} {a : Act} {Q : Exit → Act → World → Prop} (hgd : o.guard = none) (s x : Operand)
    (ho : o.op = .call { callee := .builtin .append, args := #[s, x], argTypes := #[39, 39] }) (B : Nat) (wr : World) (z : Int) (v : Value) (n : Nat) (xs : List Value) (hs : a.eval s = v)
    (hown : wr.ownsRow B 5 1 v n xs) (hx : a.eval x = .slice (some ⟨wr.heap.size, 0, none⟩) 1 1) (hB : B ≤ wr.heap.size) (hn : n ≤ 20)
    (h : ∀ v' w', w'.ownsRow B 5 1 v' (n + 1) (xs ++ [.int .u8 z]) → (wr.alloc (.cells #[.int .u8 z] 5)).grownBy w' v.ownBlock → wpList Try.prog ops Q rest (a.put o.dst v') w') :
    wpList Try.prog ops Q (o :: rest) a (wr.alloc (.cells #[.int .u8 z] 5)) := by
  obtain ⟨i0, hi, hz0, hz1, hz2⟩ := info_parts infoU8
  refine wpList_append_own _ hgd s x 39 ho B 5 i0 (.int .u8 0) 1 1 Try.underlying39 hi hz0 hz1 hz2 rfl (by decide) v n xs hs (hown.alloc _) ⟨wr.heap.size, 0, none⟩ 1 1 [.int .u8 z] hx rfl ?_ ?_ ?_ ?_ ?_ fun v' w' h1 h2 _ => h v' w' h1 h2
  · intro j u hj
    match j, hj with
    | 0, hj => simp at hj; subst hj; rw [show ((⟨wr.heap.size, 0, none⟩ : Addr).add 0) = ⟨wr.heap.size, 0, none⟩ from rfl, World.cell?_alloc_at _ _ _ _ rfl]; rfl
  · intro u hu; simp at hu; subst hu; rfl
  · unfold maxLen; omega
  · omega
  · simp; omega

/-- .. and all else is as it was -/
theorem app1_below {B : Nat} {w wr w1 : World} {v : Value} {n : Nat} {xs : List Value} {o : Obj} (h : Below B w wr) (hB : B ≤ wr.heap.size) (hown : wr.ownsRow B 5 1 v n xs) (hg : (wr.alloc o).grownBy w1 v.ownBlock) : Below B w w1 :=
  (h.alloc hB o).grown hg (by simp; omega) (fun j hj => (hown.lt j hj).1)

def RowR (k : Int) (xs : List Int) (r : List UInt8) : Prop :=
  ∃ i, i ≤ xs.length ∧ (i = 0 ∨ (i : Int) ≤ k) ∧ (∀ j, j < i → xs.getD j 0 ≠ -2) ∧
    ((r = RowL xs i ∧ (i = xs.length ∨ k ≤ i)) ∨ (i < xs.length ∧ (i : Int) < k ∧ xs.getD i 0 = -2 ∧ r = RowL xs i ++ [255]))

set_option maxHeartbeats 1600000 in
set_option maxRecDepth 1000000 in
theorem row_some (k : Int) (b off cap : Nat) (xs : List Int) (w : World) (hb : b < w.heap.size) (hl : xs.length ≤ 20)
    (hc : ∀ j, j < xs.length → w.cell? ⟨b, off + j, none⟩ = some (.int .i64 (xs.getD j 0))) :
    Calls Try.prog 5 #[.int .i64 k, .slice (some ⟨b, off, none⟩) xs.length cap] w fun e w' =>
      ∃ r : List UInt8, e = .returned (.string ⟨r.toArray⟩) ∧ RowR k xs r ∧ Below w.heap.size w w' := by
  obtain ⟨i0, hi, hz0, hz1, hz2⟩ := info_parts infoU8
  go_enter Try.func5, Try.ntmps5
  go_wp2
  go_loopw [5, 10] (fun v i wr => ∃ n : Nat, n ≤ xs.length ∧ i = .int .i64 n ∧ wr.ownsRow w.heap.size 5 1 v n (u8s (RowL xs n)) ∧ Below w.heap.size w wr ∧ (n = 0 ∨ (n : Int) ≤ k) ∧ (∀ j, j < n → xs.getD j 0 ≠ -2))
    (fun _ i _ => xs.length - (intOf i).toNat)
  case atStart => exact ⟨0, Nat.zero_le _, rfl, World.ownsRow_nil _ _ _ _, Below.refl _ _, .inl rfl, fun j hj => absurd hj (Nat.not_lt_zero _)⟩
  case round =>
    obtain ⟨n, hn, rfl, hown, hnx, hk, hne⟩ := hrel
    have hcx : n < xs.length → wr.cell? ⟨b, off + n, none⟩ = some (.int .i64 (xs.getD n 0)) := fun h => (hnx.cell (by exact hb)).trans (hc n h)
    have hv : ∃ sx sc, u5 = .slice sx n sc := by
      rcases hown.2 with ⟨h1, h2⟩ | ⟨g, cp, cur, h1, -⟩
      · exact ⟨none, 0, by rw [h1, h2]⟩
      · exact ⟨_, cp, h1⟩
    obtain ⟨sx, sc, rfl⟩ := hv
    have hB : w.heap.size ≤ wr.heap.size := hnx.size
    have hconv := conv_own hown
    go_wp2_with (first
      | (at_builtin; refine app1 rfl _ _ rfl w.heap.size wr _ (.slice sx n sc) n (u8s (RowL xs n)) rfl hown rfl hB (by omega) ?_)
      | go_in)
    · have hlt : n < xs.length := by assumption
      go_ret
      exact ⟨_, rfl, ⟨n, hn, hk, hne, .inl ⟨by simp [RowL, List.map_take], .inr (by assumption)⟩⟩, by first | exact hnx | exact hnx.drew⟩
    · intro v' w1 hown' hgrow
      have hlt : n < xs.length := by assumption
      have e0 : xs.getD n 0 = xs[n] := by simp [List.getD_eq_getElem?_getD, hlt]
      have hq : (xs[n] == -2) = true := by assumption
      have hend : xs.getD n 0 = -2 := by rw [e0]; exact eq_of_beq hq
      have hnk : (n : Int) < k := by omega
      have hown1 : w1.ownsRow w.heap.size 5 1 v' (n + 1) (u8s (RowL xs n ++ [255])) := by simpa using hown'
      have hb1 := app1_below hnx hB hown hgrow
      have hconv1 := conv_own hown1
      clear hown' hgrow hown hconv hcx
      go_wp2
      go_ret
      exact ⟨_, rfl, ⟨n, hn, hk, hne, .inr ⟨hlt, hnk, hend, by simp [RowL, List.map_take]⟩⟩, by first | exact hb1 | exact hb1.drew⟩
    · intro v' w1 hown' hgrow
      have hlt : n < xs.length := by assumption
      have e0 : xs.getD n 0 = xs[n] := by simp [List.getD_eq_getElem?_getD, hlt]
      have hc1 : clampK xs[n] = 254 := by simp only [clampK]; rw [if_pos (by omega)]
      have hown1 : w1.ownsRow w.heap.size 5 1 v' (n + 1) (u8s (RowL xs (n + 1))) := by
        rw [rowL_succ hlt, e0]; simpa [hc1] using hown'
      have hb1 := app1_below hnx hB hown hgrow
      have hq : (xs[n] == -2) = false := by assumption
      have hne1 : ∀ j, j < n + 1 → xs.getD j 0 ≠ -2 := fun j hj => by
        by_cases hjn : j = n
        · subst hjn; rw [e0]; exact ne_of_beq_false hq
        · exact hne j (by omega)
      have hk1 : n + 1 = 0 ∨ ((n + 1 : Nat) : Int) ≤ k := .inr (by omega)
      clear hown' hgrow hown hconv hcx
      go_wp2
      go_roundw
      case rel => exact ⟨n + 1, by omega, by simp, hown1, hb1, hk1, hne1⟩
      case measure => simp [intOf]; omega
    · intro v' w1 hown' hgrow
      have hlt : n < xs.length := by assumption
      have e0 : xs.getD n 0 = xs[n] := by simp [List.getD_eq_getElem?_getD, hlt]
      have hc1 : ((clampK xs[n]).toNat : Int) = xs[n] := by simp only [clampK]; rw [if_neg (by omega)]; simp [UInt8.toNat_ofNat']; omega
      have hown1 : w1.ownsRow w.heap.size 5 1 v' (n + 1) (u8s (RowL xs (n + 1))) := by
        rw [rowL_succ hlt, e0]; simpa [hc1] using hown'
      have hb1 := app1_below hnx hB hown hgrow
      have hq : (xs[n] == -2) = false := by assumption
      have hne1 : ∀ j, j < n + 1 → xs.getD j 0 ≠ -2 := fun j hj => by
        by_cases hjn : j = n
        · subst hjn; rw [e0]; exact ne_of_beq_false hq
        · exact hne j (by omega)
      have hk1 : n + 1 = 0 ∨ ((n + 1 : Nat) : Int) ≤ k := .inr (by omega)
      clear hown' hgrow hown hconv hcx
      go_wp2
      go_roundw
      case rel => exact ⟨n + 1, by omega, by simp, hown1, hb1, hk1, hne1⟩
      case measure => simp [intOf]; omega
    · intro v' w1 hown' hgrow
      have hlt : n < xs.length := by assumption
      have e0 : xs.getD n 0 = xs[n] := by simp [List.getD_eq_getElem?_getD, hlt]
      have hc1 : clampK xs[n] = 254 := by simp only [clampK]; rw [if_pos (by omega)]
      have hown1 : w1.ownsRow w.heap.size 5 1 v' (n + 1) (u8s (RowL xs (n + 1))) := by
        rw [rowL_succ hlt, e0]; simpa [hc1] using hown'
      have hb1 := app1_below hnx hB hown hgrow
      have hq : (xs[n] == -2) = false := by assumption
      have hne1 : ∀ j, j < n + 1 → xs.getD j 0 ≠ -2 := fun j hj => by
        by_cases hjn : j = n
        · subst hjn; rw [e0]; exact ne_of_beq_false hq
        · exact hne j (by omega)
      have hk1 : n + 1 = 0 ∨ ((n + 1 : Nat) : Int) ≤ k := .inr (by omega)
      clear hown' hgrow hown hconv hcx
      go_wp2
      go_roundw
      case rel => exact ⟨n + 1, by omega, by simp, hown1, hb1, hk1, hne1⟩
      case measure => simp [intOf]; omega
    · have hge : ¬ n < xs.length := by assumption
      go_ret
      exact ⟨_, rfl, ⟨n, hn, hk, hne, .inl ⟨by simp [RowL, List.map_take], .inl (by omega)⟩⟩, by first | exact hnx | exact hnx.drew⟩

set_option maxHeartbeats 1600000 in
theorem row_nil (k : Int) (x : Option Addr) (cap : Nat) (w : World) :
    Calls Try.prog 5 #[.int .i64 k, .slice x 0 cap] w fun e w' =>
      ∃ r : List UInt8, e = .returned (.string ⟨r.toArray⟩) ∧ RowR k [] r ∧ Below w.heap.size w w' := by
  have hconv : (convert 39 9 (.slice none 0 0)).run Try.prog w = .ok (.string ⟨#[]⟩) w := conv_own (B := 0) (n := 0) (l := []) (World.ownsRow_nil _ _ _ _)
  go_enter Try.func5, Try.ntmps5
  go_wp2
  refine wp_loop_rounds 1 ?_
  rw [rounds_succ]
  go_wp2
  go_ret
  exact ⟨[], rfl, ⟨0, Nat.le_refl _, .inl rfl, fun j hj => absurd hj (Nat.not_lt_zero _), .inl ⟨rfl, .inl rfl⟩⟩, by first | exact Below.refl _ _ | exact (Below.refl _ _).drew⟩

theorem row_any (k : Int) (x : Option Addr) (cap : Nat) (xs : List Int) (w : World) (h : IntsAt w x xs) (hl : xs.length ≤ 20) :
    Calls Try.prog 5 #[.int .i64 k, .slice x xs.length cap] w fun e w' =>
      ∃ r : List UInt8, e = .returned (.string ⟨r.toArray⟩) ∧ RowR k xs r ∧ Below w.heap.size w w' := by
  rcases h with rfl | ⟨b, off, rfl, hb, hc⟩
  · exact row_nil k x cap w
  · exact row_some k b off cap xs w hb hl hc

theorem clampK_nat (y : Int) : ((clampK y).toNat : Int) = if y < 0 ∨ 254 ≤ y then 254 else y := by
  simp only [clampK]
  split
  · rfl
  · simp [UInt8.toNat_ofNat']; omega

/-- what the law asks of a row -/
theorem row_facts {k : Int} {xs : List Int} {r : List UInt8} (h : RowR k xs r) :
    (r.length : Int) ≤ max 0 k ∧ r.length ≤ xs.length ∧
    (∀ n, (hn : n < r.length) → (0 ≤ xs.getD n 0 → xs.getD n 0 < 254 → (r[n].toNat : Int) = xs.getD n 0) ∧ (xs.getD n 0 = -2 ↔ (r[n].toNat : Int) = 255) ∧
      (xs.getD n 0 ≠ -2 → xs.getD n 0 < 0 ∨ 253 < xs.getD n 0 → (r[n].toNat : Int) = 254) ∧ ((r[n].toNat : Int) = 255 → n + 1 = r.length)) ∧
    ((r.length : Int) = min (max 0 k) xs.length ∨ ∃ hn : 0 < r.length, (r[r.length - 1].toNat : Int) = 255) := by
  obtain ⟨i, hi, hk, hne, ⟨rfl, h2⟩ | ⟨h1, h2, h3, rfl⟩⟩ := h
  · have hl := rowL_length hi
    have at' : ∀ n (hn : n < (RowL xs i).length), (RowL xs i)[n] = clampK (xs.getD n 0) := fun n hn => by
      rw [hl] at hn; simp [RowL, List.getD_eq_getElem?_getD, List.getElem?_eq_getElem (show n < xs.length by omega)]
    refine ⟨by rw [hl]; omega, by rw [hl]; exact hi, fun n hn => ?_, .inl (by rw [hl]; omega)⟩
    rw [at' n hn, clampK_nat]
    have := hne n (by omega)
    split <;> refine ⟨?_, ?_, ?_, ?_⟩ <;> omega
  · have hl := rowL_length hi
    have hL : (RowL xs i ++ [(255 : UInt8)]).length = i + 1 := by rw [List.length_append, hl]; rfl
    have at' : ∀ n (hn : n < i) (hn' : n < (RowL xs i ++ [(255 : UInt8)]).length), (RowL xs i ++ [(255 : UInt8)])[n] = clampK (xs.getD n 0) := fun n hn hn' => by
      rw [List.getElem_append_left (by omega)]; simp [RowL, List.getD_eq_getElem?_getD, List.getElem?_eq_getElem (show n < xs.length by omega)]
    have last : ∀ (n : Nat) (e : n = i) (hn' : n < (RowL xs i ++ [(255 : UInt8)]).length), (RowL xs i ++ [(255 : UInt8)])[n] = 255 := fun n e hn' => by
      subst e; rw [List.getElem_append_right (by omega)]; simp [hl]
    refine ⟨by rw [hL]; omega, by rw [hL]; omega, fun n hn => ?_, .inr ⟨by omega, ?_⟩⟩
    · by_cases hni : n < i
      · rw [at' n hni hn, clampK_nat]
        have := hne n hni
        split <;> refine ⟨?_, ?_, ?_, ?_⟩ <;> omega
      · have e : n = i := by omega
        rw [last n e hn, e, h3]
        refine ⟨fun h => absurd h (by omega), ⟨fun _ => rfl, fun _ => rfl⟩, fun h => absurd rfl h, fun _ => hL.symm⟩
    · rw [last _ (by omega) (by omega)]; rfl

end Go.Proofs.Ytcoecphhjfcjcaa
