/-
  The pure side. No condition.
-/
import Derived.Test.YtdjkjpmcmpihgaaDoorClpTold
import Derived.IntWalk
import Derived.Sort.AssemblyPlain
import Derived.Sort.LotD1
set_option linter.unusedSimpArgs false
set_option linter.unusedVariables false
set_option linter.unusedSectionVars false
set_option linter.unnecessarySimpa false
noncomputable section
namespace Go.Proofs.YtdjkjpmcmpihgaaDoor.clp01
open Go Go.Proofs.YtdjkjpmcmpihgaaDoor Ax
variable [Args]


theorem w64_id {x : Int} (h1 : -9223372036854775808 ≤ x) (h2 : x < 9223372036854775808) : w64 x = x := IntWalk.i64_in _ (by omega)
theorem qod_ {x : Int} (h1 : -1000000000000 ≤ x) (h2 : x ≤ 1000000000000) : w64 x = x := w64_id (by omega) (by omega)
theorem qtk_ {i : Nat} (h : i ≤ 1000000000) : w64 ((i : Int) + 1) = ((i + 1 : Nat) : Int) := by rw [qod_ (by omega) (by omega)]; rfl
abbrev R4 := Int × Int × Int × Int
abbrev z4 : R4 := (0, 0, 0, 0)
def ltF (cf : R4 → R4 → Int) (x y : R4) : Bool := decide (cf x y < 0)
theorem qjl_ (L : List R4) (i : Nat) : L.toArray[i]! = L.getD i z4 := by
 rw [getElem!_def, List.getElem?_toArray, List.getD_eq_getElem?_getD]
 cases L[i]? <;> rfl
def sw (L : List R4) (i j : Nat) : List R4 := (L.set i (L.getD j z4)).set j (L.getD i z4)
theorem qqh_ {L : List R4} {i j : Nat} : (sw L i j).length = L.length := by unfold sw; simp
theorem qnh_ (L : List R4) (i j : Nat) : Go.Sort.swp L.toArray i j = (sw L i j).toArray := by
 unfold Go.Sort.swp sw
 rw [qjl_, qjl_]
 simp
section
variable {n : Nat} {cf : R4 → R4 → Int} (hC : ∀ x y : R4, qd_ n x.1 x.2.1 x.2.2.1 x.2.2.2 y.1 y.2.1 y.2.2.1 y.2.2.2 = some (cf x y))
include hC
theorem ins2_ok {len c : Nat} {a b i : Nat} (hlen : len ≤ 1000000) : ∀ (N j : Nat) (L : List R4), L.length = len → j < len → j < N → ∃ M : List R4, iterM (q9_ n len c (a : Int) (b : Int) (i : Int)) N (L, (j : Int)) = some M ∧ M.length = len ∧ Go.Sort.insInner (ltF cf) a j L.toArray = M.toArray
 | 0, j, L, _, _, h => absurd h (Nat.not_lt_zero _)
 | N + 1, 0, L, hl, hj, hN => by
  refine ⟨L, ?_, hl, rfl⟩
  rw [qcv_]
  unfold q9_
  dsimp only
  rw [if_neg (by omega)]; rfl
 | N + 1, j + 1, L, hl, hj, hN => by
  have hw : w64 (((j + 1 : Nat) : Int) - 1) = (j : Int) := by rw [qod_ (by omega) (by omega)]; omega
  rw [qcv_]
  unfold q9_
  dsimp only
  unfold Go.Sort.insInner
  rw [qjl_, qjl_]
  by_cases c1 : ((j + 1 : Nat) : Int) > (a : Int)
  ·rw [if_pos c1, if_pos (by omega), if_pos (by rw [Int.toNat_natCast]; omega), Option.bind_some, hw, if_pos (by omega), if_pos (by rw [Int.toNat_natCast]; omega), Option.bind_some, Int.toNat_natCast, Int.toNat_natCast, hC, Option.bind_some]
   by_cases c2 : cf (L.getD (j + 1) z4) (L.getD j z4) < 0
   ·obtain ⟨M, h1, h2, h3⟩ := ins2_ok (c := c) (b := b) (i := i) hlen N j (sw L (j + 1) j) (by rw [qqh_]; exact hl) (by omega) (by omega)
    refine ⟨M, ?_, h2, ?_⟩
    ·rw [if_pos c2, if_pos (by rw [List.length_set]; omega), Option.bind_some]
     exact h1
    ·rw [if_pos (by rw [Bool.and_eq_true]; exact ⟨decide_eq_true (by omega), decide_eq_true c2⟩), qnh_]
     exact h3
   ·refine ⟨L, ?_, hl, ?_⟩
    ·rw [if_neg c2]; rfl
    ·rw [if_neg]
     intro h
     rw [Bool.and_eq_true] at h
     exact c2 (of_decide_eq_true h.2)
  ·refine ⟨L, ?_, hl, ?_⟩
   ·rw [if_neg c1]; rfl
   ·rw [if_neg]
    intro h
    rw [Bool.and_eq_true] at h
    have := of_decide_eq_true h.1
    omega
theorem ins1_ok {len c : Nat} {a b : Nat} (hlen : len ≤ 1000000) (hn : len < n) (hb : b ≤ len) : ∀ (N i : Nat) (L : List R4), L.length = len → i ≤ len + 1 → len + 1 - i < N → ∃ M : List R4, iterM (qb1_ n len c (a : Int) (b : Int)) N (L, (i : Int)) = some M ∧ M.length = len ∧ Go.Sort.insOuter (ltF cf) a b i L.toArray = M.toArray
 | 0, i, L, _, _, h => absurd h (Nat.not_lt_zero _)
 | N + 1, i, L, hl, hi, hN => by
  rw [qcv_]
  unfold qb1_
  dsimp only
  unfold Go.Sort.insOuter
  by_cases c1 : i < b
  ·obtain ⟨M1, g1, g2, g3⟩ := ins2_ok hC (c := c) (a := a) (b := b) (i := i) hlen n i L hl (by omega) (by omega)
   obtain ⟨M, h1, h2, h3⟩ := ins1_ok (c := c) (a := a) hlen hn hb N (i + 1) M1 g2 (by omega) (by omega)
   refine ⟨M, ?_, h2, ?_⟩
   ·have g1 : qea_ n len c (a : Int) (b : Int) (i : Int) (L, (i : Int)) = some M1 := g1
    rw [if_pos (by omega), g1, Option.bind_some, qod_ (by omega) (by omega)]
    exact h1
   ·rw [if_pos c1, g3]; exact h3
  ·refine ⟨L, ?_, hl, by rw [if_neg c1]⟩
   rw [if_neg (by omega)]; rfl
theorem insertion_ok {len c : Nat} {a b : Nat} (hlen : len ≤ 1000000) (hn : len + 2 < n) (hab : a ≤ b) (hb : b ≤ len) (L : List R4) (hl : L.length = len) : ∃ M : List R4, qdh_ n L len c (a : Int) (b : Int) = some M ∧ M.length = len ∧ Go.Sort.insertionSort (ltF cf) L.toArray a b = M.toArray := by
 obtain ⟨M, h1, h2, h3⟩ := ins1_ok hC (c := c) (a := a) hlen (by omega) hb n (a + 1) L hl (by omega) (by omega)
 refine ⟨M, ?_, h2, h3⟩
 have h1 : qeb_ n len c (a : Int) (b : Int) (L, ((a + 1 : Nat) : Int)) = some M := h1
 unfold qdh_
 rw [qod_ (by omega) (by omega), show (a : Int) + 1 = ((a + 1 : Nat) : Int) from rfl, h1]; rfl
end


theorem qcw_ {x : Int} {k : Nat} (h : x = (k : Int)) (hk : k ≤ 1000000000) : w64 x = (k : Int) := by rw [h]; exact qod_ (by omega) (by omega)
section
variable {n : Nat} {cf : R4 → R4 → Int} (hC : ∀ x y : R4, qd_ n x.1 x.2.1 x.2.2.1 x.2.2.2 y.1 y.2.1 y.2.2.1 y.2.2.2 = some (cf x y))
include hC
theorem sift1_ok {len c hi first : Nat} (hlen : len ≤ 1000000) (hf : first + hi ≤ len) : ∀ (N root : Nat) (L : List R4), L.length = len → root ≤ len → len + 1 - root ≤ N → 0 < N → ∃ M : List R4,
  (iterM (qy_ n len c (hi : Int) (first : Int)) N (L, (root : Int)) = some (.inl M) ∨ iterM (qy_ n len c (hi : Int) (first : Int)) N (L, (root : Int)) = some (.inr M)) ∧ M.length = len ∧ Go.Sort.siftDown (ltF cf) hi first root L.toArray = M.toArray
 | 0, root, L, _, _, _, h => absurd h (Nat.lt_irrefl _)
 | N + 1, root, L, hl, hr, hN, _ => by
  have e1 : w64 (w64 ((2 : Int) * (root : Int)) + 1) = ((2 * root + 1 : Nat) : Int) := by
   rw [qcw_ (x := (2 : Int) * (root : Int)) (k := 2 * root) (by omega) (by omega), qcw_ (x := ((2 * root : Nat) : Int) + 1) (k := 2 * root + 1) (by omega) (by omega)]
  rw [qcv_]
  unfold qy_
  dsimp only
  rw [e1, Option.bind_some]
  unfold Go.Sort.siftDown
  simp only [qjl_]
  by_cases c1 : 2 * root + 1 ≥ hi
  ·refine ⟨L, .inl ?_, hl, by rw [dif_pos c1]⟩
   rw [if_pos (by omega)]; rfl
  ·rw [dif_neg c1, if_neg (by omega)]
   have e2 : w64 (((2 * root + 1 : Nat) : Int) + 1) = ((2 * root + 2 : Nat) : Int) := qcw_ (by omega) (by omega)
   have e3 : w64 ((first : Int) + ((2 * root + 1 : Nat) : Int)) = ((first + (2 * root + 1) : Nat) : Int) := qcw_ (by omega) (by omega)
   have e4 : w64 ((first : Int) + (root : Int)) = ((first + root : Nat) : Int) := qcw_ (by omega) (by omega)
   have e5 : w64 (((first + (2 * root + 1) : Nat) : Int) + 1) = ((first + (2 * root + 1) + 1 : Nat) : Int) := qcw_ (by omega) (by omega)
   have e6 : w64 ((first : Int) + ((2 * root + 2 : Nat) : Int)) = ((first + (2 * root + 2) : Nat) : Int) := qcw_ (by omega) (by omega)
   simp only [e2, e3, e4, e5, e6, Int.toNat_natCast]
   -- the kid that is compared: k
   have fin : ∀ k : Nat, k < hi → k = 2 * root + 1 ∨ k = 2 * root + 2 → ∃ M : List R4,
     ((if cf (L.getD (first + root) z4) (L.getD (first + k) z4) < 0 then iterM (qy_ n len c (hi : Int) (first : Int)) N (sw L (first + root) (first + k), (k : Int)) else some (.inr L)) = some (.inl M) ∨ (if cf (L.getD (first + root) z4) (L.getD (first + k) z4) < 0 then iterM (qy_ n len c (hi : Int) (first : Int)) N (sw L (first + root) (first + k), (k : Int)) else some (.inr L)) = some (.inr M)) ∧ M.length = len ∧
     (if (!ltF cf (L.getD (first + root) z4) (L.getD (first + k) z4)) = true then L.toArray else Go.Sort.siftDown (ltF cf) hi first k (Go.Sort.swp L.toArray (first + root) (first + k))) = M.toArray := fun k hk hkk => by
    by_cases c3 : cf (L.getD (first + root) z4) (L.getD (first + k) z4) < 0
    ·obtain ⟨M, h1, h2, h3⟩ := sift1_ok (c := c) hlen hf N k (sw L (first + root) (first + k)) (by rw [qqh_]; exact hl) (by omega) (by omega) (by omega)
     refine ⟨M, by rw [if_pos c3]; exact h1, h2, ?_⟩
     rw [if_neg (by unfold ltF; rw [decide_eq_true c3]; simp), qnh_]
     exact h3
    ·exact ⟨L, .inr (by rw [if_neg c3]), hl, by rw [if_pos (by unfold ltF; rw [decide_eq_false c3]; rfl)]⟩
   have hset : ∀ (i j : Nat) (v : R4), j < len → j < (L.set i v).length := fun i j v hj => by rw [List.length_set]; omega
   by_cases c2 : 2 * root + 2 < hi
   ·rw [if_pos (by omega), if_pos (by omega), if_pos (by omega), Option.bind_some, Option.bind_some, if_pos (by omega), if_pos (by omega), Option.bind_some, hC, Option.bind_some]
    simp only [Int.toNat_natCast]
    by_cases c4 : cf (L.getD (first + (2 * root + 1)) z4) (L.getD (first + (2 * root + 1) + 1) z4) < 0
    ·obtain ⟨M, h1, h2, h3⟩ := fin (2 * root + 2) c2 (.inr rfl)
     refine ⟨M, ?_, h2, ?_⟩
     ·rw [if_pos c4, if_pos (by omega), if_pos (by omega), Option.bind_some, Option.bind_some, if_pos (by omega), if_pos (by omega), Option.bind_some, hC, Option.bind_some]
      simp only [Int.toNat_natCast]
      by_cases c5 : cf (L.getD (first + root) z4) (L.getD (first + (2 * root + 2)) z4) < 0
      ·rw [if_pos c5] at h1
       rw [if_pos c5, if_pos (hset _ _ _ (by omega))]
       exact h1
      ·rw [if_neg c5] at h1
       rw [if_neg c5]
       exact h1
     ·rw [if_pos (by rw [Bool.and_eq_true]; exact ⟨decide_eq_true (by omega), decide_eq_true c4⟩)]
      simp only [dif_pos c2]
      exact h3
    ·obtain ⟨M, h1, h2, h3⟩ := fin (2 * root + 1) (by omega) (.inl rfl)
     refine ⟨M, ?_, h2, ?_⟩
     ·rw [if_neg c4, if_pos (by omega), if_pos (by omega), Option.bind_some, hC, Option.bind_some]
      by_cases c5 : cf (L.getD (first + root) z4) (L.getD (first + (2 * root + 1)) z4) < 0
      ·rw [if_pos c5] at h1
       rw [if_pos c5, if_pos (hset _ _ _ (by omega))]
       exact h1
      ·rw [if_neg c5] at h1
       rw [if_neg c5]
       exact h1
     ·rw [if_neg (by rw [Bool.and_eq_true]; exact fun h => c4 (of_decide_eq_true h.2))]
      exact h3
   ·obtain ⟨M, h1, h2, h3⟩ := fin (2 * root + 1) (by omega) (.inl rfl)
    refine ⟨M, ?_, h2, ?_⟩
    ·rw [if_neg (by omega), if_pos (by omega), if_pos (by omega), Option.bind_some, if_pos (by omega), if_pos (by omega), Option.bind_some, hC, Option.bind_some]
     by_cases c5 : cf (L.getD (first + root) z4) (L.getD (first + (2 * root + 1)) z4) < 0
     ·rw [if_pos c5] at h1
      rw [if_pos c5, if_pos (hset _ _ _ (by omega))]
      exact h1
     ·rw [if_neg c5] at h1
      rw [if_neg c5]
      exact h1
    ·rw [if_neg (by rw [Bool.and_eq_true]; exact fun h => c2 (of_decide_eq_true h.1))]
     exact h3
end


section
variable {n : Nat} {cf : R4 → R4 → Int} (hC : ∀ x y : R4, qd_ n x.1 x.2.1 x.2.2.1 x.2.2.2 y.1 y.2.1 y.2.2.1 y.2.2.2 = some (cf x y))
include hC
theorem sift_ok {len c hi first root : Nat} (hlen : len ≤ 1000000) (hn : len + 2 < n) (hf : first + hi ≤ len) (hr : root ≤ len) (L : List R4) (hl : L.length = len) : ∃ M : List R4, qcf_ n L len c (root : Int) (hi : Int) (first : Int) = some M ∧ M.length = len ∧ Go.Sort.siftDown (ltF cf) hi first root L.toArray = M.toArray := by
 obtain ⟨M, h1, h2, h3⟩ := sift1_ok hC (c := c) hlen hf n root L hl hr (by omega) (by omega)
 refine ⟨M, ?_, h2, h3⟩
 have h1 : qdm_ n len c (hi : Int) (first : Int) (L, (root : Int)) = some (.inl M) ∨ qdm_ n len c (hi : Int) (first : Int) (L, (root : Int)) = some (.inr M) := h1
 unfold qcf_
 rcases h1 with h1 | h1 <;> rw [h1]
theorem build_ok {len c hi first : Nat} (hlen : len ≤ 1000000) (hn : len + 2 < n) (hf : first + hi ≤ len) : ∀ (N k : Nat) (L : List R4), L.length = len → k ≤ len + 1 → k < N → ∃ M : List R4, iterM (qb4_ n len c (first : Int) (hi : Int)) N (L, (k : Int) - 1) = some M ∧ M.length = len ∧ Go.Sort.heapBuild (ltF cf) hi first k L.toArray = M.toArray
 | 0, k, L, _, _, h => absurd h (Nat.not_lt_zero _)
 | N + 1, 0, L, hl, _, _ => by
  refine ⟨L, ?_, hl, rfl⟩
  rw [qcv_]
  unfold qb4_
  dsimp only
  rw [if_neg (by omega)]; rfl
 | N + 1, k + 1, L, hl, hk, hN => by
  obtain ⟨M1, g1, g2, g3⟩ := sift_ok hC (c := c) (hi := hi) (first := first) (root := k) hlen hn hf (by omega) L hl
  obtain ⟨M, h1, h2, h3⟩ := build_ok (c := c) hlen hn hf N k M1 g2 (by omega) (by omega)
  refine ⟨M, ?_, h2, ?_⟩
  ·rw [qcv_]
   unfold qb4_
   dsimp only
   have e : ((k + 1 : Nat) : Int) - 1 = (k : Int) := by omega
   rw [e, if_pos (by omega), g1, Option.bind_some, qod_ (by omega) (by omega)]
   exact h1
  ·unfold Go.Sort.heapBuild
   rw [g3]; exact h3
theorem pop_ok {len c first : Nat} (hlen : len ≤ 1000000) (hn : len + 2 < n) : ∀ (N k : Nat) (L : List R4), L.length = len → first + k ≤ len → k < N → ∃ M : List R4, iterM (qb5_ n len c (first : Int)) N (L, (k : Int) - 1) = some M ∧ M.length = len ∧ Go.Sort.heapPop (ltF cf) first k L.toArray = M.toArray
 | 0, k, L, _, _, h => absurd h (Nat.not_lt_zero _)
 | N + 1, 0, L, hl, _, _ => by
  refine ⟨L, ?_, hl, rfl⟩
  rw [qcv_]
  unfold qb5_
  dsimp only
  rw [if_neg (by omega)]; rfl
 | N + 1, k + 1, L, hl, hk, hN => by
  obtain ⟨M1, g1, g2, g3⟩ := sift_ok hC (c := c) (hi := k) (first := first) (root := 0) hlen hn (by omega) (by omega) (sw L first (first + k)) (by rw [qqh_]; exact hl)
  obtain ⟨M, h1, h2, h3⟩ := pop_ok (c := c) (first := first) hlen hn N k M1 g2 (by omega) (by omega)
  refine ⟨M, ?_, h2, ?_⟩
  ·rw [qcv_]
   unfold qb5_
   dsimp only
   have e : ((k + 1 : Nat) : Int) - 1 = (k : Int) := by omega
   have e2 : w64 ((first : Int) + (k : Int)) = ((first + k : Nat) : Int) := qcw_ (by omega) (by omega)
   rw [e, e2, if_pos (by omega), if_pos (by omega), if_pos (by omega), Option.bind_some, if_pos (by omega), if_pos (by omega), Option.bind_some, if_pos (by rw [List.length_set]; omega)]
   simp only [Int.toNat_natCast]
   have g1 : qcf_ n ((L.set first (L.getD (first + k) (0, 0, 0, 0))).set (first + k) (L.getD first (0, 0, 0, 0))) len c 0 (k : Int) (first : Int) = some M1 := g1
   rw [g1, Option.bind_some, qod_ (by omega) (by omega)]
   exact h1
  ·unfold Go.Sort.heapPop
   rw [qnh_, g3]; exact h3
theorem heap_ok {len c a b : Nat} (hlen : len ≤ 1000000) (hn : len + 2 < n) (hab : a ≤ b) (hb : b ≤ len) (L : List R4) (hl : L.length = len) : ∃ M : List R4, qdt_ n L len c (a : Int) (b : Int) = some M ∧ M.length = len ∧ Go.Sort.heapSort (ltF cf) L.toArray a b = M.toArray := by
 obtain ⟨M1, g1, g2, g3⟩ := build_ok hC (c := c) (hi := b - a) (first := a) hlen hn (by omega) n ((b - a - 1) / 2 + 1) L hl (by omega) (by omega)
 obtain ⟨M, h1, h2, h3⟩ := pop_ok hC (c := c) (first := a) hlen hn n (b - a) M1 g2 (by omega) (by omega)
 refine ⟨M, ?_, h2, by unfold Go.Sort.heapSort; rw [g3]; exact h3⟩
 have e1 : w64 ((b : Int) - (a : Int)) = ((b - a : Nat) : Int) := qcw_ (by omega) (by omega)
 have e2 : w64 (((b - a : Nat) : Int) - 1) = ((b - a : Nat) : Int) - 1 := qod_ (by omega) (by omega)
 have e3 : IntKind.i64.wrap (Int.tdiv (((b - a : Nat) : Int) - 1) 2) = (((b - a - 1) / 2 + 1 : Nat) : Int) - 1 := by
  have : Int.tdiv (((b - a : Nat) : Int) - 1) 2 = (((b - a - 1) / 2 + 1 : Nat) : Int) - 1 := by
   rcases Nat.eq_zero_or_pos (b - a) with h | h
   ·rw [h]; rfl
   ·rw [Int.tdiv_eq_ediv_of_nonneg (by omega)]
    omega
  rw [this]
  exact qod_ (by omega) (by omega)
 have g1 : qfk_ n len c (a : Int) ((b - a : Nat) : Int) (L, (((b - a - 1) / 2 + 1 : Nat) : Int) - 1) = some M1 := g1
 have h1 : qfl_ n len c (a : Int) (M1, ((b - a : Nat) : Int) - 1) = some M := h1
 unfold qdt_
 rw [if_pos (by decide), e1, e2, e3, g1, Option.bind_some, h1]; rfl
theorem o1_ok {len c a b s : Nat} {L : List R4} (hl : L.length = len) (ha : a < len) (hb : b < len) (hs : s ≤ 1000) : qdy_ n L len c (a : Int) (b : Int) (s : Int) = some ([((Go.Sort.order2 (ltF cf) L.toArray a b s).2.2 : Int)], ((Go.Sort.order2 (ltF cf) L.toArray a b s).1 : Int), ((Go.Sort.order2 (ltF cf) L.toArray a b s).2.1 : Int)) := by
 unfold qdy_ Go.Sort.order2
 rw [qjl_, qjl_]
 rw [if_pos (by omega), if_pos (by omega), Option.bind_some, if_pos (by omega), if_pos (by omega), Option.bind_some, hC, Option.bind_some, Int.toNat_natCast, Int.toNat_natCast]
 by_cases h : cf (L.getD b z4) (L.getD a z4) < 0
 ·rw [if_pos h, if_pos (show ltF cf _ _ = true from decide_eq_true h), qcw_ (k := s + 1) (by omega) (by omega)]
 ·rw [if_neg h, if_neg (by unfold ltF; rw [decide_eq_false h]; simp)]
theorem o2_ok {len c a b s : Nat} {L : List R4} (hl : L.length = len) (ha : a < len) (hb : b < len) (hs : s ≤ 1000) : qbh_ n L len c (a : Int) (b : Int) [(s : Int)] = some ([((Go.Sort.order2 (ltF cf) L.toArray a b s).2.2 : Int)], ((Go.Sort.order2 (ltF cf) L.toArray a b s).1 : Int), ((Go.Sort.order2 (ltF cf) L.toArray a b s).2.1 : Int)) := by
 unfold qbh_ Go.Sort.order2
 rw [qjl_, qjl_]
 rw [if_pos (by omega), if_pos (by omega), Option.bind_some, if_pos (by omega), if_pos (by omega), Option.bind_some, hC, Option.bind_some, Int.toNat_natCast, Int.toNat_natCast]
 by_cases h : cf (L.getD b z4) (L.getD a z4) < 0
 ·rw [if_pos h, if_pos (show ltF cf _ _ = true from decide_eq_true h), if_pos (by simp), Option.bind_some]
  show some ([w64 ((s : Int) + 1)], (b : Int), (a : Int)) = _
  rw [qcw_ (k := s + 1) (by omega) (by omega)]
 ·rw [if_neg h, if_neg (by unfold ltF; rw [decide_eq_false h]; simp)]
end
theorem ord_lt {lt : R4 → R4 → Bool} {d : Array R4} {a b s len : Nat} (ha : a < len) (hb : b < len) : (Go.Sort.order2 lt d a b s).1 < len ∧ (Go.Sort.order2 lt d a b s).2.1 < len ∧ (Go.Sort.order2 lt d a b s).2.2 ≤ s + 1 := by
 unfold Go.Sort.order2
 split
 ·exact ⟨hb, ha, Nat.le_refl _⟩
 ·exact ⟨ha, hb, Nat.le_succ _⟩
theorem med_lt {lt : R4 → R4 → Bool} {d : Array R4} {a b c s len : Nat} (ha : a < len) (hb : b < len) (hc : c < len) : (Go.Sort.median lt d a b c s).1 < len ∧ (Go.Sort.median lt d a b c s).2 ≤ s + 3 := by
 unfold Go.Sort.median
 dsimp only
 have h1 := ord_lt (lt := lt) (d := d) (s := s) ha hb
 have h2 := ord_lt (lt := lt) (d := d) (s := (Go.Sort.order2 lt d a b s).2.2) h1.2.1 hc
 have h3 := ord_lt (lt := lt) (d := d) (s := (Go.Sort.order2 lt d (Go.Sort.order2 lt d a b s).2.1 c (Go.Sort.order2 lt d a b s).2.2).2.2) h1.1 h2.1
 exact ⟨h3.2.1, by omega⟩
section
variable {n : Nat} {cf : R4 → R4 → Int} (hC : ∀ x y : R4, qd_ n x.1 x.2.1 x.2.2.1 x.2.2.2 y.1 y.2.1 y.2.2.1 y.2.2.2 = some (cf x y))
include hC
theorem m1_ok {len c a b d s : Nat} {L : List R4} (hl : L.length = len) (ha : a < len) (hb : b < len) (hd : d < len) (hs : s ≤ 900) : qc3_ n L len c (a : Int) (b : Int) (d : Int) (s : Int) = some ([((Go.Sort.median (ltF cf) L.toArray a b d s).2 : Int)], ((Go.Sort.median (ltF cf) L.toArray a b d s).1 : Int)) := by
 have h1 := ord_lt (lt := ltF cf) (d := L.toArray) (s := s) ha hb
 have h2 := ord_lt (lt := ltF cf) (d := L.toArray) (s := (Go.Sort.order2 (ltF cf) L.toArray a b s).2.2) h1.2.1 hd
 unfold qc3_ Go.Sort.median
 rw [o1_ok hC hl ha hb (by omega)]
 dsimp only [Option.bind_some]
 rw [o2_ok hC hl h1.2.1 hd (by omega)]
 dsimp only [Option.bind_some]
 rw [o2_ok hC hl h1.1 h2.1 (by omega)]
 rfl
theorem m2_ok {len c a b d s : Nat} {L : List R4} (hl : L.length = len) (ha : a < len) (hb : b < len) (hd : d < len) (hs : s ≤ 900) : qdl_ n L len c (a : Int) (b : Int) (d : Int) [(s : Int)] = some ([((Go.Sort.median (ltF cf) L.toArray a b d s).2 : Int)], ((Go.Sort.median (ltF cf) L.toArray a b d s).1 : Int)) := by
 have h1 := ord_lt (lt := ltF cf) (d := L.toArray) (s := s) ha hb
 have h2 := ord_lt (lt := ltF cf) (d := L.toArray) (s := (Go.Sort.order2 (ltF cf) L.toArray a b s).2.2) h1.2.1 hd
 unfold qdl_ Go.Sort.median
 rw [o2_ok hC hl ha hb (by omega)]
 dsimp only [Option.bind_some]
 rw [o2_ok hC hl h1.2.1 hd (by omega)]
 dsimp only [Option.bind_some]
 rw [o2_ok hC hl h1.1 h2.1 (by omega)]
 rfl
end


theorem rev1_ok {n len c : Nat} (hlen : len ≤ 1000000) : ∀ (N i j : Nat) (L : List R4), L.length = len → i ≤ len → j < len + 1 → (i < j → j < len) → j - i < N → ∃ M : List R4, iterM (qcd_ n len c) N (L, (i : Int), (j : Int)) = some M ∧ M.length = len ∧ Go.Sort.reverseLoop i j L.toArray = M.toArray
 | 0, i, j, L, _, _, _, _, h => absurd h (Nat.not_lt_zero _)
 | N + 1, i, j, L, hl, hi, hj, hij, hN => by
  rw [qcv_]
  unfold qcd_
  dsimp only
  unfold Go.Sort.reverseLoop
  by_cases c1 : i < j
  ·have hj2 := hij c1
   obtain ⟨M, h1, h2, h3⟩ := rev1_ok (n := n) (c := c) hlen N (i + 1) (j - 1) (sw L i j) (by rw [qqh_]; exact hl) (by omega) (by omega) (by omega) (by omega)
   refine ⟨M, ?_, h2, ?_⟩
   ·rw [if_pos (by omega), if_pos (by omega), if_pos (by omega), Option.bind_some, if_pos (by omega), if_pos (by omega), Option.bind_some, if_pos (by rw [List.length_set]; omega)]
    simp only [Int.toNat_natCast]
    rw [qcw_ (x := (i : Int) + 1) (k := i + 1) (by omega) (by omega), qcw_ (x := (j : Int) - 1) (k := j - 1) (by omega) (by omega)]
    exact h1
   ·rw [if_pos c1, qnh_]; exact h3
  ·exact ⟨L, by rw [if_neg (by omega)]; rfl, hl, by rw [if_neg c1]⟩
theorem reverse_ok {n len c a b : Nat} (hlen : len ≤ 1000000) (hn : len + 2 < n) (hab : a < b) (hb : b ≤ len) (L : List R4) (hl : L.length = len) : ∃ M : List R4, qdj_ n L len c (a : Int) (b : Int) = some M ∧ M.length = len ∧ Go.Sort.reverseRange L.toArray a b = M.toArray := by
 obtain ⟨M, h1, h2, h3⟩ := rev1_ok (n := n) (c := c) hlen n a (b - 1) L hl (by omega) (by omega) (by omega) (by omega)
 refine ⟨M, ?_, h2, h3⟩
 have h1 : qeh_ n len c (L, (a : Int), ((b - 1 : Nat) : Int)) = some M := h1
 unfold qdj_
 rw [qcw_ (x := (b : Int) - 1) (k := b - 1) (by omega) (by omega), h1]; rfl
def hintI : Go.Sort.Hint → Int
 | .unknown => 0
 | .increasing => 1
 | .decreasing => 2
section
variable {n : Nat} {cf : R4 → R4 → Int} (hC : ∀ x y : R4, qd_ n x.1 x.2.1 x.2.2.1 x.2.2.2 y.1 y.2.1 y.2.2.1 y.2.2.2 = some (cf x y))
include hC
theorem pivot_ok {len c a b : Nat} (hlen : len ≤ 1000000) (hab : a < b) (hb : b ≤ len) {L : List R4} (hl : L.length = len) : qdk_ n L len c (a : Int) (b : Int) = some (((Go.Sort.choosePivot (ltF cf) L.toArray a b).1 : Int), hintI (Go.Sort.choosePivot (ltF cf) L.toArray a b).2) := by
 have e0 : w64 ((b : Int) - (a : Int)) = ((b - a : Nat) : Int) := qcw_ (by omega) (by omega)
 have e1 : IntKind.i64.wrap (Int.tdiv ((b - a : Nat) : Int) 4) = (((b - a) / 4 : Nat) : Int) := by
  rw [show Int.tdiv ((b - a : Nat) : Int) 4 = (((b - a) / 4 : Nat) : Int) from rfl]
  exact qod_ (by omega) (by omega)
 have e2 : ∀ k : Nat, k ≤ 3 → w64 ((((b - a) / 4 : Nat) : Int) * (k : Int)) = (((b - a) / 4 * k : Nat) : Int) := fun k hk => by
  have : (b - a) / 4 * k ≤ 3000000 := by
   have : (b - a) / 4 * k ≤ (b - a) / 4 * 3 := Nat.mul_le_mul_left _ hk
   omega
  exact qcw_ (by rw [Int.natCast_mul]) (by omega)
 have e3 : ∀ x : Nat, x ≤ 3000000 → w64 ((a : Int) + (x : Int)) = ((a + x : Nat) : Int) := fun x hx => qcw_ (by omega) (by omega)
 have d1 := e2 1 (by omega)
 have d2 := e2 2 (by omega)
 have d3 := e2 3 (by omega)
 unfold qdk_ Go.Sort.choosePivot
 dsimp only
 rw [if_pos (by decide), e0, e1, show (1 : Int) = ((1 : Nat) : Int) from rfl, show (2 : Int) = ((2 : Nat) : Int) from rfl, show (3 : Int) = ((3 : Nat) : Int) from rfl, d1, d2, d3]
 dsimp only [Option.bind_some]
 rw [e3 _ (by omega), e3 _ (by omega), e3 _ (by omega)]
 have fin : ∀ r : Nat × Nat, (if 0 < [(r.2 : Int)].length then
   ((some ([(r.2 : Int)].getD 0 0))).bind fun c9_ =>
   if c9_ = (0 : Int) then some ((r.1 : Int), ((1 : Nat) : Int)) else if c9_ = (12 : Int) then some ((r.1 : Int), ((2 : Nat) : Int)) else some ((r.1 : Int), (0 : Int))
  else none) = some ((r.1 : Int), hintI (if r.2 = 0 then .increasing else if r.2 = 12 then .decreasing else .unknown)) := fun r => by
  rw [if_pos (by simp), Option.bind_some]
  rw [show [(r.2 : Int)].getD 0 0 = (r.2 : Int) from rfl]
  by_cases h : r.2 = 0
  ·rw [if_pos (by omega), if_pos h]; rfl
  ·rw [if_neg (by omega), if_neg h]
   by_cases h2 : r.2 = 12
   ·rw [if_pos (by omega), if_pos h2]; rfl
   ·rw [if_neg (by omega), if_neg h2]; rfl
 by_cases c1 : b - a ≥ 8
 ·rw [if_pos (by omega), if_pos c1]
  by_cases c2 : b - a ≥ 50
  ·rw [if_pos (by omega), if_pos c2]
   have adj1 : ∀ i s : Nat, 1 ≤ i → i + 1 < len → s ≤ 900 → qb9_ n L len c (i : Int) (s : Int) = some ([((Go.Sort.medianAdjacent (ltF cf) L.toArray i s).2 : Int)], ((Go.Sort.medianAdjacent (ltF cf) L.toArray i s).1 : Int)) := fun i s h1 h2 hs => by
    unfold qb9_ Go.Sort.medianAdjacent
    rw [qcw_ (x := (i : Int) - 1) (k := i - 1) (by omega) (by omega), qcw_ (x := (i : Int) + 1) (k := i + 1) (by omega) (by omega), m1_ok hC hl (by omega) (by omega) (by omega) hs]
    rfl
   have adj2 : ∀ i s : Nat, 1 ≤ i → i + 1 < len → s ≤ 900 → qca_ n L len c (i : Int) [(s : Int)] = some ([((Go.Sort.medianAdjacent (ltF cf) L.toArray i s).2 : Int)], ((Go.Sort.medianAdjacent (ltF cf) L.toArray i s).1 : Int)) := fun i s h1 h2 hs => by
    unfold qca_ Go.Sort.medianAdjacent
    rw [qcw_ (x := (i : Int) - 1) (k := i - 1) (by omega) (by omega), qcw_ (x := (i : Int) + 1) (k := i + 1) (by omega) (by omega), m2_ok hC hl (by omega) (by omega) (by omega) hs]
    rfl
   have b1 := med_lt (lt := ltF cf) (d := L.toArray) (s := 0) (len := len) (a := a + (b - a) / 4 * 1 - 1) (b := a + (b - a) / 4 * 1) (c := a + (b - a) / 4 * 1 + 1) (by omega) (by omega) (by omega)
   have b2 := med_lt (lt := ltF cf) (d := L.toArray) (s := (Go.Sort.medianAdjacent (ltF cf) L.toArray (a + (b - a) / 4 * 1) 0).2) (len := len) (a := a + (b - a) / 4 * 2 - 1) (b := a + (b - a) / 4 * 2) (c := a + (b - a) / 4 * 2 + 1) (by omega) (by omega) (by omega)
   have b3 := med_lt (lt := ltF cf) (d := L.toArray) (s := (Go.Sort.medianAdjacent (ltF cf) L.toArray (a + (b - a) / 4 * 2) (Go.Sort.medianAdjacent (ltF cf) L.toArray (a + (b - a) / 4 * 1) 0).2).2) (len := len) (a := a + (b - a) / 4 * 3 - 1) (b := a + (b - a) / 4 * 3) (c := a + (b - a) / 4 * 3 + 1) (by omega) (by omega) (by omega)
   have b1' : (Go.Sort.medianAdjacent (ltF cf) L.toArray (a + (b - a) / 4 * 1) 0).1 < len ∧ (Go.Sort.medianAdjacent (ltF cf) L.toArray (a + (b - a) / 4 * 1) 0).2 ≤ 0 + 3 := b1
   have b2' : (Go.Sort.medianAdjacent (ltF cf) L.toArray (a + (b - a) / 4 * 2) (Go.Sort.medianAdjacent (ltF cf) L.toArray (a + (b - a) / 4 * 1) 0).2).1 < len ∧ (Go.Sort.medianAdjacent (ltF cf) L.toArray (a + (b - a) / 4 * 2) (Go.Sort.medianAdjacent (ltF cf) L.toArray (a + (b - a) / 4 * 1) 0).2).2 ≤ (Go.Sort.medianAdjacent (ltF cf) L.toArray (a + (b - a) / 4 * 1) 0).2 + 3 := b2
   have b3' : (Go.Sort.medianAdjacent (ltF cf) L.toArray (a + (b - a) / 4 * 3) (Go.Sort.medianAdjacent (ltF cf) L.toArray (a + (b - a) / 4 * 2) (Go.Sort.medianAdjacent (ltF cf) L.toArray (a + (b - a) / 4 * 1) 0).2).2).1 < len ∧ (Go.Sort.medianAdjacent (ltF cf) L.toArray (a + (b - a) / 4 * 3) (Go.Sort.medianAdjacent (ltF cf) L.toArray (a + (b - a) / 4 * 2) (Go.Sort.medianAdjacent (ltF cf) L.toArray (a + (b - a) / 4 * 1) 0).2).2).2 ≤ (Go.Sort.medianAdjacent (ltF cf) L.toArray (a + (b - a) / 4 * 2) (Go.Sort.medianAdjacent (ltF cf) L.toArray (a + (b - a) / 4 * 1) 0).2).2 + 3 := b3
   have g1 := adj1 (a + (b - a) / 4 * 1) 0 (by omega) (by omega) (by omega)
   have g1 : qb9_ n L len c ((a + (b - a) / 4 * 1 : Nat) : Int) 0 = _ := g1
   rw [g1]
   dsimp only [Option.bind_some]
   rw [adj2 (a + (b - a) / 4 * 2) _ (by omega) (by omega) (by omega)]
   dsimp only [Option.bind_some]
   rw [adj2 (a + (b - a) / 4 * 3) _ (by omega) (by omega) (by omega)]
   dsimp only [Option.bind_some]
   rw [m2_ok hC hl b1'.1 b2'.1 b3'.1 (by omega)]
   dsimp only [Option.bind_some]
   exact fin _
  ·rw [if_neg (by omega), if_neg c2]
   have g := m1_ok hC (c := c) (a := a + (b - a) / 4 * 1) (b := a + (b - a) / 4 * 2) (d := a + (b - a) / 4 * 3) (s := 0) hl (by omega) (by omega) (by omega) (by omega)
   have g : qc3_ n L len c ((a + (b - a) / 4 * 1 : Nat) : Int) ((a + (b - a) / 4 * 2 : Nat) : Int) ((a + (b - a) / 4 * 3 : Nat) : Int) 0 = _ := g
   rw [g]
   dsimp only [Option.bind_some]
   exact fin _
 ·rw [if_neg (by omega), if_neg c1]
  rfl
end


section
variable {B : Int → Option (Int ⊕ Int)} {p : R4 → Bool} {L : List R4} {len : Nat}
theorem up_ok {j : Nat} (hj : j < len) (hlen : len ≤ 1000000) (h1 : ∀ i : Nat, i ≤ j → B (i : Int) = some (if p (L.getD i z4) = true then .inl ((i + 1 : Nat) : Int) else .inr (i : Int))) (h2 : ∀ i : Nat, j < i → B (i : Int) = some (.inr (i : Int))) : ∀ (N i : Nat), j + 1 - i < N → iterM B N (i : Int) = some ((Go.Sort.scanUp p L.toArray j i : Nat) : Int)
 | 0, i, h => absurd h (Nat.not_lt_zero _)
 | N + 1, i, h => by
  rw [qcv_]
  unfold Go.Sort.scanUp
  rw [qjl_]
  by_cases c1 : i ≤ j
  ·rw [h1 i c1]
   by_cases c2 : p (L.getD i z4) = true
   ·rw [if_pos c2, if_pos (by rw [Bool.and_eq_true]; exact ⟨decide_eq_true c1, c2⟩)]
    exact up_ok hj hlen h1 h2 N (i + 1) (by omega)
   ·rw [if_neg c2, if_neg (by rw [Bool.and_eq_true]; exact fun h => c2 h.2)]; rfl
  ·rw [h2 i (by omega), if_neg (by rw [Bool.and_eq_true]; exact fun h => c1 (of_decide_eq_true h.1))]; rfl
theorem down_ok {i : Nat} (hi : 1 ≤ i) (hlen : len ≤ 1000000) (h1 : ∀ j : Nat, i ≤ j → j < len → B (j : Int) = some (if p (L.getD j z4) = true then .inl ((j - 1 : Nat) : Int) else .inr (j : Int))) (h2 : ∀ j : Nat, j < i → B (j : Int) = some (.inr (j : Int))) : ∀ (N j : Nat), j < len → j < N → iterM B N (j : Int) = some ((Go.Sort.scanDown p L.toArray i j : Nat) : Int)
 | 0, j, _, h => absurd h (Nat.not_lt_zero _)
 | N + 1, 0, _, h => by
  rw [qcv_]
  have := h2 0 (by omega)
  rw [show ((0 : Nat) : Int) = 0 from rfl] at this ⊢
  rw [this]; rfl
 | N + 1, j + 1, hj, h => by
  rw [qcv_]
  unfold Go.Sort.scanDown
  rw [qjl_]
  by_cases c1 : i ≤ j + 1
  ·rw [h1 (j + 1) c1 hj]
   by_cases c2 : p (L.getD (j + 1) z4) = true
   ·rw [if_pos c2, if_pos (by rw [Bool.and_eq_true]; exact ⟨decide_eq_true c1, c2⟩)]
    exact down_ok hi hlen h1 h2 N j (by omega) (by omega)
   ·rw [if_neg c2, if_neg (by rw [Bool.and_eq_true]; exact fun h => c2 h.2)]; rfl
  ·rw [h2 (j + 1) (by omega), if_neg (by rw [Bool.and_eq_true]; exact fun h => c1 (of_decide_eq_true h.1))]; rfl
end
section
variable {n : Nat} {cf : R4 → R4 → Int} (hC : ∀ x y : R4, qd_ n x.1 x.2.1 x.2.2.1 x.2.2.2 y.1 y.2.1 y.2.2.1 y.2.2.2 = some (cf x y))
include hC
theorem pu_body (B : Int → Option (Int ⊕ Int)) {len c a j : Nat} {L : List R4} (hlen : len ≤ 1000000) (hl : L.length = len) (ha : a < len) (hj : j < len)
  (hB : B = qbd_ n L len c (a : Int) (j : Int) ∨ B = qbb_ n L len c (a : Int) (j : Int)) :
  (∀ i : Nat, i ≤ j → B (i : Int) = some (if ltF cf (L.getD i z4) (L.getD a z4) = true then .inl ((i + 1 : Nat) : Int) else .inr (i : Int))) ∧ ∀ i : Nat, j < i → B (i : Int) = some (.inr (i : Int)) := by
 refine ⟨fun i hi => ?_, fun i hi => ?_⟩
 ·rcases hB with rfl | rfl
  ·unfold qbd_ ltF
   dsimp only
   rw [if_pos (by omega), if_pos (by omega), if_pos (by omega), Option.bind_some, if_pos (by omega), if_pos (by omega), Option.bind_some, hC, Option.bind_some, qcw_ (x := (i : Int) + 1) (k := i + 1) (by omega) (by omega)]
   simp only [Int.toNat_natCast, decide_eq_true_eq]
   split <;> rfl
  ·unfold qbb_ ltF
   dsimp only
   rw [if_pos (by omega), if_pos (by omega), if_pos (by omega), Option.bind_some, if_pos (by omega), if_pos (by omega), Option.bind_some, hC, Option.bind_some, qcw_ (x := (i : Int) + 1) (k := i + 1) (by omega) (by omega)]
   simp only [Int.toNat_natCast, decide_eq_true_eq]
   split <;> rfl
 ·rcases hB with rfl | rfl
  ·unfold qbd_
   dsimp only
   rw [if_neg (by omega)]
  ·unfold qbb_
   dsimp only
   rw [if_neg (by omega)]
theorem pd_body (B : Int → Option (Int ⊕ Int)) {len c a i : Nat} {L : List R4} (hlen : len ≤ 1000000) (hl : L.length = len) (ha : a < len) (hi : 1 ≤ i)
  (hB : B = qbc_ n L len c (a : Int) (i : Int) ∨ B = qba_ n L len c (a : Int) (i : Int)) :
  (∀ j : Nat, i ≤ j → j < len → B (j : Int) = some (if (!ltF cf (L.getD j z4) (L.getD a z4)) = true then .inl ((j - 1 : Nat) : Int) else .inr (j : Int))) ∧ ∀ j : Nat, j < i → B (j : Int) = some (.inr (j : Int)) := by
 refine ⟨fun j hj hjl => ?_, fun j hj => ?_⟩
 ·rcases hB with rfl | rfl
  ·unfold qbc_ ltF
   dsimp only
   rw [if_pos (by omega), if_pos (by omega), if_pos (by omega), Option.bind_some, if_pos (by omega), if_pos (by omega), Option.bind_some, hC, Option.bind_some, qcw_ (x := (j : Int) - 1) (k := j - 1) (by omega) (by omega)]
   simp only [Int.toNat_natCast, Bool.not_eq_true', decide_eq_false_iff_not]
   by_cases h : cf (L.getD j z4) (L.getD a z4) < 0
   ·rw [if_pos h, if_neg (fun k => k h)]
   ·rw [if_neg h, if_pos h]
  ·unfold qba_ ltF
   dsimp only
   rw [if_pos (by omega), if_pos (by omega), if_pos (by omega), Option.bind_some, if_pos (by omega), if_pos (by omega), Option.bind_some, hC, Option.bind_some, qcw_ (x := (j : Int) - 1) (k := j - 1) (by omega) (by omega)]
   simp only [Int.toNat_natCast, Bool.not_eq_true', decide_eq_false_iff_not]
   by_cases h : cf (L.getD j z4) (L.getD a z4) < 0
   ·rw [if_pos h, if_neg (fun k => k h)]
   ·rw [if_neg h, if_pos h]
 ·rcases hB with rfl | rfl
  ·unfold qbc_
   dsimp only
   rw [if_neg (by omega)]
  ·unfold qba_
   dsimp only
   rw [if_neg (by omega)]
end


theorem su_ge {p : R4 → Bool} {d : Array R4} {j : Nat} : ∀ (k i : Nat), j + 1 - i ≤ k → i ≤ Go.Sort.scanUp p d j i ∧ (Go.Sort.scanUp p d j i ≤ j + 1 ∨ Go.Sort.scanUp p d j i = i)
 | 0, i, h => by
  unfold Go.Sort.scanUp
  rw [if_neg (by rw [Bool.and_eq_true]; exact fun k => by have := of_decide_eq_true k.1; omega)]
  exact ⟨Nat.le_refl _, .inr rfl⟩
 | k + 1, i, h => by
  unfold Go.Sort.scanUp
  split
  ·rename_i c
   rw [Bool.and_eq_true] at c
   have c1 := of_decide_eq_true c.1
   obtain ⟨h1, h2⟩ := su_ge (p := p) (d := d) (j := j) k (i + 1) (by omega)
   exact ⟨by omega, .inl (by omega)⟩
  ·exact ⟨Nat.le_refl _, .inr rfl⟩
theorem sd_le {p : R4 → Bool} {d : Array R4} {i : Nat} : ∀ j : Nat, Go.Sort.scanDown p d i j ≤ j
 | 0 => Nat.le_refl _
 | j + 1 => by
  unfold Go.Sort.scanDown
  split
  ·have := sd_le (p := p) (d := d) (i := i) j
   omega
  ·exact Nat.le_refl _
section
variable {n : Nat} {cf : R4 → R4 → Int} (hC : ∀ x y : R4, qd_ n x.1 x.2.1 x.2.2.1 x.2.2.2 y.1 y.2.1 y.2.2.1 y.2.2.2 = some (cf x y))
include hC
theorem pl_ok {len c a : Nat} (hlen : len ≤ 1000000) (hn : len + 2 < n) (ha : a < len) : ∀ (N i j : Nat) (L : List R4), L.length = len → 1 ≤ i → i ≤ len + 1 → j < len → j + 1 - i < N → ∃ (M : List R4) (q : Nat), iterM (qcp_ n len c (a : Int)) N (L, (i : Int), (j : Int)) = some (M, (q : Int)) ∧ M.length = len ∧ q < len ∧ Go.Sort.partLoop (ltF cf) a i j L.toArray = (q, M.toArray)
 | 0, i, j, L, _, _, _, _, h => absurd h (Nat.not_lt_zero _)
 | N + 1, i, j, L, hl, hi, hi2, hj, hN => by
  obtain ⟨u1, u2⟩ := pu_body hC (qbb_ n L len c (a : Int) (j : Int)) hlen hl ha hj (.inr rfl)
  have gu : qfe_ n L len c (a : Int) (j : Int) (i : Int) = _ := up_ok (p := fun x => ltF cf x (L.getD a z4)) hj hlen u1 u2 n i (by omega)
  obtain ⟨s1, s2⟩ := su_ge (p := fun x => ltF cf x (L.getD a z4)) (d := L.toArray) (j := j) (j + 1) i (by omega)
  rw [qcv_]
  unfold qcp_
  unfold Go.Sort.partLoop
  simp only [qjl_]
  rw [gu, Option.bind_some]
  generalize Go.Sort.scanUp (fun x => ltF cf x (L.getD a z4)) L.toArray j i = i2 at s1 s2 ⊢
  obtain ⟨d1, d2⟩ := pd_body hC (qba_ n L len c (a : Int) (i2 : Int)) hlen hl ha (by omega) (.inr rfl)
  have gd : qfd_ n L len c (a : Int) (i2 : Int) (j : Int) = _ := down_ok (p := fun x => !ltF cf x (L.getD a z4)) (by omega) hlen d1 d2 n j hj (by omega)
  have t1 := sd_le (p := fun x => !ltF cf x (L.getD a z4)) (d := L.toArray) (i := i2) j
  rw [gd, Option.bind_some]
  generalize Go.Sort.scanDown (fun x => !ltF cf x (L.getD a z4)) L.toArray i2 j = j2 at t1 ⊢
  by_cases c1 : i2 > j2
  ·exact ⟨L, j2, by rw [if_pos (by omega)]; rfl, hl, by omega, by rw [if_pos c1]⟩
  ·obtain ⟨M, q, h1, h2, h3, h4⟩ := pl_ok (c := c) hlen hn ha N (i2 + 1) (j2 - 1) (sw L i2 j2) (by rw [qqh_]; exact hl) (by omega) (by omega) (by omega) (by omega)
   refine ⟨M, q, ?_, h2, h3, ?_⟩
   ·rw [if_neg (by omega), if_pos (by omega), if_pos (by omega), Option.bind_some, if_pos (by omega), if_pos (by omega), Option.bind_some, if_pos (by rw [List.length_set]; omega)]
    simp only [Int.toNat_natCast]
    rw [qcw_ (x := (i2 : Int) + 1) (k := i2 + 1) (by omega) (by omega), qcw_ (x := (j2 : Int) - 1) (k := j2 - 1) (by omega) (by omega)]
    exact h1
   ·rw [if_neg c1, dif_pos (by omega), qnh_]
    exact h4
theorem part_ok {len c a b pivot : Nat} (hlen : len ≤ 1000000) (hn : len + 2 < n) (hap : a ≤ pivot) (hpb : pivot < b) (hb : b ≤ len) (hab : a + 1 < b) (L : List R4) (hl : L.length = len) : ∃ (M : List R4) (q : Nat) (f : Bool), qdo_ n L len c (a : Int) (b : Int) (pivot : Int) = some (M, (q : Int), f) ∧ M.length = len ∧ q < len ∧ Go.Sort.partition (ltF cf) L.toArray a b pivot = (q, f, M.toArray) := by
 have ha : a < len := by omega
 unfold qdo_ Go.Sort.partition
 rw [if_pos (by omega), if_pos (by omega), Option.bind_some, if_pos (by omega), if_pos (by omega), Option.bind_some, if_pos (by rw [List.length_set]; omega)]
 rw [qnh_]
 simp only [Int.toNat_natCast]
 have hL' : (sw L a pivot).length = len := by rw [qqh_]; exact hl
 have e0 : (L.set a (L.getD pivot (0, 0, 0, 0))).set pivot (L.getD a (0, 0, 0, 0)) = sw L a pivot := rfl
 rw [e0]
 generalize sw L a pivot = L' at hL' ⊢
 rw [qcw_ (x := (b : Int) - 1) (k := b - 1) (by omega) (by omega), qcw_ (x := (a : Int) + 1) (k := a + 1) (by omega) (by omega)]
 obtain ⟨u1, u2⟩ := pu_body hC (qbd_ n L' len c (a : Int) ((b - 1 : Nat) : Int)) hlen hL' ha (by omega) (.inl rfl)
 have gu : qfh_ n L' len c (a : Int) ((b - 1 : Nat) : Int) ((a + 1 : Nat) : Int) = _ := up_ok (p := fun x => ltF cf x (L'.getD a z4)) (len := len) (by omega) hlen u1 u2 n (a + 1) (by omega)
 obtain ⟨s1, s2⟩ := su_ge (p := fun x => ltF cf x (L'.getD a z4)) (d := L'.toArray) (j := b - 1) (b + 1) (a + 1) (by omega)
 simp only [qjl_]
 rw [gu, Option.bind_some]
 generalize Go.Sort.scanUp (fun x => ltF cf x (L'.getD a z4)) L'.toArray (b - 1) (a + 1) = i2 at s1 s2 ⊢
 obtain ⟨d1, d2⟩ := pd_body hC (qbc_ n L' len c (a : Int) (i2 : Int)) hlen hL' ha (by omega) (.inl rfl)
 have gd : qfg_ n L' len c (a : Int) (i2 : Int) ((b - 1 : Nat) : Int) = _ := down_ok (p := fun x => !ltF cf x (L'.getD a z4)) (by omega) hlen d1 d2 n (b - 1) (by omega) (by omega)
 have t1 := sd_le (p := fun x => !ltF cf x (L'.getD a z4)) (d := L'.toArray) (i := i2) (b - 1)
 rw [gd, Option.bind_some]
 generalize Go.Sort.scanDown (fun x => !ltF cf x (L'.getD a z4)) L'.toArray i2 (b - 1) = j2 at t1 ⊢
 by_cases c1 : i2 > j2
 ·refine ⟨sw L' j2 a, j2, true, ?_, by rw [qqh_]; exact hL', by omega, by rw [if_pos c1, qnh_]⟩
  rw [if_pos (by omega), if_pos (by omega), Option.bind_some, if_pos (by omega), if_pos (by omega), Option.bind_some, if_pos (by rw [List.length_set]; omega)]
  rfl
 ·obtain ⟨M, q, h1, h2, h3, h4⟩ := pl_ok hC (c := c) hlen hn ha n (i2 + 1) (j2 - 1) (sw L' i2 j2) (by rw [qqh_]; exact hL') (by omega) (by omega) (by omega) (by omega)
  refine ⟨sw M q a, q, false, ?_, by rw [qqh_]; exact h2, h3, ?_⟩
  ·have h1 : qff_ n len c (a : Int) (sw L' i2 j2, ((i2 + 1 : Nat) : Int), ((j2 - 1 : Nat) : Int)) = some (M, (q : Int)) := h1
   rw [if_neg (by omega), if_pos (by omega), if_pos (by omega), Option.bind_some, if_pos (by omega), if_pos (by omega), Option.bind_some, if_pos (by rw [List.length_set]; omega)]
   simp only [Int.toNat_natCast]
   rw [qcw_ (x := (i2 : Int) + 1) (k := i2 + 1) (by omega) (by omega), qcw_ (x := (j2 : Int) - 1) (k := j2 - 1) (by omega) (by omega)]
   have e1 : (L'.set i2 (L'.getD j2 (0, 0, 0, 0))).set j2 (L'.getD i2 (0, 0, 0, 0)) = sw L' i2 j2 := rfl
   rw [e1, h1]
   dsimp only [Option.bind_some]
   rw [if_pos (by omega), if_pos (by omega), if_pos (by omega), if_pos (by rw [List.length_set]; omega)]
   rfl
  ·rw [if_neg c1]
   simp only [qnh_, h4]
end


section
variable {n : Nat} {cf : R4 → R4 → Int} (hC : ∀ x y : R4, qd_ n x.1 x.2.1 x.2.2.1 x.2.2.2 y.1 y.2.1 y.2.2.1 y.2.2.2 = some (cf x y))
include hC
theorem eu_body {len c a j : Nat} {L : List R4} (hlen : len ≤ 1000000) (hl : L.length = len) (ha : a < len) (hj : j < len) :
  (∀ i : Nat, i ≤ j → qv_ n L len c (a : Int) (j : Int) (i : Int) = some (if (!ltF cf (L.getD a z4) (L.getD i z4)) = true then .inl ((i + 1 : Nat) : Int) else .inr (i : Int))) ∧ ∀ i : Nat, j < i → qv_ n L len c (a : Int) (j : Int) (i : Int) = some (.inr (i : Int)) := by
 refine ⟨fun i hi => ?_, fun i hi => ?_⟩
 ·unfold qv_ ltF
  dsimp only
  rw [if_pos (by omega), if_pos (by omega), if_pos (by omega), Option.bind_some, if_pos (by omega), if_pos (by omega), Option.bind_some, hC, Option.bind_some, qcw_ (x := (i : Int) + 1) (k := i + 1) (by omega) (by omega)]
  simp only [Int.toNat_natCast, Bool.not_eq_true', decide_eq_false_iff_not]
  by_cases h : cf (L.getD a z4) (L.getD i z4) < 0
  ·rw [if_pos h, if_neg (fun k => k h)]
  ·rw [if_neg h, if_pos h]
 ·unfold qv_
  dsimp only
  rw [if_neg (by omega)]
theorem ed_body {len c a i : Nat} {L : List R4} (hlen : len ≤ 1000000) (hl : L.length = len) (ha : a < len) (hi : 1 ≤ i) :
  (∀ j : Nat, i ≤ j → j < len → qu_ n L len c (a : Int) (i : Int) (j : Int) = some (if ltF cf (L.getD a z4) (L.getD j z4) = true then .inl ((j - 1 : Nat) : Int) else .inr (j : Int))) ∧ ∀ j : Nat, j < i → qu_ n L len c (a : Int) (i : Int) (j : Int) = some (.inr (j : Int)) := by
 refine ⟨fun j hj hjl => ?_, fun j hj => ?_⟩
 ·unfold qu_ ltF
  dsimp only
  rw [if_pos (by omega), if_pos (by omega), if_pos (by omega), Option.bind_some, if_pos (by omega), if_pos (by omega), Option.bind_some, hC, Option.bind_some, qcw_ (x := (j : Int) - 1) (k := j - 1) (by omega) (by omega)]
  simp only [Int.toNat_natCast, decide_eq_true_eq]
  split <;> rfl
 ·unfold qu_
  dsimp only
  rw [if_neg (by omega)]
theorem el_ok {len c a : Nat} (hlen : len ≤ 1000000) (hn : len + 2 < n) (ha : a < len) : ∀ (N i j : Nat) (L : List R4), L.length = len → 1 ≤ i → i ≤ len + 1 → j < len → j + 1 - i < N → ∃ (M : List R4) (q : Nat), iterM (qbv_ n len c (a : Int)) N (L, (i : Int), (j : Int)) = some (M, (q : Int)) ∧ M.length = len ∧ q ≤ len + 1 ∧ Go.Sort.partEqLoop (ltF cf) a i j L.toArray = (q, M.toArray)
 | 0, i, j, L, _, _, _, _, h => absurd h (Nat.not_lt_zero _)
 | N + 1, i, j, L, hl, hi, hi2, hj, hN => by
  obtain ⟨u1, u2⟩ := eu_body hC (c := c) hlen hl ha hj
  have gu : qd8_ n L len c (a : Int) (j : Int) (i : Int) = _ := up_ok (p := fun x => !ltF cf (L.getD a z4) x) hj hlen u1 u2 n i (by omega)
  obtain ⟨s1, s2⟩ := su_ge (p := fun x => !ltF cf (L.getD a z4) x) (d := L.toArray) (j := j) (j + 1) i (by omega)
  rw [qcv_]
  unfold qbv_
  unfold Go.Sort.partEqLoop
  simp only [qjl_]
  rw [gu, Option.bind_some]
  generalize Go.Sort.scanUp (fun x => !ltF cf (L.getD a z4) x) L.toArray j i = i2 at s1 s2 ⊢
  obtain ⟨d1, d2⟩ := ed_body hC (c := c) (i := i2) hlen hl ha (by omega)
  have gd : qd7_ n L len c (a : Int) (i2 : Int) (j : Int) = _ := down_ok (p := fun x => ltF cf (L.getD a z4) x) (by omega) hlen d1 d2 n j hj (by omega)
  have t1 := sd_le (p := fun x => ltF cf (L.getD a z4) x) (d := L.toArray) (i := i2) j
  rw [gd, Option.bind_some]
  generalize Go.Sort.scanDown (fun x => ltF cf (L.getD a z4) x) L.toArray i2 j = j2 at t1 ⊢
  by_cases c1 : i2 > j2
  ·exact ⟨L, i2, by rw [if_pos (by omega)]; rfl, hl, by omega, by rw [if_pos c1]⟩
  ·obtain ⟨M, q, h1, h2, h3, h4⟩ := el_ok (c := c) hlen hn ha N (i2 + 1) (j2 - 1) (sw L i2 j2) (by rw [qqh_]; exact hl) (by omega) (by omega) (by omega) (by omega)
   refine ⟨M, q, ?_, h2, h3, ?_⟩
   ·rw [if_neg (by omega), if_pos (by omega), if_pos (by omega), Option.bind_some, if_pos (by omega), if_pos (by omega), Option.bind_some, if_pos (by rw [List.length_set]; omega)]
    simp only [Int.toNat_natCast]
    rw [qcw_ (x := (i2 : Int) + 1) (k := i2 + 1) (by omega) (by omega), qcw_ (x := (j2 : Int) - 1) (k := j2 - 1) (by omega) (by omega)]
    exact h1
   ·rw [if_neg c1, dif_pos (by omega), qnh_]
    exact h4
theorem parteq_ok {len c a b pivot : Nat} (hlen : len ≤ 1000000) (hn : len + 2 < n) (hap : a ≤ pivot) (hpb : pivot < b) (hb : b ≤ len) (L : List R4) (hl : L.length = len) : ∃ (M : List R4) (q : Nat), qc5_ n L len c (a : Int) (b : Int) (pivot : Int) = some (M, (q : Int)) ∧ M.length = len ∧ q ≤ len + 1 ∧ Go.Sort.partitionEqual (ltF cf) L.toArray a b pivot = (q, M.toArray) := by
 obtain ⟨M, q, h1, h2, h3, h4⟩ := el_ok hC (c := c) (a := a) hlen hn (by omega) n (a + 1) (b - 1) (sw L a pivot) (by rw [qqh_]; exact hl) (by omega) (by omega) (by omega) (by omega)
 refine ⟨M, q, ?_, h2, h3, by unfold Go.Sort.partitionEqual; rw [qnh_]; exact h4⟩
 have h1 : qd9_ n len c (a : Int) ((L.set a (L.getD pivot (0, 0, 0, 0))).set pivot (L.getD a (0, 0, 0, 0)), ((a + 1 : Nat) : Int), ((b - 1 : Nat) : Int)) = some (M, (q : Int)) := h1
 unfold qc5_
 rw [if_pos (by omega), if_pos (by omega), Option.bind_some, if_pos (by omega), if_pos (by omega), Option.bind_some, if_pos (by rw [List.length_set]; omega)]
 simp only [Int.toNat_natCast]
 rw [qcw_ (x := (b : Int) - 1) (k := b - 1) (by omega) (by omega), qcw_ (x := (a : Int) + 1) (k := a + 1) (by omega) (by omega), h1]
 rfl
theorem sorted_up {len c a b s : Nat} {L : List R4} (hlen : len ≤ 1000000) (hl : L.length = len) (hb : b ≤ len) : ∀ (N i : Nat), 1 ≤ i → i ≤ len + 1 → b - i < N → iterM (q6_ n L len c (a : Int) (b : Int) (s : Int)) N (i : Int) = some ((Go.Sort.scanSorted (ltF cf) L.toArray b i : Nat) : Int)
 | 0, i, _, _, h => absurd h (Nat.not_lt_zero _)
 | N + 1, i, h1, h2, h => by
  rw [qcv_]
  unfold Go.Sort.scanSorted q6_ ltF
  rw [qjl_, qjl_]
  dsimp only
  by_cases c1 : i < b
  ·rw [if_pos (by omega), if_pos (by omega), if_pos (by omega), Option.bind_some, qcw_ (x := (i : Int) - 1) (k := i - 1) (by omega) (by omega), if_pos (by omega), if_pos (by omega), Option.bind_some, hC, Option.bind_some, qcw_ (x := (i : Int) + 1) (k := i + 1) (by omega) (by omega)]
   simp only [Int.toNat_natCast]
   by_cases c2 : cf (L.getD i z4) (L.getD (i - 1) z4) < 0
   ·rw [if_pos c2, if_neg (by rw [Bool.and_eq_true, Bool.not_eq_true', decide_eq_false_iff_not]; exact fun h => h.2 c2)]; rfl
   ·rw [if_neg c2, if_pos (by rw [Bool.and_eq_true, Bool.not_eq_true', decide_eq_false_iff_not]; exact ⟨decide_eq_true c1, c2⟩)]
    exact sorted_up (c := c) (a := a) (s := s) hlen hl hb N (i + 1) (by omega) (by omega) (by omega)
  ·rw [if_neg (by omega), if_neg (by rw [Bool.and_eq_true]; exact fun h => c1 (of_decide_eq_true h.1))]; rfl
theorem shdown_ok {len c : Nat} {a b i s : Int} (hlen : len ≤ 1000000) : ∀ (N j : Nat) (L : List R4), L.length = len → j < len → j < N → ∃ M : List R4, iterM (qs_ n len c a b i s) N (L, (j : Int)) = some M ∧ M.length = len ∧ Go.Sort.shiftDown (ltF cf) j L.toArray = M.toArray
 | 0, j, L, _, _, h => absurd h (Nat.not_lt_zero _)
 | N + 1, 0, L, hl, hj, hN => by
  refine ⟨L, ?_, hl, rfl⟩
  rw [qcv_]
  unfold qs_
  dsimp only
  rw [if_neg (by omega)]; rfl
 | N + 1, j + 1, L, hl, hj, hN => by
  rw [qcv_]
  unfold qs_
  dsimp only
  unfold Go.Sort.shiftDown
  rw [qjl_, qjl_]
  rw [if_pos (by omega), if_pos (by omega), if_pos (by omega), Option.bind_some, qcw_ (x := ((j + 1 : Nat) : Int) - 1) (k := j) (by omega) (by omega), if_pos (by omega), if_pos (by omega), Option.bind_some, hC, Option.bind_some]
  simp only [Int.toNat_natCast]
  by_cases c2 : cf (L.getD (j + 1) z4) (L.getD j z4) < 0
  ·obtain ⟨M, h1, h2, h3⟩ := shdown_ok (c := c) (a := a) (b := b) (i := i) (s := s) hlen N j (sw L (j + 1) j) (by rw [qqh_]; exact hl) (by omega) (by omega)
   refine ⟨M, ?_, h2, ?_⟩
   ·rw [if_pos c2, if_pos (by rw [List.length_set]; omega), Option.bind_some]
    exact h1
   ·rw [if_neg (by unfold ltF; rw [decide_eq_true c2]; simp), qnh_]
    exact h3
  ·exact ⟨L, by rw [if_neg c2]; rfl, hl, by rw [if_pos (by unfold ltF; rw [decide_eq_false c2]; rfl)]⟩
theorem shup_ok {len c b : Nat} {a i s : Int} (hlen : len ≤ 1000000) (hb : b ≤ len) : ∀ (N j : Nat) (L : List R4), L.length = len → 1 ≤ j → j ≤ len + 1 → b - j < N → ∃ M : List R4, iterM (q2_ n len c a (b : Int) i s) N (L, (j : Int)) = some M ∧ M.length = len ∧ Go.Sort.shiftUp (ltF cf) b j L.toArray = M.toArray
 | 0, j, L, _, _, _, h => absurd h (Nat.not_lt_zero _)
 | N + 1, j, L, hl, hj, hj2, hN => by
  rw [qcv_]
  unfold q2_
  dsimp only
  unfold Go.Sort.shiftUp
  rw [qjl_, qjl_]
  by_cases c1 : j < b
  ·rw [if_pos (by omega), if_pos c1, if_pos (by omega), if_pos (by omega), Option.bind_some, qcw_ (x := (j : Int) - 1) (k := j - 1) (by omega) (by omega), if_pos (by omega), if_pos (by omega), Option.bind_some, hC, Option.bind_some]
   simp only [Int.toNat_natCast]
   by_cases c2 : cf (L.getD j z4) (L.getD (j - 1) z4) < 0
   ·obtain ⟨M, h1, h2, h3⟩ := shup_ok (c := c) (a := a) (i := i) (s := s) hlen hb N (j + 1) (sw L j (j - 1)) (by rw [qqh_]; exact hl) (by omega) (by omega) (by omega)
    refine ⟨M, ?_, h2, ?_⟩
    ·rw [if_pos c2, if_pos (by rw [List.length_set]; omega), Option.bind_some, qcw_ (x := (j : Int) + 1) (k := j + 1) (by omega) (by omega)]
     exact h1
    ·rw [if_neg (by unfold ltF; rw [decide_eq_true c2]; simp), qnh_]
     exact h3
   ·exact ⟨L, by rw [if_neg c2]; rfl, hl, by rw [if_pos (by unfold ltF; rw [decide_eq_false c2]; rfl)]⟩
  ·exact ⟨L, by rw [if_neg (by omega)]; rfl, hl, by rw [if_neg c1]⟩
end


theorem ss_ge {lt : R4 → R4 → Bool} {d : Array R4} {b : Nat} : ∀ (k i : Nat), b - i ≤ k → i ≤ Go.Sort.scanSorted lt d b i ∧ (Go.Sort.scanSorted lt d b i ≤ b ∨ Go.Sort.scanSorted lt d b i = i)
 | 0, i, h => by
  unfold Go.Sort.scanSorted
  rw [if_neg (by rw [Bool.and_eq_true]; exact fun k => by have := of_decide_eq_true k.1; omega)]
  exact ⟨Nat.le_refl _, .inr rfl⟩
 | k + 1, i, h => by
  unfold Go.Sort.scanSorted
  split
  ·rename_i c
   rw [Bool.and_eq_true] at c
   have c1 := of_decide_eq_true c.1
   obtain ⟨h1, h2⟩ := ss_ge (lt := lt) (d := d) (b := b) k (i + 1) (by omega)
   exact ⟨by omega, .inl (by omega)⟩
  ·exact ⟨Nat.le_refl _, .inr rfl⟩
section
variable {n : Nat} {cf : R4 → R4 → Int} (hC : ∀ x y : R4, qd_ n x.1 x.2.1 x.2.2.1 x.2.2.2 y.1 y.2.1 y.2.2.1 y.2.2.2 = some (cf x y))
include hC
theorem pins1_ok {len c a b : Nat} (hlen : len ≤ 1000000) (hn : len + 2 < n) (hb : b ≤ len) : ∀ (s i : Nat) (L : List R4) (N : Nat), L.length = len → a + 1 ≤ i → i ≤ b → s ≤ 5 → s < N → ∃ M : List R4,
  ((iterM (qm_ n len c (a : Int) (b : Int)) N (L, (i : Int), ((5 - s : Nat) : Int)) = some (.inl (M, (Go.Sort.partialIns (ltF cf) a b s i L.toArray).2))) ∨
  (iterM (qm_ n len c (a : Int) (b : Int)) N (L, (i : Int), ((5 - s : Nat) : Int)) = some (.inr M) ∧ (Go.Sort.partialIns (ltF cf) a b s i L.toArray).2 = false)) ∧ M.length = len ∧ (Go.Sort.partialIns (ltF cf) a b s i L.toArray).1 = M.toArray
 | s, i, L, 0, _, _, _, _, h => absurd h (Nat.not_lt_zero _)
 | 0, i, L, N + 1, hl, hi, hib, _, _ => by
  refine ⟨L, .inr ⟨?_, rfl⟩, hl, rfl⟩
  rw [qcv_]
  unfold qm_
  dsimp only
  rw [if_neg (by omega)]; rfl
 | s + 1, i, L, N + 1, hl, hi, hib, hs, hN => by
  have g0 : qdu_ n L len c (a : Int) (b : Int) ((5 - (s + 1) : Nat) : Int) (i : Int) = _ := sorted_up hC (c := c) (a := a) (s := 5 - (s + 1)) hlen hl hb n i (by omega) (by omega) (by omega)
  obtain ⟨s1, s2⟩ := ss_ge (lt := ltF cf) (d := L.toArray) (b := b) b i (by omega)
  rw [qcv_]
  generalize hT : iterM (qm_ n len c (a : Int) (b : Int)) N = T
  unfold qm_ Go.Sort.partialIns
  dsimp only
  rw [if_pos (by omega), g0, Option.bind_some]
  generalize Go.Sort.scanSorted (ltF cf) L.toArray b i = k at s1 s2 ⊢
  have hkb : k ≤ b := by omega
  by_cases c1 : k = b
  ·refine ⟨L, .inl ?_, hl, by rw [if_pos c1]⟩
   rw [if_pos (by omega), if_pos c1]; rfl
  ·rw [if_neg (by omega)]
   have e0 : w64 ((b : Int) - (a : Int)) = ((b - a : Nat) : Int) := qcw_ (by omega) (by omega)
   have e1 : w64 ((k : Int) - (a : Int)) = ((k - a : Nat) : Int) := qcw_ (by omega) (by omega)
   have e2 : w64 ((b : Int) - (k : Int)) = ((b - k : Nat) : Int) := qcw_ (by omega) (by omega)
   have e3 : w64 ((k : Int) - 1) = ((k - 1 : Nat) : Int) := qcw_ (by omega) (by omega)
   have e4 : w64 ((k : Int) + 1) = ((k + 1 : Nat) : Int) := qcw_ (by omega) (by omega)
   have e5 : w64 (((5 - (s + 1) : Nat) : Int) + 1) = ((5 - s : Nat) : Int) := qcw_ (by omega) (by omega)
   simp only [e0, e1, e2, e3, e4, e5, if_neg c1]
   by_cases c2 : b - a < 50
   ·refine ⟨L, .inl ?_, hl, by rw [if_pos c2]⟩
    rw [if_pos (by omega), if_pos c2]; rfl
   ·simp only [if_neg c2]
    rw [if_neg (by omega), if_pos (by omega), if_pos (by omega), Option.bind_some, if_pos (by omega), if_pos (by omega), Option.bind_some, if_pos (by rw [List.length_set]; omega), qnh_]
    simp only [Int.toNat_natCast]
    have e6 : (L.set k (L.getD (k - 1) (0, 0, 0, 0))).set (k - 1) (L.getD k (0, 0, 0, 0)) = sw L k (k - 1) := rfl
    have hS : (sw L k (k - 1)).length = len := by rw [qqh_]; exact hl
    simp only [e6]
    generalize sw L k (k - 1) = S at hS ⊢
    -- down
    have down : ∃ D : List R4, (2 ≤ k - a → qc4_ n len c (a : Int) (b : Int) (k : Int) ((5 - (s + 1) : Nat) : Int) (S, ((k - 1 : Nat) : Int)) = some D) ∧ (¬ 2 ≤ k - a → D = S) ∧ D.length = len ∧ (if k - a ≥ 2 then Go.Sort.shiftDown (ltF cf) (k - 1) S.toArray else S.toArray) = D.toArray := by
     by_cases c3 : 2 ≤ k - a
     ·obtain ⟨D, h1, h2, h3⟩ := shdown_ok hC (c := c) (a := (a : Int)) (b := (b : Int)) (i := (k : Int)) (s := ((5 - (s + 1) : Nat) : Int)) hlen n (k - 1) S hS (by omega) (by omega)
      exact ⟨D, fun _ => h1, fun h => absurd c3 h, h2, by rw [if_pos c3, h3]⟩
     ·exact ⟨S, fun h => absurd h c3, fun _ => rfl, hS, by rw [if_neg c3]⟩
    obtain ⟨D, d1, d2, d3, d4⟩ := down
    have up : ∃ U : List R4, (2 ≤ b - k → q3_ n len c (a : Int) (b : Int) (k : Int) ((5 - (s + 1) : Nat) : Int) (D, ((k + 1 : Nat) : Int)) = some U) ∧ (¬ 2 ≤ b - k → U = D) ∧ U.length = len ∧ (if b - k ≥ 2 then Go.Sort.shiftUp (ltF cf) b (k + 1) D.toArray else D.toArray) = U.toArray := by
     by_cases c3 : 2 ≤ b - k
     ·obtain ⟨U, h1, h2, h3⟩ := shup_ok hC (c := c) (b := b) (a := (a : Int)) (i := (k : Int)) (s := ((5 - (s + 1) : Nat) : Int)) hlen hb n (k + 1) D d3 (by omega) (by omega) (by omega)
      exact ⟨U, fun _ => h1, fun h => absurd c3 h, h2, by rw [if_pos c3, h3]⟩
     ·exact ⟨D, fun h => absurd h c3, fun _ => rfl, d3, by rw [if_neg c3]⟩
    obtain ⟨U, u1, u2, u3, u4⟩ := up
    rw [d4, u4]
    obtain ⟨M, h1, h2, h3⟩ := pins1_ok (c := c) (a := a) hlen hn hb s k U N u3 (by omega) (by omega) (by omega) (by omega)
    refine ⟨M, ?_, h2, h3⟩
    rw [hT] at h1
    have key : (if ((k - a : Nat) : Int) ≥ 2 then
       (qc4_ n len c (a : Int) (b : Int) (k : Int) ((5 - (s + 1) : Nat) : Int) (S, ((k - 1 : Nat) : Int))).bind fun y =>
        if ((b - k : Nat) : Int) ≥ 2 then (q3_ n len c (a : Int) (b : Int) (k : Int) ((5 - (s + 1) : Nat) : Int) (y, ((k + 1 : Nat) : Int))).bind fun z => some (Sum.inl (z, (k : Int), ((5 - s : Nat) : Int)))
        else some (Sum.inl (y, (k : Int), ((5 - s : Nat) : Int)))
      else
       if ((b - k : Nat) : Int) ≥ 2 then (q3_ n len c (a : Int) (b : Int) (k : Int) ((5 - (s + 1) : Nat) : Int) (S, ((k + 1 : Nat) : Int))).bind fun z => some (Sum.inl (z, (k : Int), ((5 - s : Nat) : Int)))
       else some (Sum.inl (S, (k : Int), ((5 - s : Nat) : Int)))) = (some (Sum.inl (U, (k : Int), ((5 - s : Nat) : Int))) : Option (List R4 × Int × Int ⊕ (List R4 × Bool) ⊕ List R4)) := by
     by_cases c3 : 2 ≤ k - a
     ·rw [if_pos (by omega), d1 c3, Option.bind_some]
      by_cases c4 : 2 ≤ b - k
      ·rw [if_pos (by omega), u1 c4]; rfl
      ·rw [if_neg (by omega), u2 c4]
     ·rw [if_neg (by omega), ← d2 c3]
      by_cases c4 : 2 ≤ b - k
      ·rw [if_pos (by omega), u1 c4]; rfl
      ·rw [if_neg (by omega), u2 c4]
    rw [key]
    exact h1
end


def one (f : Nat) : BitVec 64 := BitVec.twoPow 64 f
theorem one_get {f i : Nat} (hf : f < 64) : (one f).getLsbD i = decide (i = f) := by
 unfold one
 rw [BitVec.getLsbD_twoPow]
 by_cases h : f = i
 ·subst h; simp [hf]
 ·simp [h, Ne.symm h]
theorem u64w (m : BitVec 64) : IntKind.u64.wrap ((m.toNat : Nat) : Int) = ((m.toNat : Nat) : Int) := IntWalk.u64_in _ (by have := m.isLt; omega)
theorem ofI (m : BitVec 64) : BitVec.ofInt 64 ((m.toNat : Nat) : Int) = m := by
 rw [BitVec.ofInt_natCast, BitVec.ofNat_toNat, BitVec.setWidth_eq]
theorem ban (x y : BitVec 64) : bAnd .u64 ((x.toNat : Nat) : Int) ((y.toNat : Nat) : Int) = (((x &&& y).toNat : Nat) : Int) := by
 unfold bAnd
 rw [show IntKind.u64.bits = 64 from rfl, ofI, ofI, u64w]
theorem bor (x y : BitVec 64) : bOr .u64 ((x.toNat : Nat) : Int) ((y.toNat : Nat) : Int) = (((x ||| y).toNat : Nat) : Int) := by
 unfold bOr
 rw [show IntKind.u64.bits = 64 from rfl, ofI, ofI, u64w]
theorem shl1 {f : Nat} (hf : f < 64) : shlV .u64 (1 : Int) (f : Int) = (((one f).toNat : Nat) : Int) := by
 unfold shlV one
 rw [show IntKind.u64.bits = 64 from rfl, Int.toNat_natCast, show min f 64 = f by omega, BitVec.toNat_twoPow]
 have h1 : 2 ^ f < 2 ^ 64 := Nat.pow_lt_pow_right (by omega) hf
 rw [Nat.mod_eq_of_lt h1, show (1 : Int) * 2 ^ f = ((2 ^ f : Nat) : Int) by simp]
 generalize 2 ^ f = q at h1 ⊢
 exact IntWalk.u64_in _ (by omega)
theorem shr1 {f : Nat} (hf : f < 64) (m : BitVec 64) : shrV .u64 ((m.toNat : Nat) : Int) (f : Int) = (((m >>> f).toNat : Nat) : Int) := by
 unfold shrV
 rw [show IntKind.u64.bits = 64 from rfl, Int.toNat_natCast, show min f 64 = f by omega, BitVec.toNat_ushiftRight, Nat.shiftRight_eq_div_pow]
 rw [show ((2 : Int) ^ f) = ((2 ^ f : Nat) : Int) by simp, Int.fdiv_eq_ediv_of_nonneg _ (Int.natCast_nonneg _)]
 exact (Int.natCast_ediv _ _).symm
theorem bit1 {f : Nat} (hf : f < 64) (m : BitVec 64) : (bAnd .u64 (shrV .u64 ((m.toNat : Nat) : Int) (f : Int)) (1 : Int) = (1 : Int)) ↔ m.getLsbD f = true := by
 rw [shr1 hf, show (1 : Int) = (((1#64).toNat : Nat) : Int) from rfl, ban]
 rw [Int.ofNat_inj, BitVec.toNat_inj]
 constructor
 ·intro h
  have := congrArg (fun b => b.getLsbD 0) h
  simpa using this
 ·intro h
  apply BitVec.eq_of_getLsbD_eq
  intro i hi
  by_cases e : i = 0
  ·subst e; simpa using h
  ·simp [BitVec.getLsbD_one, e]

theorem bnot (x : BitVec 64) : bNot .u64 ((x.toNat : Nat) : Int) = (((~~~x).toNat : Nat) : Int) := by
 unfold bNot bXor
 rw [show IntKind.u64.bits = 64 from rfl, ofI, show (if IntKind.u64.signed = true then (-1 : Int) else IntKind.u64.max) = (((BitVec.allOnes 64).toNat : Nat) : Int) from rfl, ofI, u64w, BitVec.allOnes_xor]
theorem inj64 {x y : BitVec 64} : (((x.toNat : Nat) : Int) = ((y.toNat : Nat) : Int)) ↔ x = y := by
 rw [Int.ofNat_inj, BitVec.toNat_inj]
def least (X : BitVec 64) (t : Nat) : Prop := t < 64 ∧ X.getLsbD t = true ∧ ∀ j, j < t → X.getLsbD j = false
theorem neg_bit {X : BitVec 64} {t : Nat} (h : least X t) : X &&& -X = one t := by
 apply BitVec.eq_of_getLsbD_eq
 intro i hi
 rw [BitVec.getLsbD_and, BitVec.getLsbD_neg, one_get h.1]
 by_cases e : i = t
 ·subst e
  rw [h.2.1]
  simp [hi]
  exact fun j hj => h.2.2 j hj
 ·rcases Nat.lt_or_ge i t with c | c
  ·simp [h.2.2 i c, e]
  ·have : ∃ j, j < i ∧ X.getLsbD j = true := ⟨t, by omega, h.2.1⟩
   simp [e, this, hi]
theorem wrapU (x : Int) : IntKind.u64.wrap x = x % 18446744073709551616 := by simp [IntKind.wrap, IntKind.bits, IntKind.signed]
theorem neg_int (X : BitVec 64) : IntKind.u64.wrap ((0 : Int) - ((X.toNat : Nat) : Int)) = (((-X).toNat : Nat) : Int) := by
 rw [BitVec.toNat_neg, wrapU]
 have := X.isLt
 omega
def tzI (t : Nat) : Nat := 2 ^ t * 285870213051353865 % 18446744073709551616 / 288230376151711744
def tzP (t : Nat) : Bool := Nat.blt (tzI t) 64 && (match tb_deBruijn64tab.getD (tzI t) 0 with | .ofNat k => Nat.beq k t | _ => false)
theorem tz_tab0 : (List.range 64).all tzP = true := by decide +kernel
theorem tz_tab {t : Nat} (h : t < 64) : tzI t < 64 ∧ tb_deBruijn64tab.getD (tzI t) 0 = (t : Int) := by
 have h1 := List.all_eq_true.1 tz_tab0 t (List.mem_range.2 h)
 unfold tzP at h1
 rw [Bool.and_eq_true] at h1
 refine ⟨by simpa [Nat.blt_eq] using h1.1, ?_⟩
 have h2 := h1.2
 split at h2
 ·rename_i k hk; rw [hk, Nat.eq_of_beq_eq_true h2]; rfl
 ·cases h2
theorem one_nat {t : Nat} (h : t < 64) : (one t).toNat = 2 ^ t := by
 unfold one
 rw [BitVec.toNat_twoPow, Nat.mod_eq_of_lt (Nat.pow_lt_pow_right (by omega) h)]
theorem tz_int (p : Nat) : Int.fdiv (IntKind.u64.wrap ((p : Int) * 285870213051353865)) 288230376151711744 = ((p * 285870213051353865 % 18446744073709551616 / 288230376151711744 : Nat) : Int) := by
 rw [wrapU, Int.fdiv_eq_ediv_of_nonneg _ (by omega)]
 omega
theorem q1 {t : Nat} {X : BitVec 64} (h : least X t) : X ≠ 0#64 := fun e => by have := h.2.1; rw [e] at this; simp at this
theorem q2 {X : BitVec 64} (h0 : X ≠ 0#64) : ¬ (((X.toNat : Nat) : Int) = 0) := fun e => h0 (BitVec.eq_of_toNat_eq (by rw [BitVec.toNat_zero]; omega))
theorem q3 {t : Nat} (h : t < 64) : Int.fdiv (IntKind.u64.wrap (((2 ^ t : Nat) : Int) * 285870213051353865)) 288230376151711744 = ((tzI t : Nat) : Int) := tz_int (2 ^ t)
theorem q4 {n t : Nat} {X : BitVec 64} (h : least X t) (hz : ¬ (((X.toNat : Nat) : Int) = 0)) : qb7_ n ((X.toNat : Nat) : Int) = ((some (IntKind.u64.wrap (((2 ^ t : Nat) : Int) * (285870213051353865 : Int)))).bind fun c2_ =>
  if 0 ≤ (Int.fdiv c2_ 288230376151711744) ∧ (Int.fdiv c2_ 288230376151711744) < ((64 : Nat) : Int) then
   some (IntKind.i64.wrap ((tb_deBruijn64tab).getD ((Int.fdiv c2_ 288230376151711744)).toNat 0))
  else none) := by
 unfold qb7_
 rw [if_neg hz, neg_int, ban, neg_bit h, one_nat h.1]
theorem q6 {c q K : Int} {t : Nat} {tb : List Int} (e2 : Int.fdiv c K = q) (h0 : 0 ≤ q) (h1 : q < 64) (ht : t < 64) (h2 : tb.getD q.toNat 0 = (t : Int)) : (if 0 ≤ (Int.fdiv c K) ∧ (Int.fdiv c K) < ((64 : Nat) : Int) then some (IntKind.i64.wrap (tb.getD ((Int.fdiv c K)).toNat 0)) else none) = some (t : Int) := by
 rw [e2, if_pos (by omega), h2]
 exact congrArg some (qod_ (by omega) (by omega))
theorem q7 {c : Int} {q t : Nat} (e2 : Int.fdiv c 288230376151711744 = (q : Int)) (h1 : q < 64) (ht : t < 64) (h2 : tb_deBruijn64tab.getD q 0 = (t : Int)) : ((some c).bind fun c2_ =>
  if 0 ≤ (Int.fdiv c2_ 288230376151711744) ∧ (Int.fdiv c2_ 288230376151711744) < ((64 : Nat) : Int) then
   some (IntKind.i64.wrap ((tb_deBruijn64tab).getD ((Int.fdiv c2_ 288230376151711744)).toNat 0))
  else none) = some (t : Int) := q6 e2 (by omega) (by omega) ht (by rw [Int.toNat_natCast]; exact h2)
theorem q5 {p q t : Nat} (e2 : Int.fdiv (IntKind.u64.wrap ((p : Int) * 285870213051353865)) 288230376151711744 = (q : Int)) (h1 : q < 64) (ht : t < 64) (h2 : tb_deBruijn64tab.getD q 0 = (t : Int)) : ((some (IntKind.u64.wrap ((p : Int) * (285870213051353865 : Int)))).bind fun c2_ =>
  if 0 ≤ (Int.fdiv c2_ 288230376151711744) ∧ (Int.fdiv c2_ 288230376151711744) < ((64 : Nat) : Int) then
   some (IntKind.i64.wrap ((tb_deBruijn64tab).getD ((Int.fdiv c2_ 288230376151711744)).toNat 0))
  else none) = some (t : Int) := q7 e2 h1 ht h2
theorem tz_ok {n t : Nat} {X : BitVec 64} (h : least X t) : qb7_ n ((X.toNat : Nat) : Int) = some (t : Int) := by
 obtain ⟨h1, h2⟩ := tz_tab h.1
 rw [q4 h (q2 (q1 h))]
 exact q5 (q3 h.1) h1 h.1 h2


theorem bxo (x y : BitVec 64) : bXor .u64 ((x.toNat : Nat) : Int) ((y.toNat : Nat) : Int) = (((x ^^^ y).toNat : Nat) : Int) := by
 unfold bXor
 rw [show IntKind.u64.bits = 64 from rfl, ofI, ofI, u64w]
theorem mul_sh (x : BitVec 64) (k m : Nat) (hm : m = 2 ^ k) : IntKind.u64.wrap (((x.toNat : Nat) : Int) * (m : Int)) = (((x <<< k).toNat : Nat) : Int) := by
 rw [BitVec.toNat_shiftLeft, Nat.shiftLeft_eq, wrapU, ← hm, ← Int.natCast_mul, show (18446744073709551616 : Int) = ((2 ^ 64 : Nat) : Int) from rfl]
 exact (Int.natCast_emod _ _).symm
theorem div_sh (x : BitVec 64) (k m : Nat) (hm : m = 2 ^ k) : Int.fdiv ((x.toNat : Nat) : Int) (m : Int) = (((x >>> k).toNat : Nat) : Int) := by
 rw [BitVec.toNat_ushiftRight, Nat.shiftRight_eq_div_pow, ← hm, Int.fdiv_eq_ediv_of_nonneg _ (Int.natCast_nonneg _)]
 exact (Int.natCast_ediv _ _).symm
def xnB (X : BitVec 64) : BitVec 64 :=
 let r := X ^^^ (X <<< 13)
 let r := r ^^^ (r >>> 7)
 r ^^^ (r <<< 17)
theorem xn_bv (u : UInt64) : (Go.Sort.xorNext u).toBitVec = xnB u.toBitVec := by
 unfold Go.Sort.xorNext xnB
 first | rfl | simp
theorem xs_ok {n : Nat} (u : UInt64) : qgh_ n ((u.toNat : Nat) : Int) = some (((Go.Sort.xorNext u).toNat : Nat) : Int) := by
 have e : ∀ v : UInt64, v.toNat = v.toBitVec.toNat := fun v => rfl
 unfold qgh_
 rw [e, e, xn_bv]
 generalize u.toBitVec = X
 rw [show (8192 : Int) = ((8192 : Nat) : Int) from rfl, show (131072 : Int) = ((131072 : Nat) : Int) from rfl, show (128 : Int) = ((128 : Nat) : Int) from rfl, mul_sh X 13 8192 (by decide), bxo, div_sh _ 7 128 (by decide), bxo, Option.bind_some, mul_sh _ 17 131072 (by decide), bxo]
 rfl
theorem len_tab : ((List.range 512).all fun x => match qj5_ 0 ((x : Nat) : Int) with | some r => decide (r = ((Go.Sort.bitsLen x : Nat) : Int)) | none => false) = true := by kernel_rfl
theorem bl_ok {n x : Nat} (h : x < 512) : qj5_ n ((x : Nat) : Int) = some ((Go.Sort.bitsLen x : Nat) : Int) := by
 have h1 := List.all_eq_true.1 len_tab x (List.mem_range.2 h)
 have e : qj5_ n ((x : Nat) : Int) = qj5_ 0 ((x : Nat) : Int) := rfl
 rw [e]
 cases hq : qj5_ 0 ((x : Nat) : Int) with
 | none => rw [hq] at h1; cases h1
 | some r => rw [hq] at h1; rw [of_decide_eq_true h1]


theorem shl_one {k : Nat} (hk : k < 64) : shlV .u64 (1 : Int) ((k : Nat) : Int) = ((1 <<< k : Nat) : Int) := by
 rw [shl1 hk]
 unfold one
 rw [BitVec.toNat_twoPow, Nat.mod_eq_of_lt (Nat.pow_lt_pow_right (by omega) hk), Nat.one_shiftLeft]
theorem and_nat {u : UInt64} {m : Nat} (h1 : 1 ≤ m) (h2 : m ≤ 1024) : IntKind.i64.wrap (bAnd .u64 ((u.toNat : Nat) : Int) (IntKind.u64.wrap ((m : Int) - 1))) = ((u.toNat &&& (m - 1) : Nat) : Int) ∧ u.toNat &&& (m - 1) ≤ m - 1 := by
 have hle : u.toNat &&& (m - 1) ≤ m - 1 := Nat.and_le_right
 have e1 : IntKind.u64.wrap ((m : Int) - 1) = (((BitVec.ofNat 64 (m - 1)).toNat : Nat) : Int) := by
  rw [BitVec.toNat_ofNat, wrapU, Nat.mod_eq_of_lt (by omega)]
  omega
 have e2 : ((u.toNat : Nat) : Int) = ((u.toBitVec.toNat : Nat) : Int) := rfl
 refine ⟨?_, hle⟩
 rw [e1, e2, ban, BitVec.toNat_and, BitVec.toNat_ofNat, Nat.mod_eq_of_lt (show m - 1 < 2 ^ 64 by omega)]
 have hle : u.toBitVec.toNat &&& (m - 1) ≤ m - 1 := Nat.and_le_right
 exact qod_ (by omega) (by omega)
theorem brk1_ok {n len c a l md : Nat} {L : List R4} {u : UInt64} {idx : Nat} (hlen : len ≤ 400) (hl : L.length = len) (hal : a + l ≤ len) (hl8 : 8 ≤ l) (h1 : 1 ≤ md) (h2 : md ≤ 2 * l) (hi : idx < len) (hi2 : idx ≤ a + l / 4 * 2 + 1) :
  ∃ M : List R4, qx_ n len c (a : Int) (l : Int) (md : Int) (L, ((u.toNat : Nat) : Int), (idx : Int)) = some (.inl (M, (((Go.Sort.xorNext u).toNat : Nat) : Int), ((idx + 1 : Nat) : Int))) ∧ M.length = len ∧ Go.Sort.breakStep a l md (u, L.toArray) idx = (Go.Sort.xorNext u, M.toArray) := by
 obtain ⟨b1, b2⟩ := and_nat (u := Go.Sort.xorNext u) (m := md) h1 (by omega)
 have e1 : IntKind.i64.wrap (Int.tdiv (l : Int) 4) = ((l / 4 : Nat) : Int) := by
  rw [show Int.tdiv (l : Int) 4 = ((l / 4 : Nat) : Int) from rfl]
  exact qod_ (by omega) (by omega)
 have e2 : w64 (((l / 4 : Nat) : Int) * 2) = ((l / 4 * 2 : Nat) : Int) := qcw_ (by omega) (by omega)
 have e3 : w64 ((a : Int) + ((l / 4 * 2 : Nat) : Int)) = ((a + l / 4 * 2 : Nat) : Int) := qcw_ (by omega) (by omega)
 have e4 : w64 (((a + l / 4 * 2 : Nat) : Int) + 1) = ((a + l / 4 * 2 + 1 : Nat) : Int) := qcw_ (by omega) (by omega)
 have e5 : w64 ((idx : Int) + 1) = ((idx + 1 : Nat) : Int) := qcw_ (by omega) (by omega)
 unfold qx_ Go.Sort.breakStep
 dsimp only
 rw [if_pos (by decide), e1, e2, Option.bind_some, e3, e4, Option.bind_some, if_pos (by omega), xs_ok, Option.bind_some, b1, e5]
 generalize (Go.Sort.xorNext u).toNat &&& (md - 1) = o at b2 ⊢
 by_cases c1 : o ≥ l
 ·have e6 : w64 ((o : Int) - (l : Int)) = ((o - l : Nat) : Int) := qcw_ (by omega) (by omega)
  have e7 : w64 ((a : Int) + ((o - l : Nat) : Int)) = ((a + (o - l) : Nat) : Int) := qcw_ (by omega) (by omega)
  refine ⟨sw L idx (a + (o - l)), ?_, by rw [qqh_]; exact hl, by rw [if_pos c1, qnh_]⟩
  rw [if_pos (by omega), e6, Option.bind_some, e7, if_pos (by omega), if_pos (by omega), Option.bind_some, if_pos (by omega), if_pos (by omega), Option.bind_some, if_pos (by rw [List.length_set]; omega)]
  simp only [Int.toNat_natCast]
  rfl
 ·have e7 : w64 ((a : Int) + (o : Int)) = ((a + o : Nat) : Int) := qcw_ (by omega) (by omega)
  refine ⟨sw L idx (a + o), ?_, by rw [qqh_]; exact hl, by rw [if_neg c1, qnh_]⟩
  rw [if_neg (by omega), e7, Option.bind_some, if_pos (by omega), if_pos (by omega), Option.bind_some, if_pos (by omega), if_pos (by omega), Option.bind_some, if_pos (by rw [List.length_set]; omega)]
  simp only [Int.toNat_natCast]
  rfl
theorem break_ok {n len c a b : Nat} (hlen : len ≤ 400) (hn : 10 < n) (hab : a ≤ b) (hb : b ≤ len) (L : List R4) (hl : L.length = len) : ∃ M : List R4, qdi_ n L len c (a : Int) (b : Int) = some M ∧ M.length = len ∧ Go.Sort.breakPatterns L.toArray a b = M.toArray := by
 have e0 : w64 ((b : Int) - (a : Int)) = ((b - a : Nat) : Int) := qcw_ (by omega) (by omega)
 unfold qdi_ Go.Sort.breakPatterns
 dsimp only
 rw [e0]
 by_cases c1 : b - a ≥ 8
 ·rw [if_pos (by omega), if_pos c1]
  have hk : Go.Sort.bitsLen (b - a) ≤ 9 := (Go.Sort.bitsLen_le_iff _ _).2 (by omega)
  have hp := Go.Sort.two_pow_bitsLen_le (n := b - a) (by omega)
  have h1 : 1 ≤ 1 <<< Go.Sort.bitsLen (b - a) := by rw [Nat.one_shiftLeft]; exact Nat.pos_of_ne_zero (by simp)
  have h2 : 1 <<< Go.Sort.bitsLen (b - a) ≤ 2 * (b - a) := by rw [Nat.one_shiftLeft]; exact hp
  have g : qfr_ n ((b - a : Nat) : Int) = some ((1 <<< Go.Sort.bitsLen (b - a) : Nat) : Int) := by
   unfold qfr_
   rw [show IntKind.u64.wrap ((b - a : Nat) : Int) = ((b - a : Nat) : Int) by rw [wrapU]; omega, bl_ok (by omega), Option.bind_some, if_pos (by omega), shl_one (by omega)]
  have e1 : IntKind.i64.wrap (Int.tdiv ((b - a : Nat) : Int) 4) = (((b - a) / 4 : Nat) : Int) := by
   rw [show Int.tdiv ((b - a : Nat) : Int) 4 = (((b - a) / 4 : Nat) : Int) from rfl]
   exact qod_ (by omega) (by omega)
  have e2 : w64 ((((b - a) / 4 : Nat) : Int) * 2) = (((b - a) / 4 * 2 : Nat) : Int) := qcw_ (by omega) (by omega)
  have e3 : w64 ((a : Int) + (((b - a) / 4 * 2 : Nat) : Int)) = ((a + (b - a) / 4 * 2 : Nat) : Int) := qcw_ (by omega) (by omega)
  have e4 : w64 (((a + (b - a) / 4 * 2 : Nat) : Int) - 1) = ((a + (b - a) / 4 * 2 - 1 : Nat) : Int) := qcw_ (by omega) (by omega)
  have e5 : IntKind.u64.wrap ((b - a : Nat) : Int) = (((UInt64.ofNat (b - a)).toNat : Nat) : Int) := by
   rw [wrapU, UInt64.toNat_ofNat']
   omega
  rw [g, Option.bind_some, if_pos (by decide), e1, e2, Option.bind_some, e3, e4, e5]
  generalize 1 <<< Go.Sort.bitsLen (b - a) = md at h1 h2 ⊢
  generalize UInt64.ofNat (b - a) = u0
  obtain ⟨M1, p1, q1, r1⟩ := brk1_ok (n := n) (c := c) (a := a) (l := b - a) (md := md) (L := L) (u := u0) (idx := a + (b - a) / 4 * 2 - 1) hlen hl (by omega) c1 h1 h2 (by omega) (by omega)
  obtain ⟨M2, p2, q2, r2⟩ := brk1_ok (n := n) (c := c) (a := a) (l := b - a) (md := md) (L := M1) (u := Go.Sort.xorNext u0) (idx := a + (b - a) / 4 * 2 - 1 + 1) hlen q1 (by omega) c1 h1 h2 (by omega) (by omega)
  obtain ⟨M3, p3, q3, r3⟩ := brk1_ok (n := n) (c := c) (a := a) (l := b - a) (md := md) (L := M2) (u := Go.Sort.xorNext (Go.Sort.xorNext u0)) (idx := a + (b - a) / 4 * 2 - 1 + 1 + 1) hlen q2 (by omega) c1 h1 h2 (by omega) (by omega)
  refine ⟨M3, ?_, q3, by rw [r1, r2]; show (Go.Sort.breakStep a (b - a) md (_, M2.toArray) _).2 = _; rw [show a + (b - a) / 4 * 2 - 1 + 2 = a + (b - a) / 4 * 2 - 1 + 1 + 1 from rfl, r3]⟩
  obtain ⟨k, rfl⟩ : ∃ k, n = k + 4 := ⟨n - 4, by omega⟩
  unfold qec_
  have last : qx_ (k + 4) len c (a : Int) ((b - a : Nat) : Int) (md : Int) (M3, (((Go.Sort.xorNext (Go.Sort.xorNext (Go.Sort.xorNext u0))).toNat : Nat) : Int), ((a + (b - a) / 4 * 2 - 1 + 1 + 1 + 1 : Nat) : Int)) = some (.inr M3) := by
   unfold qx_
   dsimp only
   rw [if_pos (by decide), e1, e2, Option.bind_some, e3, qcw_ (x := ((a + (b - a) / 4 * 2 : Nat) : Int) + 1) (k := a + (b - a) / 4 * 2 + 1) (by omega) (by omega), Option.bind_some, if_neg (by omega)]
  rw [qcv_, p1]
  dsimp only [Option.bind_some]
  rw [qcv_, p2]
  dsimp only [Option.bind_some]
  rw [qcv_, p3]
  dsimp only [Option.bind_some]
  rw [qcv_, last]
  rfl
 ·exact ⟨L, by rw [if_neg (by omega)], hl, by rw [if_neg c1]⟩
theorem pins_ok {n len c a b : Nat} {cf : R4 → R4 → Int} (hC : ∀ x y : R4, qd_ n x.1 x.2.1 x.2.2.1 x.2.2.2 y.1 y.2.1 y.2.2.1 y.2.2.2 = some (cf x y)) (hlen : len ≤ 1000000) (hn : len + 10 < n) (hab : a < b) (hb : b ≤ len) (L : List R4) (hl : L.length = len) :
  ∃ M : List R4, qb8_ n L len c (a : Int) (b : Int) = some (M, (Go.Sort.partialInsertionSort (ltF cf) L.toArray a b).2) ∧ M.length = len ∧ (Go.Sort.partialInsertionSort (ltF cf) L.toArray a b).1 = M.toArray := by
 obtain ⟨M, h1, h2, h3⟩ := pins1_ok hC (c := c) (a := a) hlen (by omega) hb 5 (a + 1) L n hl (by omega) (by omega) (by omega) (by omega)
 refine ⟨M, ?_, h2, h3⟩
 unfold qb8_
 rw [qcw_ (x := (a : Int) + 1) (k := a + 1) (by omega) (by omega)]
 have e : (0 : Int) = ((5 - 5 : Nat) : Int) := rfl
 rw [e]
 unfold Go.Sort.partialInsertionSort
 rcases h1 with h1 | ⟨h1, h4⟩
 ·have h1 : qbw_ n len c (a : Int) (b : Int) (L, ((a + 1 : Nat) : Int), ((5 - 5 : Nat) : Int)) = _ := h1
  rw [h1]
 ·have h1 : qbw_ n len c (a : Int) (b : Int) (L, ((a + 1 : Nat) : Int), ((5 - 5 : Nat) : Int)) = _ := h1
  rw [h1, h4]


structure Nx (lt : R4 → R4 → Bool) (len a b : Nat) (L M : List R4) (a2 b2 : Nat) : Prop where
 len : M.length = len
 le1 : a ≤ a2
 le2 : a2 ≤ b2
 le3 : b2 ≤ b
 less : b2 - a2 < b - a
 below : Go.Sort.Below lt a2 b2 M.toArray
 fin : ∀ R : Array R4, Go.Sort.PermIn a2 b2 M.toArray R → Go.Sort.SortedIn lt a2 b2 R → Go.Sort.PermIn a b L.toArray R ∧ Go.Sort.SortedIn lt a b R
abbrev RT := List R4 → Nat → Nat → Int → Int → Int → Option (List R4)
def RecOK (lt : R4 → R4 → Bool) (len c : Nat) (lim : Int) (d : Nat) (rec : RT) : Prop := ∀ (L : List R4) (a b : Nat), L.length = len → a ≤ b → b ≤ len → b - a < d → Go.Sort.Below lt a b L.toArray → ∃ M : List R4, rec L len c (a : Int) (b : Int) lim = some M ∧ M.length = len ∧ Go.Sort.PermIn a b L.toArray M.toArray ∧ Go.Sort.SortedIn lt a b M.toArray
section
variable {n : Nat} {cf : R4 → R4 → Int} (hC : ∀ x y : R4, qd_ n x.1 x.2.1 x.2.2.1 x.2.2.2 y.1 y.2.1 y.2.2.1 y.2.2.2 = some (cf x y)) (hO : Go.Sort.SWO (ltF cf))
include hC hO
theorem t10_ok {rec : RT} {len c a b pivot : Nat} {lim : Int} {L : List R4} (hlen : len ≤ 400) (hn : len + 2 < n) (hl : L.length = len) (hp1 : a ≤ pivot) (hp2 : pivot < b) (hb : b ≤ len) (hab : 12 < b - a) (hB : Go.Sort.Below (ltF cf) a b L.toArray) (hrec : RecOK (ltF cf) len c lim (b - a) rec) :
  ∃ (M : List R4) (a2 b2 : Nat) (f g : Bool), qb6_ rec n L len c (a : Int) (b : Int) lim ((b - a : Nat) : Int) (pivot : Int) () = some (M, (a2 : Int), (b2 : Int), f, g) ∧ Nx (ltF cf) len a b L M a2 b2 := by
 obtain ⟨P, q, ap, h1, h2, h3, h4⟩ := part_ok hC (c := c) (a := a) (b := b) (pivot := pivot) (by omega) hn hp1 hp2 hb (by omega) L hl
 obtain ⟨g1, g2, gs, gA, gB, gl, gr⟩ := Go.Sort.round_part hO (Go.Sort.partition_holds _) hp1 hp2 (by simpa [hl] using hb) hB h4
 have e1 : w64 ((q : Int) - (a : Int)) = ((q - a : Nat) : Int) := qcw_ (by omega) (by omega)
 have e2 : w64 ((b : Int) - (q : Int)) = ((b - q : Nat) : Int) := qcw_ (by omega) (by omega)
 have e3 : w64 ((q : Int) + 1) = ((q + 1 : Nat) : Int) := qcw_ (by omega) (by omega)
 unfold qb6_
 rw [h1]
 dsimp only [Option.bind_some]
 unfold qd3_
 rw [if_pos (by decide), e1, e2, e3]
 by_cases c1 : q - a < b - q
 ·obtain ⟨S, r1, r2, r3, r4⟩ := hrec P a q h2 g1 (by omega) (by omega) gA
  obtain ⟨k1, k2⟩ := gl S.toArray r3 r4
  rw [if_pos (by omega), r1]
  split
  ·exact ⟨S, q + 1, b, true, ap, rfl, ⟨r2, by omega, by omega, Nat.le_refl _, by omega, k1, k2⟩⟩
  ·exact ⟨S, q + 1, b, false, ap, rfl, ⟨r2, by omega, by omega, Nat.le_refl _, by omega, k1, k2⟩⟩
 ·obtain ⟨S, r1, r2, r3, r4⟩ := hrec P (q + 1) b h2 (by omega) hb (by omega) gB
  obtain ⟨k1, k2⟩ := gr S.toArray r3 r4
  rw [if_neg (by omega), r1]
  split
  ·exact ⟨S, a, q, true, ap, rfl, ⟨r2, Nat.le_refl _, g1, by omega, by omega, k1, k2⟩⟩
  ·exact ⟨S, a, q, false, ap, rfl, ⟨r2, Nat.le_refl _, g1, by omega, by omega, k1, k2⟩⟩
theorem t8_ok {rec : RT} {len c a b pivot : Nat} {lim : Int} {wb wp : Bool} {L : List R4} (hlen : len ≤ 400) (hn : len + 2 < n) (hl : L.length = len) (hp1 : a ≤ pivot) (hp2 : pivot < b) (hb : b ≤ len) (hab : 12 < b - a) (hB : Go.Sort.Below (ltF cf) a b L.toArray) (hrec : RecOK (ltF cf) len c lim (b - a) rec) :
  (∃ (M : List R4) (a2 : Nat), qj_ rec n L len c (a : Int) (b : Int) lim wb wp ((b - a : Nat) : Int) (pivot : Int) () = some (.inl (M, (a2 : Int))) ∧ Nx (ltF cf) len a b L M a2 b) ∨
  ∃ (M : List R4) (a2 b2 : Nat) (f g : Bool), qj_ rec n L len c (a : Int) (b : Int) lim wb wp ((b - a : Nat) : Int) (pivot : Int) () = some (.inr (M, (a2 : Int), (b2 : Int), f, g)) ∧ Nx (ltF cf) len a b L M a2 b2 := by
 obtain ⟨M, a2, b2, f, g, t1, t2⟩ := t10_ok hC hO (c := c) (lim := lim) hlen hn hl hp1 hp2 hb hab hB hrec
 have n9 : qr_ rec n L len c (a : Int) (b : Int) lim wb wp ((b - a : Nat) : Int) (pivot : Int) false () = some (.inr ()) := by
  unfold qr_
  rw [if_neg (by decide)]
 unfold qj_
 by_cases c1 : 0 < a
 ·have e1 : w64 ((a : Int) - 1) = ((a - 1 : Nat) : Int) := qcw_ (by omega) (by omega)
  rw [if_pos (by omega), e1, if_pos (by omega), if_pos (by omega), Option.bind_some, if_pos (by omega), if_pos (by omega), Option.bind_some, hC, Option.bind_some]
  simp only [Int.toNat_natCast]
  by_cases c2 : cf (L.getD (a - 1) z4) (L.getD pivot z4) < 0
  ·rw [if_pos c2, n9]
   dsimp only
   rw [t1]
   exact .inr ⟨M, a2, b2, f, g, rfl, t2⟩
  ·obtain ⟨P, q, h1, h2, h3, h4⟩ := parteq_ok hC (c := c) (a := a) (b := b) (pivot := pivot) (by omega) hn hp1 hp2 hb L hl
   obtain ⟨g1, g2, gs, gB, gf⟩ := Go.Sort.round_eq hO (Go.Sort.partitionEqual_holds _) c1 hp1 hp2 (by simpa [hl] using hb) hB (by rw [qjl_, qjl_]; exact decide_eq_false c2) h4
   rw [if_neg c2]
   unfold qr_
   rw [if_pos rfl, h1]
   exact .inl ⟨P, q, rfl, ⟨h2, by omega, g2, Nat.le_refl _, by omega, gB, gf⟩⟩
 ·rw [if_neg (by omega), n9]
  dsimp only
  rw [t1]
  exact .inr ⟨M, a2, b2, f, g, rfl, t2⟩
end


def Done (lt : R4 → R4 → Bool) (len a b : Nat) (L M : List R4) : Prop := M.length = len ∧ Go.Sort.PermIn a b L.toArray M.toArray ∧ Go.Sort.SortedIn lt a b M.toArray
def Out (lt : R4 → R4 → Bool) (len a b : Nat) (L : List R4) (r : Option (List R4 ⊕ ((List R4 × Int) ⊕ (List R4 × Int × Int × Bool × Bool)))) : Prop :=
 (∃ M, r = some (.inl M) ∧ Done lt len a b L M) ∨ (∃ (M : List R4) (a2 : Nat), r = some (.inr (.inl (M, (a2 : Int)))) ∧ Nx lt len a b L M a2 b) ∨
 ∃ (M : List R4) (a2 b2 : Nat) (f g : Bool), r = some (.inr (.inr (M, (a2 : Int), (b2 : Int), f, g))) ∧ Nx lt len a b L M a2 b2
theorem Nx.perm {lt : R4 → R4 → Bool} {len a b a2 b2 : Nat} {L L1 M : List R4} (hp : Go.Sort.PermIn a b L.toArray L1.toArray) (h : Nx lt len a b L1 M a2 b2) : Nx lt len a b L M a2 b2 :=
 ⟨h.len, h.le1, h.le2, h.le3, h.less, h.below, fun R h1 h2 => ⟨Go.Sort.permIn_trans _ _ _ _ _ hp (h.fin R h1 h2).1, (h.fin R h1 h2).2⟩⟩
theorem Out.perm {lt : R4 → R4 → Bool} {len a b : Nat} {L L1 : List R4} {r : Option (List R4 ⊕ ((List R4 × Int) ⊕ (List R4 × Int × Int × Bool × Bool)))} (hp : Go.Sort.PermIn a b L.toArray L1.toArray) (h : Out lt len a b L1 r) : Out lt len a b L r := by
 rcases h with ⟨M, h1, h2, h3, h4⟩ | ⟨M, a2, h1, h2⟩ | ⟨M, a2, b2, f, g, h1, h2⟩
 ·exact .inl ⟨M, h1, h2, Go.Sort.permIn_trans _ _ _ _ _ hp h3, h4⟩
 ·exact .inr (.inl ⟨M, a2, h1, h2.perm hp⟩)
 ·exact .inr (.inr ⟨M, a2, b2, f, g, h1, h2.perm hp⟩)
section
variable {n : Nat} {cf : R4 → R4 → Int} (hC : ∀ x y : R4, qd_ n x.1 x.2.1 x.2.2.1 x.2.2.2 y.1 y.2.1 y.2.2.1 y.2.2.2 = some (cf x y)) (hO : Go.Sort.SWO (ltF cf))
include hC hO
theorem t6_ok {rec : RT} {len c a b pivot : Nat} {lim h : Int} {wb wp : Bool} {L : List R4} (hlen : len ≤ 400) (hn : len + 10 < n) (hl : L.length = len) (hp1 : a ≤ pivot) (hp2 : pivot < b) (hb : b ≤ len) (hab : 12 < b - a) (hB : Go.Sort.Below (ltF cf) a b L.toArray) (hrec : RecOK (ltF cf) len c lim (b - a) rec) :
  Out (ltF cf) len a b L (qbj_ rec n L len c (a : Int) (b : Int) lim wb wp ((b - a : Nat) : Int) (pivot : Int) h ()) := by
 have h8 : ∀ S : List R4, S.length = len → Go.Sort.Below (ltF cf) a b S.toArray → Out (ltF cf) len a b S (match qj_ rec n S len c (a : Int) (b : Int) lim wb wp ((b - a : Nat) : Int) (pivot : Int) () with
   | none => none
   | some (.inl (p, q)) => some (.inr (.inl (p, q)))
   | some (.inr (p, q, r, s, t)) => some (.inr (.inr (p, q, r, s, t)))) := fun S hS hBS => by
  rcases t8_ok hC hO (c := c) (lim := lim) (wb := wb) (wp := wp) hlen (by omega) hS hp1 hp2 hb hab hBS hrec with ⟨M, a2, e, k⟩ | ⟨M, a2, b2, f, g, e, k⟩
  ·rw [e]; exact .inr (.inl ⟨M, a2, rfl, k⟩)
  ·rw [e]; exact .inr (.inr ⟨M, a2, b2, f, g, rfl, k⟩)
 have hbs : b ≤ L.toArray.size := by simpa [hl] using hb
 unfold qbj_
 by_cases c1 : wb = true
 ·rw [if_pos c1]
  by_cases c2 : wp = true
  ·rw [if_pos c2]
   by_cases c3 : h = 1
   ·rw [if_pos c3]
    obtain ⟨M, m1, m2, m3⟩ := pins_ok hC (c := c) (a := a) (b := b) (by omega) hn (by omega) hb L hl
    obtain ⟨p1, p2⟩ := Go.Sort.partialInsertionSort_holds hO L.toArray a b (by omega) hbs hB
    rw [m3] at p1 p2
    rw [m1]
    dsimp only [Option.bind_some]
    unfold qdp_
    cases hf : (Go.Sort.partialInsertionSort (ltF cf) L.toArray a b).2 with
    | true =>
     rw [if_pos rfl]
     exact .inl ⟨M, rfl, m2, p1, p2 hf⟩
    | false =>
     rw [if_neg (by decide)]
     exact (h8 M m2 (hB.perm hbs p1)).perm p1
   ·rw [if_neg c3]; exact h8 L hl hB
  ·rw [if_neg c2]; exact h8 L hl hB
 ·rw [if_neg c1]; exact h8 L hl hB
theorem t5_ok {rec : RT} {len c a b pivot : Nat} {lim h : Int} {wb wp : Bool} {L : List R4} (hlen : len ≤ 400) (hn : len + 10 < n) (hl : L.length = len) (hp1 : a ≤ pivot) (hp2 : pivot < b) (hb : b ≤ len) (hab : 12 < b - a) (hB : Go.Sort.Below (ltF cf) a b L.toArray) (hrec : RecOK (ltF cf) len c lim (b - a) rec) :
  Out (ltF cf) len a b L (qc9_ rec n L len c (a : Int) (b : Int) lim wb wp ((b - a : Nat) : Int) (pivot : Int) h ()) := by
 have hbs : b ≤ L.toArray.size := by simpa [hl] using hb
 unfold qc9_
 by_cases c1 : h = 2
 ·obtain ⟨M, m1, m2, m3⟩ := reverse_ok (n := n) (c := c) (a := a) (b := b) (by omega) (by omega) (by omega) hb L hl
  have p1 : Go.Sort.PermIn a b L.toArray M.toArray := by
   rw [← m3]; exact Go.Sort.step_reverse Go.Sort.reverseRange_holds L.toArray (by omega) hbs True
  have e1 : w64 ((b : Int) - 1) = ((b - 1 : Nat) : Int) := qcw_ (by omega) (by omega)
  have e2 : w64 ((pivot : Int) - (a : Int)) = ((pivot - a : Nat) : Int) := qcw_ (by omega) (by omega)
  have e3 : w64 (((b - 1 : Nat) : Int) - ((pivot - a : Nat) : Int)) = (((b - 1) - (pivot - a) : Nat) : Int) := qcw_ (by omega) (by omega)
  rw [if_pos c1, m1, Option.bind_some, e1, e2, e3, Option.bind_some]
  have o := t6_ok hC hO (c := c) (lim := lim) (h := 1) (wb := wb) (wp := wp) (pivot := (b - 1) - (pivot - a)) hlen hn m2 (by omega) (by omega) hb hab (hB.perm hbs p1) hrec
  rcases o with ⟨S, e, k⟩ | ⟨S, a2, e, k⟩ | ⟨S, a2, b2, f, g, e, k⟩
  ·rw [e]; exact Out.perm p1 (.inl ⟨S, rfl, k⟩)
  ·rw [e]; exact Out.perm p1 (.inr (.inl ⟨S, a2, rfl, k⟩))
  ·rw [e]; exact Out.perm p1 (.inr (.inr ⟨S, a2, b2, f, g, rfl, k⟩))
 ·rw [if_neg c1]
  have o := t6_ok hC hO (c := c) (lim := lim) (h := h) (wb := wb) (wp := wp) hlen hn hl hp1 hp2 hb hab hB hrec
  rcases o with ⟨S, e, k⟩ | ⟨S, a2, e, k⟩ | ⟨S, a2, b2, f, g, e, k⟩
  ·rw [e]; exact .inl ⟨S, rfl, k⟩
  ·rw [e]; exact .inr (.inl ⟨S, a2, rfl, k⟩)
  ·rw [e]; exact .inr (.inr ⟨S, a2, b2, f, g, rfl, k⟩)
theorem t4_ok {rec : RT} {len c a b : Nat} {lim : Int} {wb wp : Bool} {L : List R4} (hlen : len ≤ 400) (hn : len + 10 < n) (hl : L.length = len) (hb : b ≤ len) (hab : 12 < b - a) (hB : Go.Sort.Below (ltF cf) a b L.toArray) (hrec : RecOK (ltF cf) len c lim (b - a) rec) :
  Out (ltF cf) len a b L (qbl_ rec n L len c (a : Int) (b : Int) lim wb wp ((b - a : Nat) : Int) ()) := by
 obtain ⟨r1, r2⟩ := Go.Sort.choosePivot_holds (ltF cf) L.toArray a b (by omega)
 unfold qbl_
 rw [pivot_ok hC (by omega) (by omega) hb hl]
 dsimp only [Option.bind_some]
 have o := t5_ok hC hO (c := c) (lim := lim) (h := hintI (Go.Sort.choosePivot (ltF cf) L.toArray a b).2) (wb := wb) (wp := wp) hlen hn hl r1 r2 hb hab hB hrec
 rcases o with ⟨S, e, k⟩ | ⟨S, a2, e, k⟩ | ⟨S, a2, b2, f, g, e, k⟩
 ·rw [e]; exact .inl ⟨S, rfl, k⟩
 ·rw [e]; exact .inr (.inl ⟨S, a2, rfl, k⟩)
 ·rw [e]; exact .inr (.inr ⟨S, a2, b2, f, g, rfl, k⟩)
end


section
variable {cf : R4 → R4 → Int} (hC : ∀ n, 20 ≤ n → ∀ x y : R4, qd_ n x.1 x.2.1 x.2.2.1 x.2.2.2 y.1 y.2.1 y.2.2.1 y.2.2.2 = some (cf x y)) (hO : Go.Sort.SWO (ltF cf))
include hC hO
theorem pdq_ok {len c : Nat} (hlen : len ≤ 400) : ∀ (d n : Nat), len + 20 + d < n → ∀ (N : Nat) (L : List R4) (a b lim : Nat) (wb wp : Bool), L.length = len → a ≤ b → b ≤ len → b - a ≤ d → b - a < N → lim ≤ 1000 → Go.Sort.Below (ltF cf) a b L.toArray →
  ∃ M : List R4, iterM (qbo_ (qo_ n) n len c) N (L, (a : Int), (b : Int), (lim : Int), wb, wp) = some M ∧ Done (ltF cf) len a b L M := by
 intro d
 induction d using Nat.strongRecOn with
 | ind d ih =>
  intro n hn N L a b lim wb wp hl hab hb hd hN hlim hB
  have hc := hC n (by omega)
  have hbs : b ≤ L.toArray.size := by simpa [hl] using hb
  obtain ⟨N, rfl⟩ : ∃ k, N = k + 1 := ⟨N - 1, by omega⟩
  have e0 : w64 ((b : Int) - (a : Int)) = ((b - a : Nat) : Int) := qcw_ (by omega) (by omega)
  have hrec : ∀ l' : Nat, l' ≤ 1000 → RecOK (ltF cf) len c (l' : Int) (b - a) (qo_ n) := fun l' hl' S a' b' hS hab' hb' hlt hBS => by
   obtain ⟨n0, rfl⟩ : ∃ k, n = k + 1 := ⟨n - 1, by omega⟩
   obtain ⟨M, h1, h2⟩ := ih (b' - a') (by omega) n0 (by omega) n0 S a' b' l' true true hS hab' hb' (Nat.le_refl _) (by omega) hl' hBS
   refine ⟨M, ?_, h2⟩
   show qcu_ (qo_ n0) n0 S len c (a' : Int) (b' : Int) (l' : Int) = some M
   unfold qcu_
   have h1 : qd6_ (qo_ n0) n0 len c (S, (a' : Int), (b' : Int), (l' : Int), true, true) = some M := h1
   rw [h1]; rfl
  -- the loop goes on
  have go : ∀ (S : List R4) (a2 b2 l' : Nat) (f g : Bool), l' ≤ 1000 → Nx (ltF cf) len a b L S a2 b2 → ∃ M : List R4, iterM (qbo_ (qo_ n) n len c) N (S, (a2 : Int), (b2 : Int), (l' : Int), f, g) = some M ∧ Done (ltF cf) len a b L M := fun S a2 b2 l' f g hl' k => by
   have kl := k.less
   obtain ⟨M, h1, h2, h3, h4⟩ := ih (b2 - a2) (by omega) n (by omega) N S a2 b2 l' f g k.len k.le2 (Nat.le_trans k.le3 hb) (Nat.le_refl _) (by omega) hl' k.below
   obtain ⟨q1, q2⟩ := k.fin M.toArray h3 h4
   exact ⟨M, h1, h2, q1, q2⟩
  rw [qcv_]
  generalize hT : iterM (qbo_ (qo_ n) n len c) N = T at go ⊢
  unfold qbo_
  dsimp only
  rw [e0]
  by_cases c1 : b - a ≤ 12
  ·obtain ⟨M, h1, h2, h3⟩ := insertion_ok hc (c := c) (a := a) (b := b) (by omega) (by omega) hab hb L hl
   obtain ⟨p1, p2⟩ := Go.Sort.insertionSort_holds hO L.toArray a b hab hbs
   rw [h3] at p1 p2
   refine ⟨M, ?_, h2, p1, p2⟩
   rw [if_pos (by omega), h1]; rfl
  rw [if_neg (by omega)]
  unfold qdr_
  by_cases c2 : lim = 0
  ·obtain ⟨M, h1, h2, h3⟩ := heap_ok hc (c := c) (a := a) (b := b) (by omega) (by omega) hab hb L hl
   obtain ⟨p1, p2⟩ := Go.Sort.heapSort_holds hO L.toArray a b hab hbs
   rw [h3] at p1 p2
   refine ⟨M, ?_, h2, p1, p2⟩
   rw [if_pos (by omega), h1]; rfl
  rw [if_neg (by omega)]
  unfold qdq_
  by_cases c3 : wb = true
  ·have o := t4_ok hc hO (c := c) (lim := (lim : Int)) (wb := wb) (wp := wp) hlen (by omega) hl hb (by omega) hB (hrec lim hlim)
   rw [if_pos c3]
   rcases o with ⟨S, e, k⟩ | ⟨S, a2, e, k⟩ | ⟨S, a2, b2, f, g, e, k⟩
   ·rw [e]; exact ⟨S, rfl, k⟩
   ·rw [e]; exact go S a2 b lim wb wp hlim k
   ·rw [e]; exact go S a2 b2 lim f g hlim k
  ·obtain ⟨S1, s1, s2, s3⟩ := break_ok (n := n) (c := c) (a := a) (b := b) hlen (by omega) hab hb L hl
   have p1 : Go.Sort.PermIn a b L.toArray S1.toArray := by
    rw [← s3]; exact Go.Sort.breakPatterns_holds L.toArray a b hab hbs
   have e1 : w64 ((lim : Int) - 1) = ((lim - 1 : Nat) : Int) := qcw_ (by omega) (by omega)
   have o := (t4_ok hc hO (c := c) (lim := ((lim - 1 : Nat) : Int)) (wb := wb) (wp := wp) hlen (by omega) s2 hb (by omega) (hB.perm hbs p1) (hrec (lim - 1) (by omega))).perm p1
   rw [if_neg c3, s1, Option.bind_some, e1]
   rcases o with ⟨S, e, k⟩ | ⟨S, a2, e, k⟩ | ⟨S, a2, b2, f, g, e, k⟩
   ·rw [e]; exact ⟨S, rfl, k⟩
   ·rw [e]; exact go S a2 b (lim - 1) wb wp (by omega) k
   ·rw [e]; exact go S a2 b2 (lim - 1) f g (by omega) k
theorem sort_ok {n c : Nat} {L : List R4} (hlen : L.length ≤ 400) (hn : 1000 < n) : ∃ M : List R4, qd5_ n L c = some M ∧ M.length = L.length ∧ Go.Sort.PermIn 0 L.length L.toArray M.toArray ∧ Go.Sort.SortedIn (ltF cf) 0 L.length M.toArray := by
 obtain ⟨n0, rfl⟩ : ∃ k, n = k + 1 := ⟨n - 1, by omega⟩
 have hk : Go.Sort.bitsLen L.length ≤ 9 := (Go.Sort.bitsLen_le_iff _ _).2 (by omega)
 obtain ⟨M, h1, h2, h3, h4⟩ := pdq_ok hC hO (c := c) (len := L.length) hlen L.length n0 (by omega) n0 L 0 L.length (Go.Sort.bitsLen L.length) true true rfl (Nat.zero_le _) (Nat.le_refl _) (by omega) (by omega) (by omega) (.inl rfl)
 refine ⟨M, ?_, h2, h3, h4⟩
 have g : qo_ (n0 + 1) L L.length c 0 ((L.length : Nat) : Int) ((Go.Sort.bitsLen L.length : Nat) : Int) = some M := by
  show qcu_ (qo_ n0) n0 L L.length c 0 ((L.length : Nat) : Int) ((Go.Sort.bitsLen L.length : Nat) : Int) = some M
  unfold qcu_
  have h1 : qd6_ (qo_ n0) n0 L.length c (L, (0 : Int), ((L.length : Nat) : Int), ((Go.Sort.bitsLen L.length : Nat) : Int), true, true) = some M := h1
  rw [h1]; rfl
 unfold qd5_
 rw [show IntKind.u64.wrap ((L.length : Nat) : Int) = ((L.length : Nat) : Int) by rw [wrapU]; omega, bl_ok (by omega), Option.bind_some, g]
 rfl
end


theorem tz_tot {n : Nat} (w : Int) : ∃ r, qb7_ n w = some r := by
 unfold qb7_
 split
 ·exact ⟨_, rfl⟩
 ·rw [Option.bind_some]
  generalize bAnd .u64 w (IntKind.u64.wrap ((0 : Int) - w)) * (285870213051353865 : Int) = p
  have h : 0 ≤ Int.fdiv (IntKind.u64.wrap p) 288230376151711744 ∧ Int.fdiv (IntKind.u64.wrap p) 288230376151711744 < ((64 : Nat) : Int) := by
   rw [wrapU, Int.fdiv_eq_ediv_of_nonneg _ (by omega)]
   omega
  rw [if_pos h]
  exact ⟨_, rfl⟩
theorem eachW {n : Nat} (hn : 0 < n) {p : Int} {q : Bool} {a b c d i w : Int} : qd1_ n p q a b c d i w () = if w = 0 then some (.inl ()) else (qb7_ 0 w).bind fun y => some (.inr (IntKind.u8.wrap (w64 (w64 (i * 64) + y)))) := by
 obtain ⟨k, rfl⟩ : ∃ k, n = k + 1 := ⟨n - 1, by omega⟩
 unfold qd1_
 rw [qcv_]
 unfold qju_
 dsimp only
 by_cases h : w = 0
 ·rw [if_pos h, if_pos h]; rfl
 ·rw [if_neg h, if_neg h]
  have e : qb7_ (k + 1) w = qb7_ 0 w := rfl
  obtain ⟨r, hr⟩ := tz_tot (n := 0) w
  rw [e, hr]; rfl
theorem least_n {n : Nat} (hn : 0 < n) (a b c d : Int) : qd0_ n a b c d = qd0_ 1 a b c d := by
 unfold qd0_ qi3_ qla_
 simp only [eachW hn, eachW (show 0 < 1 by omega)]
theorem least_tot (a b c d : Int) : ∃ k f, qd0_ 1 a b c d = some (k, f) := by
 have w1 : ∀ (i w : Int), ∃ r, qd1_ 1 0 false a b c d i w () = some r := fun i w => by
  rw [eachW (by omega)]
  split
  ·exact ⟨_, rfl⟩
  ·obtain ⟨r, hr⟩ := tz_tot (n := 0) w
   rw [hr]; exact ⟨_, rfl⟩
 obtain ⟨r0, h0⟩ := w1 0 a
 obtain ⟨r1, h1⟩ := w1 1 b
 obtain ⟨r2, h2⟩ := w1 2 c
 obtain ⟨r3, h3⟩ := w1 3 d
 unfold qd0_ qi3_ qla_
 rw [Option.bind_some, h0, h1, h2, h3]
 rcases r0 with r0 | r0
 ·rcases r1 with r1 | r1
  ·rcases r2 with r2 | r2
   ·rcases r3 with r3 | r3
    ·exact ⟨_, _, rfl⟩
    ·exact ⟨_, _, rfl⟩
   ·exact ⟨_, _, rfl⟩
  ·exact ⟨_, _, rfl⟩
 ·exact ⟨_, _, rfl⟩
def keyF (x : R4) : Int := match qd0_ 1 x.1 x.2.1 x.2.2.1 x.2.2.2 with
 | some (k, _) => k
 | none => 0
theorem key_ok {n : Nat} (hn : 0 < n) (x : R4) : ∃ f, qd0_ n x.1 x.2.1 x.2.2.1 x.2.2.2 = some (keyF x, f) := by
 obtain ⟨k, f, h⟩ := least_tot x.1 x.2.1 x.2.2.1 x.2.2.2
 refine ⟨f, ?_⟩
 rw [least_n hn, h]
 unfold keyF
 rw [h]
def cmpF (x y : R4) : Int := if keyF x < keyF y then -1 else if keyF x > keyF y then 1 else 0
theorem cmp_ok : ∀ n, 20 ≤ n → ∀ x y : R4, qd_ n x.1 x.2.1 x.2.2.1 x.2.2.2 y.1 y.2.1 y.2.2.1 y.2.2.2 = some (cmpF x y) := fun n hn x y => by
 obtain ⟨f, h1⟩ := key_ok (n := n) (by omega) x
 obtain ⟨g, h2⟩ := key_ok (n := n) (by omega) y
 unfold qd_
 rw [h1]
 dsimp only [Option.bind_some]
 rw [h2]
 dsimp only [Option.bind_some]
 unfold qj6_ qjv_ cmpF
 simp only [Option.bind_some]
 split
 ·rfl
 ·split <;> rfl
theorem ltF_key (x y : R4) : ltF cmpF x y = decide (keyF x < keyF y) := by
 unfold ltF cmpF
 by_cases h1 : keyF x < keyF y
 ·simp [h1]
 ·by_cases h2 : keyF x > keyF y
  ·simp [h1, h2]
  ·simp [h1, h2]
theorem cmp_swo : Go.Sort.SWO (ltF cmpF) where
 irrefl x := by rw [ltF_key]; simp
 trans x y z h1 h2 := by rw [ltF_key] at *; simp at *; omega
 ntrans x y z h1 h2 := by rw [ltF_key] at *; simp at *; omega
theorem split_sort {n c : Nat} {L : List R4} (hlen : L.length ≤ 400) (hn : 1000 < n) : ∃ M : List R4, qd5_ n L c = some M ∧ M.length = L.length ∧ Go.Sort.PermIn 0 L.length L.toArray M.toArray ∧ Go.Sort.SortedIn (ltF cmpF) 0 L.length M.toArray := sort_ok cmp_ok cmp_swo hlen hn


def val : List Nat → Nat
 | [] => 0
 | d :: l => d + 256 * val l
theorem qp3_ {a m b k : Nat} (ha : a < 256) (hm : m < 256) : (a + 256 * b) &&& (m + 256 * k) = (a &&& m) + 256 * (b &&& k) := by
 have h1 : a &&& m < 256 := Nat.lt_of_le_of_lt Nat.and_le_left ha
 apply Nat.eq_of_testBit_eq
 intro i
 rw [Nat.testBit_and, show a + 256 * b = 2 ^ 8 * b + a by omega, show m + 256 * k = 2 ^ 8 * k + m by omega, show (a &&& m) + 256 * (b &&& k) = 2 ^ 8 * (b &&& k) + (a &&& m) by omega,
  Nat.testBit_two_pow_mul_add _ ha, Nat.testBit_two_pow_mul_add _ hm, Nat.testBit_two_pow_mul_add _ h1]
 split
 ·rw [Nat.testBit_and]
 ·rw [Nat.testBit_and]
def qtl_ (l : List Nat) : Prop := ∀ d ∈ l, d < 256
def rep (l : List Nat) (m : Nat) : List Nat := l.map fun _ => m
def f1 (d : Nat) : Nat := ((d / 2) &&& 0x55) + (d &&& 0x55)
def f2 (d : Nat) : Nat := ((d / 4) &&& 0x33) + (d &&& 0x33)
def f3 (d : Nat) : Nat := (d / 16 + d) &&& 0x0f
theorem step1 : ∀ l : List Nat, qtl_ l → (val l / 2 &&& val (rep l 0x55)) = val (l.map fun d => (d / 2) &&& 0x55) ∧ (val l &&& val (rep l 0x55)) = val (l.map fun d => d &&& 0x55)
 | [], _ => ⟨rfl, rfl⟩
 | d :: l, h => by
  obtain ⟨i1, i2⟩ := step1 l fun x hx => h x (List.mem_cons_of_mem _ hx)
  have hd := h d (List.mem_cons_self ..)
  constructor
  ·show (d + 256 * val l) / 2 &&& (0x55 + 256 * val (rep l 0x55)) = ((d / 2) &&& 0x55) + 256 * val (l.map fun d => (d / 2) &&& 0x55)
   rw [show (d + 256 * val l) / 2 = (d / 2 + 128 * (val l % 2)) + 256 * (val l / 2) by omega, qp3_ (by omega) (by omega), i1]
   congr 1
   have : ∀ d : Fin 256, ∀ b : Fin 2, (d.val / 2 + 128 * b.val) &&& 0x55 = (d.val / 2) &&& 0x55 := by decide +kernel
   exact this ⟨d, hd⟩ ⟨val l % 2, by omega⟩
  ·show (d + 256 * val l) &&& (0x55 + 256 * val (rep l 0x55)) = (d &&& 0x55) + 256 * val (l.map fun d => d &&& 0x55)
   rw [qp3_ hd (by omega), i2]
theorem step2 : ∀ l : List Nat, qtl_ l → (val l / 4 &&& val (rep l 0x33)) = val (l.map fun d => (d / 4) &&& 0x33) ∧ (val l &&& val (rep l 0x33)) = val (l.map fun d => d &&& 0x33)
 | [], _ => ⟨rfl, rfl⟩
 | d :: l, h => by
  obtain ⟨i1, i2⟩ := step2 l fun x hx => h x (List.mem_cons_of_mem _ hx)
  have hd := h d (List.mem_cons_self ..)
  constructor
  ·show (d + 256 * val l) / 4 &&& (0x33 + 256 * val (rep l 0x33)) = ((d / 4) &&& 0x33) + 256 * val (l.map fun d => (d / 4) &&& 0x33)
   rw [show (d + 256 * val l) / 4 = (d / 4 + 64 * (val l % 4)) + 256 * (val l / 4) by omega, qp3_ (by omega) (by omega), i1]
   congr 1
   have : ∀ d : Fin 256, ∀ b : Fin 4, (d.val / 4 + 64 * b.val) &&& 0x33 = (d.val / 4) &&& 0x33 := by decide +kernel
   exact this ⟨d, hd⟩ ⟨val l % 4, by omega⟩
  ·show (d + 256 * val l) &&& (0x33 + 256 * val (rep l 0x33)) = (d &&& 0x33) + 256 * val (l.map fun d => d &&& 0x33)
   rw [qp3_ hd (by omega), i2]
theorem val_add {f g : Nat → Nat} : ∀ l : List Nat, val (l.map f) + val (l.map g) = val (l.map fun d => f d + g d)
 | [] => rfl
 | d :: l => by
  have := val_add (f := f) (g := g) l
  show f d + 256 * val (l.map f) + (g d + 256 * val (l.map g)) = f d + g d + 256 * val (l.map fun d => f d + g d)
  omega
def nibOK (d : Nat) : Prop := d / 16 ≤ 4 ∧ d % 16 ≤ 4
theorem nib (d : Nat) (h : d < 256) : f1 d < 256 ∧ nibOK (f2 (f1 d)) := by
 have : ∀ d : Fin 256, f1 d.val < 256 ∧ f2 (f1 d.val) / 16 ≤ 4 ∧ f2 (f1 d.val) % 16 ≤ 4 := by decide +kernel
 exact this ⟨d, h⟩
theorem val_mod : ∀ l : List Nat, (∀ d ∈ l, nibOK d) → val l % 16 ≤ 4
 | [], _ => by show 0 % 16 ≤ 4; decide
 | d :: l, h => by
  have := (h d (List.mem_cons_self ..)).2
  show (d + 256 * val l) % 16 ≤ 4
  omega
theorem step3 : ∀ l : List Nat, (∀ d ∈ l, nibOK d) → ((val l / 16 + val l) &&& val (rep l 0x0f)) = val (l.map f3)
 | [], _ => rfl
 | d :: l, h => by
  have ih := step3 l fun x hx => h x (List.mem_cons_of_mem _ hx)
  have hm := val_mod l fun x hx => h x (List.mem_cons_of_mem _ hx)
  obtain ⟨h1, h2⟩ := h d (List.mem_cons_self ..)
  show ((d + 256 * val l) / 16 + (d + 256 * val l)) &&& (0x0f + 256 * val (rep l 0x0f)) = f3 d + 256 * val (l.map f3)
  rw [show (d + 256 * val l) / 16 + (d + 256 * val l) = (d / 16 + 16 * (val l % 16) + d) + 256 * (val l / 16 + val l) by omega, qp3_ (by omega) (by omega), ih]
  congr 1
  have : ∀ d : Fin 80, ∀ b : Fin 5, (d.val / 16 + 16 * b.val + d.val) &&& 0x0f = f3 d.val := by decide +kernel
  exact this ⟨d, by omega⟩ ⟨val l % 16, by omega⟩
def pop8 (d : Nat) : Nat := f3 (f2 (f1 d))
theorem pop8_le (d : Nat) (h : d < 256) : pop8 d ≤ 8 := by
 have : ∀ d : Fin 256, pop8 d.val ≤ 8 := by decide +kernel
 exact this ⟨d, h⟩
theorem pop8_bits (d : Nat) (h : d < 256) : pop8 d = ((List.range 8).map fun i => (d.testBit i).toNat).sum := by
 have : ∀ d : Fin 256, pop8 d.val = ((List.range 8).map fun i => (d.val.testBit i).toNat).sum := by decide +kernel
 exact this ⟨d, h⟩
theorem dv {w r : Nat} (h : w < 256) : (w + 256 * r) / 256 = r := by omega
theorem ad {w r v q : Nat} : (w + 256 * r) + (v + 256 * q) = (w + v) + 256 * (r + q) := by omega
theorem d2 (z : Nat) : z / 65536 = z / 256 / 256 := by omega
theorem d4 (z : Nat) : z / 4294967296 = z / 256 / 256 / 256 / 256 := by omega
theorem lt8 {a b c d e f g h : Nat} (ha : a ≤ 64) (hb : b ≤ 64) (hc : c ≤ 64) (hd : d ≤ 64) (he : e ≤ 64) (hf : f ≤ 64) (hg : g ≤ 64) (hh : h ≤ 64) : val [a, b, c, d, e, f, g, h] < 18446744073709551616 := by
 show a + 256 * (b + 256 * (c + 256 * (d + 256 * (e + 256 * (f + 256 * (g + 256 * (h + 256 * 0))))))) < _
 have h1 : g + 256 * (h + 256 * 0) ≤ 16448 := by omega
 have h2 : f + 256 * (g + 256 * (h + 256 * 0)) ≤ 4210752 := by omega
 have h3 : e + 256 * (f + 256 * (g + 256 * (h + 256 * 0))) ≤ 1077952576 := by omega
 generalize e + 256 * (f + 256 * (g + 256 * (h + 256 * 0))) = r at h3
 have h4 : d + 256 * r ≤ 275955859520 := by omega
 generalize d + 256 * r = q at h4
 have h5 : c + 256 * q ≤ 70644700037184 := by omega
 generalize c + 256 * q = p at h5
 have h6 : b + 256 * p ≤ 18085043209519168 := by omega
 generalize b + 256 * p = o at h6
 omega
theorem last {a b c d e f g h : Nat} (ha : a ≤ 8) (hb : b ≤ 8) (hc : c ≤ 8) (hd : d ≤ 8) (he : e ≤ 8) (hf : f ≤ 8) (hg : g ≤ 8) (hh : h ≤ 8) {z1 z2 z3 : Nat}
  (h1 : z1 = val [a, b, c, d, e, f, g, h] + val [a, b, c, d, e, f, g, h] / 256) (h2 : z2 = z1 + z1 / 65536) (h3 : z3 = z2 + z2 / 4294967296) : z1 < 18446744073709551616 ∧ z2 < 18446744073709551616 ∧ z3 < 18446744073709551616 ∧ z3 % 128 = a + b + c + d + e + f + g + h := by
 have q1 : val [a, b, c, d, e, f, g, h] / 256 = val [b, c, d, e, f, g, h, 0] := dv (by omega)
 have e1 : z1 = val [a + b, b + c, c + d, d + e, e + f, f + g, g + h, h] := by
  rw [h1, q1]
  simp only [val, ad]
 have q2 : z1 / 65536 = val [c + d, d + e, e + f, f + g, g + h, h, 0, 0] := by
  rw [d2, e1]
  simp only [val]
  rw [dv (by omega), dv (by omega)]
 have e2 : z2 = val [a + b + (c + d), b + c + (d + e), c + d + (e + f), d + e + (f + g), e + f + (g + h), f + g + h, g + h, h] := by
  rw [h2, q2, e1]
  simp only [val, ad]
  rfl
 have q3 : z2 / 4294967296 = val [e + f + (g + h), f + g + h, g + h, h, 0, 0, 0, 0] := by
  rw [d4, e2]
  simp only [val]
  rw [dv (by omega), dv (by omega), dv (by omega), dv (by omega)]
 have e3 : z3 = val [a + b + (c + d) + (e + f + (g + h)), b + c + (d + e) + (f + g + h), c + d + (e + f) + (g + h), d + e + (f + g) + h, e + f + (g + h), f + g + h, g + h, h] := by
  rw [h3, q3, e2]
  simp only [val, ad]
  rfl
 refine ⟨by rw [e1]; exact lt8 (by omega) (by omega) (by omega) (by omega) (by omega) (by omega) (by omega) (by omega), by rw [e2]; exact lt8 (by omega) (by omega) (by omega) (by omega) (by omega) (by omega) (by omega) (by omega), by rw [e3]; exact lt8 (by omega) (by omega) (by omega) (by omega) (by omega) (by omega) (by omega) (by omega), ?_⟩
 rw [e3]
 show (a + b + (c + d) + (e + f + (g + h)) + 256 * _) % 128 = _
 omega
theorem band_nat {p q : Nat} (hp : p < 18446744073709551616) (hq : q < 18446744073709551616) : bAnd .u64 ((p : Nat) : Int) ((q : Nat) : Int) = ((p &&& q : Nat) : Int) := by
 have h := ban (BitVec.ofNat 64 p) (BitVec.ofNat 64 q)
 rw [BitVec.toNat_and, BitVec.toNat_ofNat, BitVec.toNat_ofNat, Nat.mod_eq_of_lt hp, Nat.mod_eq_of_lt hq] at h
 exact h
theorem wrap_nat {p : Nat} (hp : p < 18446744073709551616) : IntKind.u64.wrap ((p : Nat) : Int) = ((p : Nat) : Int) := by rw [wrapU]; omega
theorem fdiv_nat (p q : Nat) : Int.fdiv ((p : Nat) : Int) ((q : Nat) : Int) = ((p / q : Nat) : Int) := by
 rw [Int.fdiv_eq_ediv_of_nonneg _ (Int.natCast_nonneg _)]; rfl
theorem low7 {p : Nat} : bAnd .i64 (IntKind.i64.wrap ((p : Nat) : Int)) 127 = ((p % 128 : Nat) : Int) := by
 unfold bAnd
 rw [show IntKind.i64.bits = 64 from rfl, BitVec.toNat_and, BitVec.toNat_ofInt, show (BitVec.ofInt 64 127).toNat = 2 ^ 7 - 1 from rfl, Nat.and_two_pow_sub_one_eq_mod]
 have e : (IntKind.i64.wrap ((p : Nat) : Int) % ((2 ^ 64 : Nat) : Int)).toNat % 2 ^ 7 = p % 128 := by rw [IntKind.wrap_i64]; omega
 rw [e]
 exact qod_ (by omega) (by omega)
def bytesOf (x : Nat) : List Nat := [x % 256, x / 256 % 256, x / 256 / 256 % 256, x / 256 / 256 / 256 % 256, x / 256 / 256 / 256 / 256 % 256, x / 256 / 256 / 256 / 256 / 256 % 256, x / 256 / 256 / 256 / 256 / 256 / 256 % 256, x / 256 / 256 / 256 / 256 / 256 / 256 / 256 % 256]
theorem val_bytes {x : Nat} (h : x < 18446744073709551616) : val (bytesOf x) = x := by
 have s : ∀ x q : Nat, q = x / 256 → x % 256 + 256 * q = x := fun x q e => by omega
 have h7 : x / 256 / 256 / 256 / 256 / 256 / 256 / 256 / 256 = 0 := by omega
 show x % 256 + 256 * (x / 256 % 256 + 256 * (x / 256 / 256 % 256 + 256 * (x / 256 / 256 / 256 % 256 + 256 * (x / 256 / 256 / 256 / 256 % 256 + 256 * (x / 256 / 256 / 256 / 256 / 256 % 256 + 256 * (x / 256 / 256 / 256 / 256 / 256 / 256 % 256 + 256 * (x / 256 / 256 / 256 / 256 / 256 / 256 / 256 % 256 + 256 * 0))))))) = x
 rw [s _ 0 h7.symm, s _ _ rfl, s _ _ rfl, s _ _ rfl, s _ _ rfl, s _ _ rfl, s _ _ rfl, s _ _ rfl]
theorem bytes_ok (x : Nat) : qtl_ (bytesOf x) := fun d h => by
 simp only [bytesOf, List.mem_cons, List.not_mem_nil, or_false] at h
 rcases h with rfl | rfl | rfl | rfl | rfl | rfl | rfl | rfl <;> omega
def bit (X : BitVec 64) (i : Nat) : Nat := (X.getLsbD i).toNat
def popc (X : BitVec 64) : Nat := ((List.range 64).map (bit X)).sum
theorem qnv_ (X : BitVec 64) (j : Nat) : pop8 (X.toNat / 2 ^ (8 * j) % 256) = ((List.range 8).map fun i => bit X (8 * j + i)).sum := by
 rw [pop8_bits _ (by omega)]
 congr 1
 apply List.map_congr_left
 intro i hi
 have hi := List.mem_range.1 hi
 unfold bit
 congr 1
 rw [show (256 : Nat) = 2 ^ 8 from rfl, Nat.testBit_mod_two_pow, Nat.testBit_div_two_pow, decide_eq_true hi, Bool.true_and, BitVec.getLsbD, Nat.add_comm i (8 * j)]
theorem range64 (f : Nat → Nat) : ((List.range 64).map f).sum = ((List.range 8).map fun i => f (8 * 0 + i)).sum + (((List.range 8).map fun i => f (8 * 1 + i)).sum + (((List.range 8).map fun i => f (8 * 2 + i)).sum + (((List.range 8).map fun i => f (8 * 3 + i)).sum + (((List.range 8).map fun i => f (8 * 4 + i)).sum + (((List.range 8).map fun i => f (8 * 5 + i)).sum + (((List.range 8).map fun i => f (8 * 6 + i)).sum + ((List.range 8).map fun i => f (8 * 7 + i)).sum)))))) := by
 have e : List.range 64 = (List.range 8).map (fun i => 8 * 0 + i) ++ ((List.range 8).map (fun i => 8 * 1 + i) ++ ((List.range 8).map (fun i => 8 * 2 + i) ++ ((List.range 8).map (fun i => 8 * 3 + i) ++ ((List.range 8).map (fun i => 8 * 4 + i) ++ ((List.range 8).map (fun i => 8 * 5 + i) ++ ((List.range 8).map (fun i => 8 * 6 + i) ++ (List.range 8).map (fun i => 8 * 7 + i))))))) := by decide +kernel
 rw [e]
 simp only [List.map_append, List.sum_append_nat, List.map_map]
 rfl
theorem popc_bytes (X : BitVec 64) : ((bytesOf X.toNat).map pop8).sum = popc X := by
 unfold popc
 rw [range64, ← qnv_, ← qnv_, ← qnv_, ← qnv_, ← qnv_, ← qnv_, ← qnv_, ← qnv_]
 have d : ∀ x a b : Nat, x / 2 ^ a / 256 = x / 2 ^ (a + 8) := fun x a b => by rw [Nat.div_div_eq_div_mul, Nat.pow_add]
 have e1 : X.toNat / 256 = X.toNat / 2 ^ (8 * 1) := rfl
 show pop8 (X.toNat % 256) + (pop8 (X.toNat / 256 % 256) + (pop8 (X.toNat / 256 / 256 % 256) + (pop8 (X.toNat / 256 / 256 / 256 % 256) + (pop8 (X.toNat / 256 / 256 / 256 / 256 % 256) + (pop8 (X.toNat / 256 / 256 / 256 / 256 / 256 % 256) + (pop8 (X.toNat / 256 / 256 / 256 / 256 / 256 / 256 % 256) + (pop8 (X.toNat / 256 / 256 / 256 / 256 / 256 / 256 / 256 % 256) + 0))))))) = _
 rw [e1, d _ _ 0, d _ _ 0, d _ _ 0, d _ _ 0, d _ _ 0, d _ _ 0, Nat.add_zero, show X.toNat / 2 ^ (8 * 0) = X.toNat by simp]
 rfl
theorem val_lt : ∀ l : List Nat, qtl_ l → val l < 256 ^ l.length
 | [], _ => by show 0 < 1; decide
 | d :: l, h => by
  have ih := val_lt l fun x hx => h x (List.mem_cons_of_mem _ hx)
  have hd := h d (List.mem_cons_self ..)
  show d + 256 * val l < 256 ^ (l.length + 1)
  rw [Nat.pow_succ]
  omega
theorem val64 {l : List Nat} (h : qtl_ l) (hl : l.length = 8) : val l < 18446744073709551616 := by
 have := val_lt l h
 rw [hl] at this
 exact this
theorem ones1 {x l : Nat} {M : Nat} (hx : x < 18446744073709551616) (hM : M < 18446744073709551616) {K : Nat} (hl : (x / K &&& M) + (x &&& M) = l) (h : l < 18446744073709551616) (hK : 0 < K) : IntKind.u64.wrap (bAnd .u64 (Int.fdiv ((x : Nat) : Int) ((K : Nat) : Int)) ((M : Nat) : Int) + bAnd .u64 ((x : Nat) : Int) ((M : Nat) : Int)) = ((l : Nat) : Int) := by
 have h1 : x / K < 18446744073709551616 := Nat.lt_of_le_of_lt (Nat.div_le_self _ _) hx
 rw [fdiv_nat, band_nat h1 hM, band_nat hx hM, ← hl, show (((x / K &&& M : Nat) : Int) + ((x &&& M : Nat) : Int)) = (((x / K &&& M) + (x &&& M) : Nat) : Int) by omega]
 exact wrap_nat (by omega)
theorem sh_nat {p K : Nat} {r : Nat} (h : r = p + p / K) (hr : r < 18446744073709551616) : IntKind.u64.wrap (((p : Nat) : Int) + Int.fdiv ((p : Nat) : Int) ((K : Nat) : Int)) = ((r : Nat) : Int) := by
 rw [fdiv_nat, show ((p : Nat) : Int) + ((p / K : Nat) : Int) = ((p + p / K : Nat) : Int) by omega, ← h]
 exact wrap_nat hr
theorem ones_run {n : Nat} {x c1 c2 c3 z1 z2 z3 : Nat} (h1 : IntKind.u64.wrap (bAnd .u64 (Int.fdiv ((x : Nat) : Int) 2) 6148914691236517205 + bAnd .u64 ((x : Nat) : Int) 6148914691236517205) = ((c1 : Nat) : Int))
  (h2 : IntKind.u64.wrap (bAnd .u64 (Int.fdiv ((c1 : Nat) : Int) 4) 3689348814741910323 + bAnd .u64 ((c1 : Nat) : Int) 3689348814741910323) = ((c2 : Nat) : Int))
  (h3 : bAnd .u64 (IntKind.u64.wrap (Int.fdiv ((c2 : Nat) : Int) 16 + ((c2 : Nat) : Int))) 1085102592571150095 = ((c3 : Nat) : Int))
  (h4 : IntKind.u64.wrap (((c3 : Nat) : Int) + Int.fdiv ((c3 : Nat) : Int) 256) = ((z1 : Nat) : Int)) (h5 : IntKind.u64.wrap (((z1 : Nat) : Int) + Int.fdiv ((z1 : Nat) : Int) 65536) = ((z2 : Nat) : Int))
  (h6 : IntKind.u64.wrap (((z2 : Nat) : Int) + Int.fdiv ((z2 : Nat) : Int) 4294967296) = ((z3 : Nat) : Int)) : qds_ n ((x : Nat) : Int) = some ((z3 % 128 : Nat) : Int) := by
 unfold qds_
 rw [h1, Option.bind_some, h2, Option.bind_some, h3, Option.bind_some, h4, h5, Option.bind_some, h6, Option.bind_some, low7]
theorem val_le {m : Nat} : ∀ l : List Nat, (∀ d ∈ l, d ≤ m) → val l ≤ val (rep l m)
 | [], _ => Nat.le_refl _
 | d :: l, h => by
  have ih := val_le l fun x hx => h x (List.mem_cons_of_mem _ hx)
  have hd := h d (List.mem_cons_self ..)
  show d + 256 * val l ≤ m + 256 * val (rep l m)
  omega
theorem ones3 {c2 c3 M : Nat} (h2 : c2 ≤ 4919131752989213764) (hM : M < 18446744073709551616) (s5 : (c2 / 16 + c2 &&& M) = c3) : bAnd .u64 (IntKind.u64.wrap (Int.fdiv ((c2 : Nat) : Int) ((16 : Nat) : Int) + ((c2 : Nat) : Int))) ((M : Nat) : Int) = ((c3 : Nat) : Int) := by
 have h := wrap_nat (p := c2 / 16 + c2) (by omega)
 rw [fdiv_nat, show (((c2 / 16 : Nat) : Int) + ((c2 : Nat) : Int)) = ((c2 / 16 + c2 : Nat) : Int) by omega, h, band_nat (by omega) hM, s5]
theorem c55 : val [0x55, 0x55, 0x55, 0x55, 0x55, 0x55, 0x55, 0x55] = 6148914691236517205 := by decide +kernel
theorem c33 : val [0x33, 0x33, 0x33, 0x33, 0x33, 0x33, 0x33, 0x33] = 3689348814741910323 := by decide +kernel
theorem c0f : val [0x0f, 0x0f, 0x0f, 0x0f, 0x0f, 0x0f, 0x0f, 0x0f] = 1085102592571150095 := by decide +kernel
theorem c44 : val [68, 68, 68, 68, 68, 68, 68, 68] = 4919131752989213764 := by decide +kernel
theorem rep8 {a b c d e f g h m : Nat} : rep [a, b, c, d, e, f, g, h] m = [m, m, m, m, m, m, m, m] := rfl
theorem val_arg {l l' : List Nat} {v : Nat} (h : l = l') (h2 : val l' = v) : val l = v := by rw [h, h2]
theorem ones_end {n x c1 c2 c3 s : Nat} (hx : x < 18446744073709551616) (v1 : c1 < 18446744073709551616) (v2 : c2 < 18446744073709551616) (w2 : c2 ≤ 4919131752989213764)
  (e1 : (x / 2 &&& 6148914691236517205) + (x &&& 6148914691236517205) = c1) (e2 : (c1 / 4 &&& 3689348814741910323) + (c1 &&& 3689348814741910323) = c2) (s5 : (c2 / 16 + c2 &&& 1085102592571150095) = c3)
  (q : ∀ z1 z2 z3, z1 = c3 + c3 / 256 → z2 = z1 + z1 / 65536 → z3 = z2 + z2 / 4294967296 → z1 < 18446744073709551616 ∧ z2 < 18446744073709551616 ∧ z3 < 18446744073709551616 ∧ z3 % 128 = s) : qds_ n ((x : Nat) : Int) = some ((s : Nat) : Int) := by
 obtain ⟨q1, q2, q3, q4⟩ := q _ _ _ rfl rfl rfl
 have k1 := ones1 (K := 2) (M := 6148914691236517205) hx (by omega) e1 v1 (by omega)
 have k2 := ones1 (K := 4) (M := 3689348814741910323) v1 (by omega) e2 v2 (by omega)
 have k3 := ones3 (M := 1085102592571150095) w2 (by omega) s5
 have k4 := sh_nat (K := 256) rfl q1
 have k5 := sh_nat (K := 65536) rfl q2
 have k6 := sh_nat (K := 4294967296) rfl q3
 rw [show ((2 : Nat) : Int) = 2 from rfl, show ((6148914691236517205 : Nat) : Int) = 6148914691236517205 from rfl] at k1
 rw [show ((4 : Nat) : Int) = 4 from rfl, show ((3689348814741910323 : Nat) : Int) = 3689348814741910323 from rfl] at k2
 rw [show ((16 : Nat) : Int) = 16 from rfl, show ((1085102592571150095 : Nat) : Int) = 1085102592571150095 from rfl] at k3
 rw [show ((256 : Nat) : Int) = 256 from rfl] at k4
 rw [show ((65536 : Nat) : Int) = 65536 from rfl] at k5
 rw [show ((4294967296 : Nat) : Int) = 4294967296 from rfl] at k6
 rw [ones_run k1 k2 k3 k4 k5 k6, q4]
theorem ones_list {n x : Nat} {l : List Nat} (hx : x < 18446744073709551616) (hv : val l = x) (hb : qtl_ l) {b0 b1 b2 b3 b4 b5 b6 b7 : Nat} (hl : l = [b0, b1, b2, b3, b4, b5, b6, b7]) : qds_ n ((x : Nat) : Int) = some (((l.map pop8).sum : Nat) : Int) := by
 obtain ⟨s1, s2⟩ := step1 _ hb
 have hb1 : qtl_ (l.map f1) := fun d hd => by
  obtain ⟨c, hc, rfl⟩ := List.mem_map.1 hd
  exact (nib c (hb c hc)).1
 obtain ⟨s3, s4⟩ := step2 _ hb1
 have hn : ∀ d ∈ (l.map f1).map f2, nibOK d := fun d hd => by
  obtain ⟨c, hc, rfl⟩ := List.mem_map.1 hd
  obtain ⟨b, hb', rfl⟩ := List.mem_map.1 hc
  exact (nib b (hb b hb')).2
 have hb2 : qtl_ ((l.map f1).map f2) := fun d hd => by
  obtain ⟨h1, h2⟩ := hn d hd
  omega
 have s5 := step3 _ hn
 have a1 := val_add (f := fun d => (d / 2) &&& 0x55) (g := fun d => d &&& 0x55) l
 have a2 := val_add (f := fun d => (d / 4) &&& 0x33) (g := fun d => d &&& 0x33) (l.map f1)
 have m1 : val (rep l 0x55) = 6148914691236517205 := val_arg (by rw [hl]; exact rep8) c55
 have m2 : val (rep (l.map f1) 0x33) = 3689348814741910323 := val_arg (by rw [hl]; exact rep8) c33
 have m3 : val (rep ((l.map f1).map f2) 0x0f) = 1085102592571150095 := val_arg (by rw [hl]; exact rep8) c0f
 have m4 : val (rep ((l.map f1).map f2) 68) = 4919131752989213764 := val_arg (by rw [hl]; exact rep8) c44
 rw [m1] at s1 s2
 rw [m2] at s3 s4
 rw [m3] at s5
 have w2 := val_le (m := 68) ((l.map f1).map f2) fun d hd => by
  obtain ⟨h1, h2⟩ := hn d hd
  omega
 rw [m4] at w2
 have v1 := val64 hb1 (by rw [hl]; rfl)
 have v2 := val64 hb2 (by rw [hl]; rfl)
 have e3 : ((l.map f1).map f2).map f3 = l.map pop8 := by rw [List.map_map, List.map_map]; rfl
 rw [e3] at s5
 have e1 : (x / 2 &&& 6148914691236517205) + (x &&& 6148914691236517205) = val (l.map f1) := by rw [← hv, s1, s2, a1]; rfl
 have e2 : (val (l.map f1) / 4 &&& 3689348814741910323) + (val (l.map f1) &&& 3689348814741910323) = val ((l.map f1).map f2) := by rw [s3, s4, a2]; rfl
 have hle : ∀ d ∈ l, pop8 d ≤ 8 := fun d hd => pop8_le d (hb d hd)
 refine ones_end hx v1 v2 w2 e1 e2 s5 fun z1 z2 z3 h1 h2 h3 => ?_
 subst hl
 have q := last (hle b0 (by simp)) (hle b1 (by simp)) (hle b2 (by simp)) (hle b3 (by simp)) (hle b4 (by simp)) (hle b5 (by simp)) (hle b6 (by simp)) (hle b7 (by simp)) h1 h2 h3
 refine ⟨q.1, q.2.1, q.2.2.1, q.2.2.2.trans ?_⟩
 show _ = pop8 b0 + (pop8 b1 + (pop8 b2 + (pop8 b3 + (pop8 b4 + (pop8 b5 + (pop8 b6 + (pop8 b7 + 0)))))))
 omega
theorem ones_ok {n : Nat} (X : BitVec 64) : qds_ n ((X.toNat : Nat) : Int) = some ((popc X : Nat) : Int) := by
 have h := ones_list (n := n) X.isLt (val_bytes X.isLt) (bytes_ok X.toNat) rfl
 rw [popc_bytes] at h
 exact h


abbrev I (x : BitVec 64) : Int := ((x.toNat : Nat) : Int)
structure C4 where
 a : BitVec 64
 b : BitVec 64
 c : BitVec 64
 d : BitVec 64
namespace C4
def w (X : C4) : Nat → BitVec 64
 | 0 => X.a
 | 1 => X.b
 | 2 => X.c
 | _ => X.d
def mem (X : C4) (i : Nat) : Bool := (X.w (i / 64)).getLsbD (i % 64)
def or (X Y : C4) : C4 := ⟨X.a ||| Y.a, X.b ||| Y.b, X.c ||| Y.c, X.d ||| Y.d⟩
def and (X Y : C4) : C4 := ⟨X.a &&& Y.a, X.b &&& Y.b, X.c &&& Y.c, X.d &&& Y.d⟩
def not (X : C4) : C4 := ⟨~~~X.a, ~~~X.b, ~~~X.c, ~~~X.d⟩
def len (X : C4) : Nat := popc X.a + popc X.b + popc X.c + popc X.d
def zero : C4 := ⟨0, 0, 0, 0⟩
def add (X : C4) (i : Nat) : C4 := match i / 64 with
 | 0 => ⟨X.a ||| one (i % 64), X.b, X.c, X.d⟩
 | 1 => ⟨X.a, X.b ||| one (i % 64), X.c, X.d⟩
 | 2 => ⟨X.a, X.b, X.c ||| one (i % 64), X.d⟩
 | _ => ⟨X.a, X.b, X.c, X.d ||| one (i % 64)⟩
theorem ext' {X Y : C4} (h : ∀ i, i < 256 → X.mem i = Y.mem i) : X = Y := by
 have hw : ∀ k, k < 4 → X.w k = Y.w k := fun k hk => by
  apply BitVec.eq_of_getLsbD_eq
  intro i hi
  have := h (64 * k + i) (by omega)
  unfold mem at this
  rw [show (64 * k + i) / 64 = k by omega, show (64 * k + i) % 64 = i by omega] at this
  exact this
 have h0 : X.a = Y.a := hw 0 (by omega)
 have h1 : X.b = Y.b := hw 1 (by omega)
 have h2 : X.c = Y.c := hw 2 (by omega)
 have h3 : X.d = Y.d := hw 3 (by omega)
 cases X; cases Y
 simp only at h0 h1 h2 h3
 rw [h0, h1, h2, h3]
theorem mem_or (X Y : C4) (i : Nat) : (X.or Y).mem i = (X.mem i || Y.mem i) := by
 unfold mem
 have : (X.or Y).w (i / 64) = X.w (i / 64) ||| Y.w (i / 64) := by
  unfold w; split <;> rfl
 rw [this, BitVec.getLsbD_or]
theorem mem_zero (i : Nat) : zero.mem i = false := by
 unfold mem
 have : zero.w (i / 64) = 0#64 := by unfold w; split <;> rfl
 rw [this, BitVec.getLsbD_zero]
end C4
theorem bq64 {b : Nat} (h : b < 256) : IntKind.u8.wrap (Int.tdiv (b : Int) (64 : Int)) = ((b / 64 : Nat) : Int) := by
 rw [show Int.tdiv (b : Int) (64 : Int) = ((b / 64 : Nat) : Int) from rfl]
 simp [IntKind.wrap, IntKind.bits, IntKind.signed]
 omega
theorem bm64 {b : Nat} : Int.tmod (b : Int) (64 : Int) = ((b % 64 : Nat) : Int) := rfl
theorem has_ok {n b : Nat} (X : C4) (h : b < 256) : qmg_ n (I X.a) (I X.b) (I X.c) (I X.d) (b : Int) = some (X.mem b) := by
 unfold qmg_
 have hq : b / 64 < 4 := by omega
 have hr : b % 64 < 64 := by omega
 rw [bq64 h, bm64]
 unfold C4.mem
 generalize b / 64 = q at hq ⊢
 generalize b % 64 = r at hr ⊢
 rw [if_pos (by omega), if_pos ⟨by omega, by omega⟩, if_pos (by rw [Int.toNat_natCast]; exact hq), Option.bind_some, if_pos (by omega), Option.bind_some, Int.toNat_natCast]
 have hg : [I X.a, I X.b, I X.c, I X.d].getD q 0 = I (X.w q) := by
  obtain rfl | rfl | rfl | rfl : q = 0 ∨ q = 1 ∨ q = 2 ∨ q = 3 := by omega
  all_goals rfl
 rw [hg]
 by_cases hb : (X.w q).getLsbD r = true
 ·rw [if_pos ((bit1 hr _).2 hb), hb]
 ·rw [if_neg (fun e => hb ((bit1 hr _).1 e)), Bool.eq_false_iff.2 hb]
theorem sum2 {f g h k : Nat → Nat} (e : ∀ i, f i + g i = h i + k i) : ∀ l : List Nat, (l.map f).sum + (l.map g).sum = (l.map h).sum + (l.map k).sum
 | [] => rfl
 | i :: l => by
  have := sum2 e l
  have := e i
  simp only [List.map_cons, List.sum_cons]
  omega
theorem popc2 (X Y : BitVec 64) : popc (X ||| Y) + popc (X &&& Y) = popc X + popc Y := sum2 (fun i => by
 unfold bit
 rw [BitVec.getLsbD_or, BitVec.getLsbD_and]
 cases X.getLsbD i <;> cases Y.getLsbD i <;> rfl) _
theorem qtm_ (X : BitVec 64) : popc X ≤ 64 := by
 have h : ∀ l : List Nat, (l.map (bit X)).sum ≤ l.length := fun l => by
  induction l with
  | nil => exact Nat.le_refl _
  | cons i l ih =>
   have : bit X i ≤ 1 := by unfold bit; cases X.getLsbD i <;> decide
   simp only [List.map_cons, List.sum_cons, List.length_cons]
   omega
 have := h (List.range 64)
 rw [List.length_range] at this
 exact this
theorem len_le (X : C4) : X.len ≤ 256 := by
 have := qtm_ X.a
 have := qtm_ X.b
 have := qtm_ X.c
 have := qtm_ X.d
 unfold C4.len
 omega
theorem len_ok {n : Nat} (X : C4) : qnf_ n (I X.a) (I X.b) (I X.c) (I X.d) = some ((X.len : Nat) : Int) := by
 have := qtm_ X.a
 have := qtm_ X.b
 have := qtm_ X.c
 have := qtm_ X.d
 unfold qnf_ C4.len
 rw [ones_ok, ones_ok, ones_ok, ones_ok]
 simp only [Option.bind_some]
 generalize popc X.a = p at *
 generalize popc X.b = q at *
 generalize popc X.c = r at *
 generalize popc X.d = s at *
 rw [qod_ (x := (0 : Int) + (p : Int)) (by omega) (by omega), qod_ (x := (0 : Int) + (p : Int) + (q : Int)) (by omega) (by omega), qod_ (x := (0 : Int) + (p : Int) + (q : Int) + (r : Int)) (by omega) (by omega), qod_ (by omega) (by omega)]
 congr 1
 omega
theorem len2 (X Y : C4) : (X.or Y).len + (X.and Y).len = X.len + Y.len := by
 have := popc2 X.a Y.a
 have := popc2 X.b Y.b
 have := popc2 X.c Y.c
 have := popc2 X.d Y.d
 unfold C4.len C4.or C4.and
 simp only
 omega


def row (X : C4) : R4 := (I X.a, I X.b, I X.c, I X.d)
theorem I_zero {x : BitVec 64} : (I x == (0 : Int)) = decide (x = 0#64) := by
 rw [Bool.eq_iff_iff, decide_eq_true_iff, beq_iff_eq]
 constructor
 ·intro h; exact inj64.1 (h.trans rfl)
 ·intro h; rw [h]; rfl
theorem z_test (X : C4) : (!((I X.a == (0 : Int)) && ((I X.b == (0 : Int)) && ((I X.c == (0 : Int)) && ((I X.d == (0 : Int)) && true))))) = true ↔ X ≠ C4.zero := by
 rw [I_zero, I_zero, I_zero, I_zero, Bool.not_eq_true']
 constructor
 ·intro h e
  rw [e] at h
  simp [C4.zero] at h
 ·intro h
  rw [Bool.eq_false_iff]
  intro hc
  simp only [Bool.and_eq_true, decide_eq_true_eq, and_true] at hc
  obtain ⟨h1, h2, h3, h4⟩ := hc
  apply h
  obtain ⟨a, b, c, d⟩ := X
  simp only at h1 h2 h3 h4
  rw [h1, h2, h3, h4]; rfl
theorem meetR {n : Nat} (X Y : C4) : qgy_ n (I X.a) (I X.b) (I X.c) (I X.d) (I Y.a) (I Y.b) (I Y.c) (I Y.d) = some (I (X.and Y).a, I (X.and Y).b, I (X.and Y).c, I (X.and Y).d) := by
 unfold qgy_ I
 rw [ban, ban, ban, ban]; rfl
theorem notR {n : Nat} (X : C4) : qh8_ n (I X.a) (I X.b) (I X.c) (I X.d) = some (I X.not.a, I X.not.b, I X.not.c, I X.not.d) := by
 unfold qh8_ I
 rw [bnot, bnot, bnot, bnot]; rfl
open Classical in
def keep (X : C4) : List C4 := if X = C4.zero then [] else [X]
def cutC (Ps : List C4) (X : C4) : List C4 := Ps.flatMap fun P => keep (P.and X) ++ keep (P.and X.not)
theorem keep_len (X : C4) : (keep X).length ≤ 1 := by unfold keep; split <;> simp
theorem cut_len (X : C4) : ∀ Ps : List C4, (cutC Ps X).length ≤ 2 * Ps.length
 | [] => Nat.le_refl _
 | P :: Ps => by
  have h := cut_len X Ps
  have e : cutC (P :: Ps) X = (keep (P.and X) ++ keep (P.and X.not)) ++ cutC Ps X := rfl
  have h1 := keep_len (P.and X)
  have h2 := keep_len (P.and X.not)
  rw [e, List.length_append, List.length_append, List.length_cons]
  omega
theorem half_ok {n c : Nat} {L : List R4} {x1 x2 x3 x4 len i : Int} {H0 H1 : C4} {acc : List R4} (hacc : acc.length ≤ 2000) (hn : 10 < n) :
  qm0_ n L x1 x2 x3 x4 c len i (I H0.a) (I H0.b) (I H0.c) (I H0.d) (I H1.a) (I H1.b) (I H1.c) (I H1.d) (acc, 0) = some (acc ++ (keep H0 ++ keep H1).map row) := by
 have st : ∀ (k : Nat) (H : C4) (a : List R4), k < 2 → a.length ≤ 2001 → ([I H0.a, I H1.a].getD k 0 = I H.a) → ([I H0.b, I H1.b].getD k 0 = I H.b) → ([I H0.c, I H1.c].getD k 0 = I H.c) → ([I H0.d, I H1.d].getD k 0 = I H.d) →
   qhr_ n L x1 x2 x3 x4 c len i (I H0.a) (I H0.b) (I H0.c) (I H0.d) (I H1.a) (I H1.b) (I H1.c) (I H1.d) (a, (k : Int)) = some (.inl (a ++ (keep H).map row, ((k + 1 : Nat) : Int))) := fun k H a hk ha g1 g2 g3 g4 => by
  unfold qhr_
  dsimp only
  rw [if_pos (by omega), if_pos (by omega), Int.toNat_natCast, g1, g2, g3, g4, qtk_ (by omega)]
  by_cases h : H = C4.zero
  ·have hz : ¬ (!((I H.a == (0 : Int)) && ((I H.b == (0 : Int)) && ((I H.c == (0 : Int)) && ((I H.d == (0 : Int)) && true))))) = true := fun k => (z_test H).1 k h
   rw [if_neg hz]
   unfold keep
   rw [if_pos h, List.map_nil, List.append_nil]
  ·rw [if_pos ((z_test H).2 h), if_pos (by omega)]
   unfold keep
   rw [if_neg h]
   rfl
 obtain ⟨k, rfl⟩ : ∃ k, n = k + 3 := ⟨n - 3, by omega⟩
 unfold qm0_
 have s0 := st 0 H0 acc (by omega) (by omega) rfl rfl rfl rfl
 have hk0 := keep_len H0
 have s1 := st 1 H1 (acc ++ (keep H0).map row) (by omega) (by rw [List.length_append, List.length_map]; omega) rfl rfl rfl rfl
 have s2 : qhr_ (k + 3) L x1 x2 x3 x4 c len i (I H0.a) (I H0.b) (I H0.c) (I H0.d) (I H1.a) (I H1.b) (I H1.c) (I H1.d) (acc ++ (keep H0).map row ++ (keep H1).map row, ((1 + 1 : Nat) : Int)) = some (.inr (acc ++ (keep H0).map row ++ (keep H1).map row)) := by
  unfold qhr_
  dsimp only
  rw [if_neg (by omega)]
 rw [show (0 : Int) = ((0 : Nat) : Int) from rfl, qcv_, s0]
 dsimp only [Option.bind_some]
 rw [qcv_, show ((0 + 1 : Nat) : Int) = ((1 : Nat) : Int) from rfl, s1]
 dsimp only [Option.bind_some]
 rw [qcv_, s2]
 dsimp only [Option.bind_some]
 rw [List.map_append, List.append_assoc]
theorem cut_ok {n c : Nat} {Ps : List C4} {X : C4} (hP : Ps.length ≤ 500) (hn : 1000 < n) : qmd_ n (Ps.map row) c (I X.a) (I X.b) (I X.c) (I X.d) = some ((cutC Ps X).map row) := by
 have hl : (Ps.map row).length = Ps.length := List.length_map ..
 have q : ∀ (N i : Nat), i ≤ Ps.length → Ps.length - i < N → iterM (qhs_ n (Ps.map row) (I X.a) (I X.b) (I X.c) (I X.d) c ((Ps.length : Nat) : Int)) N ((cutC (Ps.take i) X).map row, (i : Int)) = some ((cutC Ps X).map row) := by
  intro N
  induction N with
  | zero => intro i _ h; exact absurd h (Nat.not_lt_zero _)
  | succ N ih =>
   intro i hi hN
   rw [qcv_]
   by_cases c1 : i < Ps.length
   ·have hb : qhs_ n (Ps.map row) (I X.a) (I X.b) (I X.c) (I X.d) c ((Ps.length : Nat) : Int) ((cutC (Ps.take i) X).map row, (i : Int)) = some (.inl ((cutC (Ps.take (i + 1)) X).map row, ((i + 1 : Nat) : Int))) := by
     have hg : (Ps.map row).getD i (0, 0, 0, 0) = row Ps[i] := by simp [List.getD_eq_getElem?_getD, c1]
     have hcl := cut_len X (Ps.take i)
     rw [List.length_take] at hcl
     unfold qhs_
     dsimp only
     rw [if_pos (by omega), if_pos (by omega), Option.bind_some, Int.toNat_natCast, hg]
     unfold row
     dsimp only
     rw [meetR]
     dsimp only [Option.bind_some]
     rw [notR]
     dsimp only [Option.bind_some]
     rw [meetR]
     dsimp only [Option.bind_some]
     have hh := half_ok (n := n) (c := c) (L := Ps.map row) (x1 := I X.a) (x2 := I X.b) (x3 := I X.c) (x4 := I X.d) (len := ((Ps.length : Nat) : Int)) (i := (i : Int)) (H0 := Ps[i].and X) (H1 := Ps[i].and X.not) (acc := (cutC (Ps.take i) X).map row) (by rw [List.length_map]; omega) (by omega)
     unfold row at hh
     rw [hh, Option.bind_some, qtk_ (by omega)]
     have e : cutC (Ps.take (i + 1)) X = cutC (Ps.take i) X ++ (keep (Ps[i].and X) ++ keep (Ps[i].and X.not)) := by
      unfold cutC
      rw [List.take_succ_eq_append_getElem c1, List.flatMap_append]
      simp
     rw [e]
     simp only [List.map_append]
    rw [hb]
    exact ih (i + 1) (by omega) (by omega)
   ·have hi : i = Ps.length := by omega
    unfold qhs_
    dsimp only
    rw [if_neg (by omega), hi, List.take_length]
    rfl
 unfold qmd_
 rw [hl, qtk_ (by omega), Option.bind_some, if_pos (by omega), if_pos (by omega)]
 have q0 := q n 0 (Nat.zero_le _) (by omega)
 have q0 : qol_ n (Ps.map row) (I X.a) (I X.b) (I X.c) (I X.d) c ((Ps.length : Nat) : Int) ([], 0) = some ((cutC Ps X).map row) := q0
 rw [q0]; rfl


def ql7_ (Xs : List C4) : List C4 := Xs.foldl cutC [C4.zero.not]
theorem parts_len : ∀ (Xs Ps : List C4), (Xs.foldl cutC Ps).length ≤ 2 ^ Xs.length * Ps.length
 | [], Ps => by simp
 | X :: Xs, Ps => by
  have h := parts_len Xs (cutC Ps X)
  have h1 := cut_len X Ps
  rw [List.foldl_cons, List.length_cons, Nat.pow_succ, Nat.mul_assoc]
  exact Nat.le_trans h (Nat.mul_le_mul_left _ h1)
theorem qxq_ {Xs : List C4} (h : Xs.length ≤ 8) : (ql7_ Xs).length ≤ 256 := by
 have h1 := parts_len Xs [C4.zero.not]
 have h2 : 2 ^ Xs.length ≤ 2 ^ 8 := Nat.pow_le_pow_right (by omega) h
 unfold ql7_
 simp only [List.length_singleton, Nat.mul_one] at h1
 omega
theorem splitL_ok {n : Nat} {w : WL rw_uuuu} {Xs : List C4} (hw : w.l = Xs.map row) (h8 : Xs.length ≤ 8) (hn : 1000 < n) : ∃ c, ql2_ n w ((Xs.length : Nat) : Int) ([row C4.zero.not], 1, 0) = some ((ql7_ Xs).map row, c) := by
 have hl : w.l.length = Xs.length := by rw [hw, List.length_map]
 have q : ∀ (N i c : Nat), i ≤ Xs.length → Xs.length - i < N → ∃ c', iterM (qgj_ n w ((Xs.length : Nat) : Int)) N ((ql7_ (Xs.take i)).map row, c, (i : Int)) = some ((ql7_ Xs).map row, c') := by
  intro N
  induction N with
  | zero => intro i c _ h; exact absurd h (Nat.not_lt_zero _)
  | succ N ih =>
   intro i c hi hN
   rw [qcv_]
   by_cases c1 : i < Xs.length
   ·have hb : qgj_ n w ((Xs.length : Nat) : Int) ((ql7_ (Xs.take i)).map row, c, (i : Int)) = some (.inl ((ql7_ (Xs.take (i + 1))).map row, (Nat.add big 4), ((i + 1 : Nat) : Int))) := by
     have hg : w.l.getD i (0, 0, 0, 0) = row Xs[i] := by rw [hw]; simp [List.getD_eq_getElem?_getD, c1]
     have hp := qxq_ (Xs := Xs.take i) (by rw [List.length_take]; omega)
     have hc := cut_ok (n := n) (c := c) (Ps := ql7_ (Xs.take i)) (X := Xs[i]) (by omega) hn
     have e : ql7_ (Xs.take (i + 1)) = cutC (ql7_ (Xs.take i)) Xs[i] := by
      unfold ql7_
      rw [List.take_succ_eq_append_getElem c1, List.foldl_append]; rfl
     unfold qgj_
     dsimp only
     rw [if_pos (by omega), if_pos (by omega), Option.bind_some, Int.toNat_natCast, hg]
     have hc : qmd_ n ((ql7_ (Xs.take i)).map row) c (row Xs[i]).1 (row Xs[i]).2.1 (row Xs[i]).2.2.1 (row Xs[i]).2.2.2 = _ := hc
     rw [hc, Option.bind_some, qtk_ (by omega), e]
    rw [hb]
    exact ih (i + 1) _ (by omega) (by omega)
   ·have hi : i = Xs.length := by omega
    refine ⟨c, ?_⟩
    unfold qgj_
    dsimp only
    rw [if_neg (by omega), hi, List.take_length]
    rfl
 exact q n 0 1 (Nat.zero_le _) (by omega)
theorem split_ok {n : Nat} {w : WL rw_uuuu} {Xs : List C4} (hw : w.l = Xs.map row) (h8 : Xs.length ≤ 8) (hn : 1000 < n) : ∃ (M : List R4) (c : Nat), ql3_ n w = some (M, (ql7_ Xs).length, c) ∧ M.length = (ql7_ Xs).length ∧ Go.Sort.PermIn 0 (ql7_ Xs).length ((ql7_ Xs).map row).toArray M.toArray ∧ Go.Sort.SortedIn (ltF cmpF) 0 (ql7_ Xs).length M.toArray := by
 obtain ⟨c, h1⟩ := splitL_ok hw h8 hn
 have hp := qxq_ h8
 have hl : ((ql7_ Xs).map row).length = (ql7_ Xs).length := List.length_map ..
 obtain ⟨M, s1, s2, s3, s4⟩ := split_sort (n := n) (c := c) (L := (ql7_ Xs).map row) (by omega) hn
 rw [hl] at s2 s3 s4
 refine ⟨M, c, ?_, s2, s3, s4⟩
 have hz : qh8_ n 0 0 0 0 = some (I C4.zero.not.a, I C4.zero.not.b, I C4.zero.not.c, I C4.zero.not.d) := notR C4.zero
 unfold ql3_
 rw [hz]
 dsimp only [Option.bind_some]
 have hwl : w.l.length = Xs.length := by rw [hw, List.length_map]
 rw [hwl]
 have h1 : ql2_ n w ((Xs.length : Nat) : Int) ([(I C4.zero.not.a, I C4.zero.not.b, I C4.zero.not.c, I C4.zero.not.d)], 1, 0) = _ := h1
 rw [h1]
 dsimp only [Option.bind_some]
 rw [s1]
 dsimp only [Option.bind_some]
 rw [hl]
theorem qxr_ {P X Q : C4} (h : Q ∈ keep (P.and X)) : Q = P.and X ∧ Q ≠ C4.zero := by
 unfold keep at h
 split at h
 ·cases h
 ·rename_i hz
  rw [List.mem_singleton] at h
  exact ⟨h, h ▸ hz⟩
theorem cut_mem {Ps : List C4} {X Q : C4} (h : Q ∈ cutC Ps X) : Q ≠ C4.zero ∧ ∃ P ∈ Ps, Q = P.and X ∨ Q = P.and X.not := by
 unfold cutC at h
 obtain ⟨P, hP, h⟩ := List.mem_flatMap.1 h
 rcases List.mem_append.1 h with h | h
 ·exact ⟨(qxr_ h).2, P, hP, .inl (qxr_ h).1⟩
 ·exact ⟨(qxr_ h).2, P, hP, .inr (qxr_ h).1⟩


theorem andM (X Y : C4) (i : Nat) : (X.and Y).mem i = (X.mem i && Y.mem i) := by
 unfold C4.mem
 have : (X.and Y).w (i / 64) = X.w (i / 64) &&& Y.w (i / 64) := by unfold C4.w; split <;> rfl
 rw [this, BitVec.getLsbD_and]
theorem notM (X : C4) (i : Nat) : X.not.mem i = !X.mem i := by
 unfold C4.mem
 have : X.not.w (i / 64) = ~~~X.w (i / 64) := by unfold C4.w; split <;> rfl
 rw [this, BitVec.getLsbD_not, decide_eq_true (show i % 64 < 64 by omega), Bool.true_and]
def Sub (P X : C4) : Prop := ∀ i, i < 256 → P.mem i = true → X.mem i = true
def Apart (P X : C4) : Prop := ∀ i, i < 256 → P.mem i = true → X.mem i = false
def Sep (X P Q : C4) : Prop := (Sub P X ∧ Apart Q X) ∨ (Apart P X ∧ Sub Q X)
structure Inv (Xs Ps : List C4) : Prop where
 nz : ∀ P ∈ Ps, P ≠ C4.zero
 uni : ∀ P ∈ Ps, ∀ X ∈ Xs, Sub P X ∨ Apart P X
 dis : Ps.Pairwise fun P Q => ∃ X ∈ Xs, Sep X P Q
 all : ∀ i, i < 256 → ∃ P ∈ Ps, P.mem i = true
theorem sub_and {P X Y : C4} (h : Sub P Y) : Sub (P.and X) Y := fun i hi hm => h i hi (by rw [andM, Bool.and_eq_true] at hm; exact hm.1)
theorem qt3_ {P X Y : C4} (h : Apart P Y) : Apart (P.and X) Y := fun i hi hm => h i hi (by rw [andM, Bool.and_eq_true] at hm; exact hm.1)
theorem sub_self (P X : C4) : Sub (P.and X) X := fun i hi hm => by rw [andM, Bool.and_eq_true] at hm; exact hm.2
theorem apart_self (P X : C4) : Apart (P.and X.not) X := fun i hi hm => by
 rw [andM, notM, Bool.and_eq_true, Bool.not_eq_true'] at hm
 exact hm.2
theorem keep_in {P : C4} {i : Nat} (h : P.mem i = true) : P ∈ keep P := by
 unfold keep
 rw [if_neg]
 ·exact List.mem_singleton.2 rfl
 ·intro e
  rw [e, C4.mem_zero] at h
  cases h
theorem qww_ {P Q : C4} (h : Q ∈ keep P) : Q = P := by
 unfold keep at h
 split at h
 ·cases h
 ·exact List.mem_singleton.1 h
theorem keep_pw {R : C4 → C4 → Prop} (P : C4) : (keep P).Pairwise R := by
 unfold keep
 split
 ·exact .nil
 ·exact List.pairwise_singleton ..
theorem inv_base : Inv [] [C4.zero.not] where
 nz P hP e := by
  rw [List.mem_singleton] at hP
  have h : C4.zero.not.mem 0 = true := by rw [notM, C4.mem_zero]; rfl
  rw [← hP, e, C4.mem_zero] at h
  cases h
 uni P hP X hX := by cases hX
 dis := List.pairwise_singleton ..
 all i hi := ⟨_, List.mem_singleton.2 rfl, by rw [notM, C4.mem_zero]; rfl⟩
theorem inv_step {Xs Ps : List C4} {X : C4} (h : Inv Xs Ps) : Inv (Xs ++ [X]) (cutC Ps X) where
 nz P hP := (cut_mem hP).1
 uni Q hQ Y hY := by
  obtain ⟨_, P, hP, e⟩ := cut_mem hQ
  rcases List.mem_append.1 hY with hY | hY
  ·rcases h.uni P hP Y hY with k | k
   ·rcases e with rfl | rfl
    ·exact .inl (sub_and k)
    ·exact .inl (sub_and k)
   ·rcases e with rfl | rfl
    ·exact .inr (qt3_ k)
    ·exact .inr (qt3_ k)
  ·rw [List.mem_singleton] at hY
   subst hY
   rcases e with rfl | rfl
   ·exact .inl (sub_self P Y)
   ·exact .inr (apart_self P Y)
 dis := by
  unfold cutC
  rw [List.pairwise_flatMap]
  refine ⟨fun P hP => ?_, h.dis.imp ?_⟩
  ·rw [List.pairwise_append]
   refine ⟨keep_pw _, keep_pw _, fun A hA B hB => ?_⟩
   rw [qww_ hA, qww_ hB]
   exact ⟨X, List.mem_append.2 (.inr (List.mem_singleton.2 rfl)), .inl ⟨sub_self P X, apart_self P X⟩⟩
  ·rintro P Q ⟨Y, hY, hs⟩ A hA B hB
   refine ⟨Y, List.mem_append.2 (.inl hY), ?_⟩
   have eA : ∃ Z, A = P.and Z := by
    rcases List.mem_append.1 hA with hA | hA
    ·exact ⟨X, qww_ hA⟩
    ·exact ⟨X.not, qww_ hA⟩
   have eB : ∃ Z, B = Q.and Z := by
    rcases List.mem_append.1 hB with hB | hB
    ·exact ⟨X, qww_ hB⟩
    ·exact ⟨X.not, qww_ hB⟩
   obtain ⟨Z, rfl⟩ := eA
   obtain ⟨Z', rfl⟩ := eB
   rcases hs with ⟨h1, h2⟩ | ⟨h1, h2⟩
   ·exact .inl ⟨sub_and h1, qt3_ h2⟩
   ·exact .inr ⟨qt3_ h1, sub_and h2⟩
 all i hi := by
  obtain ⟨P, hP, hm⟩ := h.all i hi
  cases hx : X.mem i with
  | true =>
   have k : (P.and X).mem i = true := by rw [andM, hm, hx]; rfl
   exact ⟨P.and X, List.mem_flatMap.2 ⟨P, hP, List.mem_append.2 (.inl (keep_in k))⟩, k⟩
  | false =>
   have k : (P.and X.not).mem i = true := by rw [andM, notM, hm, hx]; rfl
   exact ⟨P.and X.not, List.mem_flatMap.2 ⟨P, hP, List.mem_append.2 (.inr (keep_in k))⟩, k⟩
theorem inv_all : ∀ (Xs Ys Ps : List C4), Inv Ys Ps → Inv (Ys ++ Xs) (Xs.foldl cutC Ps)
 | [], Ys, Ps, h => by rw [List.append_nil]; exact h
 | X :: Xs, Ys, Ps, h => by
  have := inv_all Xs (Ys ++ [X]) (cutC Ps X) (inv_step h)
  rw [List.append_assoc] at this
  exact this
theorem parts_inv (Xs : List C4) : Inv Xs (ql7_ Xs) := inv_all Xs [] _ inv_base


theorem sep_symm {X P Q : C4} (h : Sep X P Q) : Sep X Q P := h.elim (fun h => .inr ⟨h.2, h.1⟩) fun h => .inl ⟨h.2, h.1⟩
theorem inv_perm {Xs Ps Qs : List C4} (h : Inv Xs Ps) (hp : Ps.Perm Qs) : Inv Xs Qs where
 nz P hP := h.nz P (hp.mem_iff.2 hP)
 uni P hP := h.uni P (hp.mem_iff.2 hP)
 dis := hp.pairwise h.dis fun ⟨X, hX, hs⟩ => ⟨X, hX, sep_symm hs⟩
 all i hi := by
  obtain ⟨P, hP, hm⟩ := h.all i hi
  exact ⟨P, hp.mem_iff.1 hP, hm⟩
def unrow (x : R4) : C4 := ⟨BitVec.ofInt 64 x.1, BitVec.ofInt 64 x.2.1, BitVec.ofInt 64 x.2.2.1, BitVec.ofInt 64 x.2.2.2⟩
theorem unrow_row (X : C4) : unrow (row X) = X := by
 unfold unrow row I
 simp only [ofI]
theorem perm_rows {Ps : List C4} {M : List R4} (h : (Ps.map row).Perm M) : ∃ Qs : List C4, M = Qs.map row ∧ Ps.Perm Qs := by
 refine ⟨M.map unrow, ?_, ?_⟩
 ·rw [List.map_map]
  have : ∀ x ∈ M, (row ∘ unrow) x = x := fun x hx => by
   obtain ⟨P, _, rfl⟩ := List.mem_map.1 (h.mem_iff.2 hx)
   show row (unrow (row P)) = _
   rw [unrow_row]
  rw [List.map_congr_left this, List.map_id']
 ·have h2 := h.map unrow
  rw [List.map_map] at h2
  have e : Ps.map (unrow ∘ row) = Ps := by
   have : ∀ P ∈ Ps, (unrow ∘ row) P = P := fun P _ => unrow_row P
   rw [List.map_congr_left this, List.map_id']
  rw [e] at h2
  exact h2
theorem least4 (X : C4) (hX : X ≠ C4.zero) : ∃ b : Nat, b < 256 ∧ X.mem b = true ∧ ∀ j, j < b → X.mem j = false := by
 have h1 : ∃ b : Nat, b < 256 ∧ X.mem b = true := Classical.byContradiction fun hn => hX (C4.ext' fun i hi => by
  rw [C4.mem_zero]
  cases hb : X.mem i with
  | false => rfl
  | true => exact absurd ⟨i, hi, hb⟩ hn)
 have main : ∀ n, (∃ t, t < n ∧ t < 256 ∧ X.mem t = true) → ∃ b : Nat, b < 256 ∧ X.mem b = true ∧ ∀ j, j < b → X.mem j = false := by
  intro n
  induction n with
  | zero => rintro ⟨t, h, _⟩; omega
  | succ n ih =>
   rintro ⟨t, ht, h2, h3⟩
   by_cases hs : ∃ s, s < n ∧ s < 256 ∧ X.mem s = true
   ·exact ih hs
   ·refine ⟨t, h2, h3, fun j hj => ?_⟩
    cases hb : X.mem j with
    | false => rfl
    | true => exact absurd ⟨j, by omega, by omega, hb⟩ hs
 obtain ⟨b, hb, hm⟩ := h1
 exact main 256 ⟨b, hb, hb, hm⟩


theorem memW {X : C4} {k t : Nat} (ht : t < 64) : X.mem (64 * k + t) = (X.w k).getLsbD t := by
 unfold C4.mem
 rw [show (64 * k + t) / 64 = k by omega, show (64 * k + t) % 64 = t by omega]
theorem w_zero {X : C4} {b k : Nat} (h : ∀ j, j < b → X.mem j = false) (hk : 64 * k + 64 ≤ b) : X.w k = 0#64 := by
 apply BitVec.eq_of_getLsbD_eq
 intro i hi
 rw [← memW hi, h _ (by omega), BitVec.getLsbD_zero]
theorem w_least {X : C4} {b k : Nat} (hm : X.mem b = true) (h : ∀ j, j < b → X.mem j = false) (hk : b / 64 = k) : least (X.w k) (b % 64) := by
 refine ⟨by omega, ?_, fun j hj => ?_⟩
 ·rw [← memW (by omega), show 64 * k + b % 64 = b by omega]; exact hm
 ·rw [← memW (by omega)]; exact h _ (by omega)
theorem val8 {k t : Nat} (hk : k < 4) (ht : t < 64) : IntKind.u8.wrap (w64 (w64 ((k : Int) * 64) + (t : Int))) = ((64 * k + t : Nat) : Int) := by
 rw [qcw_ (x := (k : Int) * 64) (k := 64 * k) (by omega) (by omega), qcw_ (x := ((64 * k : Nat) : Int) + (t : Int)) (k := 64 * k + t) (by omega) (by omega)]
 simp [IntKind.wrap, IntKind.bits, IntKind.signed]
 omega
theorem wz {x : BitVec 64} (h : x = 0#64) : I x = 0 := by rw [h]; rfl
theorem leastR {n b : Nat} {X : C4} (hn : 0 < n) (hb : b < 256) (hm : X.mem b = true) (h : ∀ j, j < b → X.mem j = false) : qd0_ n (I X.a) (I X.b) (I X.c) (I X.d) = some ((b : Int), true) := by
 have fin : ∀ k : Nat, k < 4 → b / 64 = k → (if I (X.w k) = 0 then some (.inl ()) else (qb7_ 0 (I (X.w k))).bind fun y => some (.inr (IntKind.u8.wrap (w64 (w64 ((k : Int) * 64) + y))))) = (some (.inr (b : Int)) : Option (Unit ⊕ Int)) := fun k hk e => by
  have hl := w_least hm h e
  rw [if_neg (q2 (q1 hl)), tz_ok hl, Option.bind_some, val8 hk (by omega), show 64 * k + b % 64 = b by omega]
 have zero : ∀ k : Nat, k < b / 64 → I (X.w k) = 0 := fun k hk => wz (w_zero h (by omega))
 unfold qd0_ qi3_ qla_
 simp only [eachW hn]
 rw [Option.bind_some]
 have a0 : I X.a = I (X.w 0) := rfl
 have a1 : I X.b = I (X.w 1) := rfl
 have a2 : I X.c = I (X.w 2) := rfl
 have a3 : I X.d = I (X.w 3) := rfl
 rw [a0, a1, a2, a3]
 have hq : b / 64 = 0 ∨ b / 64 = 1 ∨ b / 64 = 2 ∨ b / 64 = 3 := by omega
 rcases hq with e | e | e | e
 ·have f := fin 0 (by omega) e
  rw [show (0 : Int) * 64 = ((0 : Nat) : Int) * 64 from rfl, f]
 ·have f := fin 1 (by omega) e
  rw [if_pos (zero 0 (by omega))]
  dsimp only
  rw [show (1 : Int) * 64 = ((1 : Nat) : Int) * 64 from rfl, f]
 ·have f := fin 2 (by omega) e
  rw [if_pos (zero 0 (by omega)), if_pos (zero 1 (by omega))]
  dsimp only
  rw [show (2 : Int) * 64 = ((2 : Nat) : Int) * 64 from rfl, f]
 ·have f := fin 3 (by omega) e
  rw [if_pos (zero 0 (by omega)), if_pos (zero 1 (by omega)), if_pos (zero 2 (by omega))]
  dsimp only
  rw [show (3 : Int) * 64 = ((3 : Nat) : Int) * 64 from rfl, f]
theorem keyR {b : Nat} {X : C4} (hb : b < 256) (hm : X.mem b = true) (h : ∀ j, j < b → X.mem j = false) : keyF (row X) = (b : Int) := by
 unfold keyF row
 dsimp only
 rw [leastR (by omega) hb hm h]


open Classical in
def lb (P : C4) : Nat := if h : P ≠ C4.zero then (least4 P h).choose else 0
theorem lb_ok {P : C4} (h : P ≠ C4.zero) : lb P < 256 ∧ P.mem (lb P) = true ∧ ∀ j, j < lb P → P.mem j = false := by
 unfold lb
 rw [dif_pos h]
 exact (least4 P h).choose_spec
theorem unionR {n : Nat} (X Y : C4) : ql6_ n (I X.a) (I X.b) (I X.c) (I X.d) (I Y.a) (I Y.b) (I Y.c) (I Y.d) = some (I (X.or Y).a, I (X.or Y).b, I (X.or Y).c, I (X.or Y).d) := by
 unfold ql6_ I
 rw [bor, bor, bor, bor]; rfl
section
variable {n : Nat} {w : WL rw_uuuu} {Xs Qs : List C4} (hw : w.l = Xs.map row) (h8 : Xs.length ≤ 8) (hn : 1000 < n) (hQ : Inv Xs Qs) (hm : Qs.length ≤ 256)
include hw h8 hn hQ hm
theorem wget {k : Nat} (hk : k < Xs.length) : w.l.getD k (0, 0, 0, 0) = row Xs[k] := by rw [hw]; simp [List.getD_eq_getElem?_getD, hk]
theorem qget {k : Nat} (hk : k < Qs.length) : (Qs.map row).getD k (0, 0, 0, 0) = row Qs[k] := by simp [List.getD_eq_getElem?_getD, hk]
theorem lpB {c i : Nat} {s0 s1 s2 s3 la nn b : Int} (hi : i < Qs.length) : qhl_ n w (Qs.map row) Qs.length c s0 s1 s2 s3 la nn (i : Int) b 0 = some () := by
 have hwl : w.l.length = Xs.length := by rw [hw, List.length_map]
 have hml : (Qs.map row).length = Qs.length := List.length_map ..
 have q : ∀ (N k : Nat), k ≤ Xs.length → Xs.length - k < N → iterM (qde_ n w (Qs.map row) Qs.length c s0 s1 s2 s3 la nn (i : Int) b) N (k : Int) = some () := by
  intro N
  induction N with
  | zero => intro k _ h; exact absurd h (Nat.not_lt_zero _)
  | succ N ih =>
   intro k hk hN
   rw [qcv_]
   by_cases c1 : k < Xs.length
   ·have hb : qde_ n w (Qs.map row) Qs.length c s0 s1 s2 s3 la nn (i : Int) b (k : Int) = some (.inl ((k + 1 : Nat) : Int)) := by
     unfold qde_
     dsimp only
     rw [if_pos (by omega), if_pos (by omega), Option.bind_some, if_pos (by omega), if_pos (by omega), Option.bind_some, Int.toNat_natCast, Int.toNat_natCast, wget hw h8 hn hQ hm c1, qget hw h8 hn hQ hm hi]
     unfold row
     dsimp only
     rw [meetR]
     dsimp only [Option.bind_some]
     rw [qtk_ (by omega)]
     rcases hQ.uni Qs[i] (List.getElem_mem hi) Xs[k] (List.getElem_mem c1) with u | u
     ·have e : Xs[k].and Qs[i] = Qs[i] := C4.ext' fun j hj => by
       rw [andM]
       cases hq : Qs[i].mem j with
       | false => rw [Bool.and_false]
       | true => rw [u j hj hq]; rfl
      rw [e]
      split
      ·rw [if_neg (by simp)]
      ·rfl
     ·have e : Xs[k].and Qs[i] = C4.zero := C4.ext' fun j hj => by
       rw [andM, C4.mem_zero]
       cases hq : Qs[i].mem j with
       | false => rw [Bool.and_false]
       | true => rw [u j hj hq]; rfl
      rw [e, if_neg (fun h => (z_test C4.zero).1 h rfl)]
    rw [hb]
    exact ih (k + 1) (by omega) (by omega)
   ·unfold qde_
    dsimp only
    rw [if_neg (by omega)]; rfl
 exact q n 0 (Nat.zero_le _) (by omega)
theorem lp4 {c i k : Nat} {s0 s1 s2 s3 la nn : Int} (hi : i < Qs.length) (hk : k < i) : qhk_ n w (Qs.map row) Qs.length c s0 s1 s2 s3 la nn (i : Int) ((lb Qs[i] : Nat) : Int) (k : Int) (false, 0) = some true := by
 have hwl : w.l.length = Xs.length := by rw [hw, List.length_map]
 have hml : (Qs.map row).length = Qs.length := List.length_map ..
 obtain ⟨i1, i2, i3⟩ := lb_ok (hQ.nz Qs[i] (List.getElem_mem hi))
 obtain ⟨k1, k2, k3⟩ := lb_ok (hQ.nz Qs[k] (List.getElem_mem (by omega)))
 obtain ⟨X, hX, hs⟩ := List.pairwise_iff_getElem.1 hQ.dis k i (by omega) hi hk
 have hne : X.mem (lb Qs[i]) ≠ X.mem (lb Qs[k]) := by
  rcases hs with ⟨a1, a2⟩ | ⟨a1, a2⟩
  ·rw [a1 _ k1 k2, a2 _ i1 i2]; simp
  ·rw [a1 _ k1 k2, a2 _ i1 i2]; simp
 obtain ⟨x, hx, rfl⟩ := List.getElem_of_mem hX
 have q : ∀ (N j : Nat) (ap : Bool), j ≤ Xs.length → Xs.length - j < N → (ap = true ∨ j ≤ x) → iterM (qdd_ n w (Qs.map row) Qs.length c s0 s1 s2 s3 la nn (i : Int) ((lb Qs[i] : Nat) : Int) (k : Int)) N (ap, (j : Int)) = some true := by
  intro N
  induction N with
  | zero => intro j ap _ h; exact absurd h (Nat.not_lt_zero _)
  | succ N ih =>
   intro j ap hj hN hap
   rw [qcv_]
   by_cases c1 : j < Xs.length
   ·have hb : ∃ ap', qdd_ n w (Qs.map row) Qs.length c s0 s1 s2 s3 la nn (i : Int) ((lb Qs[i] : Nat) : Int) (k : Int) (ap, (j : Int)) = some (.inl (ap', ((j + 1 : Nat) : Int))) ∧ (ap' = true ∨ j + 1 ≤ x) := by
     unfold qdd_
     dsimp only
     rw [if_pos (by omega), if_pos (by omega), if_pos (by omega), Option.bind_some, Int.toNat_natCast, qget hw h8 hn hQ hm (by omega)]
     unfold row
     dsimp only
     rw [leastR (by omega) k1 k2 k3]
     dsimp only [Option.bind_some]
     rw [qtk_ (by omega)]
     by_cases c2 : ap = true
     ·exact ⟨true, by rw [if_pos c2], .inl rfl⟩
     ·have hjx : j ≤ x := hap.resolve_left c2
      rw [if_neg c2, if_pos (by omega), Int.toNat_natCast, wget hw h8 hn hQ hm c1]
      unfold row
      dsimp only
      rw [has_ok _ i1, Option.bind_some, has_ok _ k1, Option.bind_some]
      by_cases c3 : Xs[j].mem (lb Qs[i]) = Xs[j].mem (lb Qs[k])
      ·refine ⟨false, by rw [if_pos c3], .inr ?_⟩
       rcases Nat.lt_or_ge j x with h | h
       ·exact h
       ·obtain rfl : j = x := by omega
        exact absurd c3 hne
      ·exact ⟨true, by rw [if_neg c3], .inl rfl⟩
    obtain ⟨ap', h1, h2⟩ := hb
    rw [h1]
    exact ih (j + 1) ap' (by omega) (by omega) h2
   ·have ht : ap = true := hap.resolve_right (by omega)
    unfold qdd_
    dsimp only
    rw [if_neg (by omega), ht]; rfl
 exact q n 0 false (Nat.zero_le _) (by omega) (.inr (Nat.zero_le _))
theorem lp3 {c i : Nat} {s0 s1 s2 s3 la nn : Int} (hi : i < Qs.length) : qhm_ n w (Qs.map row) Qs.length c s0 s1 s2 s3 la nn (i : Int) ((lb Qs[i] : Nat) : Int) 0 = some () := by
 have q : ∀ (N k : Nat), k ≤ i → i - k < N → iterM (qdf_ n w (Qs.map row) Qs.length c s0 s1 s2 s3 la nn (i : Int) ((lb Qs[i] : Nat) : Int)) N (k : Int) = some () := by
  intro N
  induction N with
  | zero => intro k _ h; exact absurd h (Nat.not_lt_zero _)
  | succ N ih =>
   intro k hk hN
   rw [qcv_]
   by_cases c1 : k < i
   ·have hb : qdf_ n w (Qs.map row) Qs.length c s0 s1 s2 s3 la nn (i : Int) ((lb Qs[i] : Nat) : Int) (k : Int) = some (.inl ((k + 1 : Nat) : Int)) := by
     unfold qdf_
     dsimp only
     rw [if_pos (by omega), lp4 hw h8 hn hQ hm hi c1, Option.bind_some, if_pos rfl, qtk_ (by omega)]
    rw [hb]
    exact ih (k + 1) (by omega) (by omega)
   ·unfold qdf_
    dsimp only
    rw [if_neg (by omega)]; rfl
 exact q n 0 (Nat.zero_le _) (by omega)
end


def un (Ps : List C4) : C4 := Ps.foldl C4.or C4.zero
theorem fold_mem {j : Nat} : ∀ (Ps : List C4) (S : C4), (Ps.foldl C4.or S).mem j = true ↔ S.mem j = true ∨ ∃ P ∈ Ps, P.mem j = true
 | [], S => by simp
 | P :: Ps, S => by
  rw [List.foldl_cons, fold_mem Ps, C4.mem_or, Bool.or_eq_true]
  constructor
  ·rintro ((h | h) | ⟨Q, hQ, h⟩)
   ·exact .inl h
   ·exact .inr ⟨P, List.mem_cons_self .., h⟩
   ·exact .inr ⟨Q, List.mem_cons_of_mem _ hQ, h⟩
  ·rintro (h | ⟨Q, hQ, h⟩)
   ·exact .inl (.inl h)
   ·rcases List.mem_cons.1 hQ with rfl | hQ
    ·exact .inl (.inr h)
    ·exact .inr ⟨Q, hQ, h⟩
theorem un_mem {Ps : List C4} {j : Nat} : (un Ps).mem j = true ↔ ∃ P ∈ Ps, P.mem j = true := by
 unfold un
 rw [fold_mem, C4.mem_zero]
 simp
theorem zero_len : C4.zero.len = 0 := by decide +kernel
theorem full_len : C4.zero.not.len = 256 := by decide +kernel
theorem sep_no {X P Q : C4} {j : Nat} (hj : j < 256) (h : Sep X P Q) (h1 : P.mem j = true) (h2 : Q.mem j = true) : False := by
 rcases h with ⟨a, b⟩ | ⟨a, b⟩
 ·have := a j hj h1; rw [b j hj h2] at this; cases this
 ·have := b j hj h2; rw [a j hj h1] at this; cases this
theorem un_nil_row : (I (un []).a, I (un []).b, I (un []).c, I (un []).d, (-1 : Int), ((un []).len : Int), ((0 : Nat) : Int)) = (0, 0, 0, 0, -1, 0, 0) := by decide +kernel
theorem add_len {p q r : Nat} (h : r = p + q) (hr : r ≤ 256) : w64 ((p : Int) + (q : Int)) = (r : Int) := by
 exact qcw_ (by omega) (by omega)
section
attribute [local irreducible] un C4.len C4.and C4.or
variable {n : Nat} {w : WL rw_uuuu} {Xs Qs : List C4} (hw : w.l = Xs.map row) (h8 : Xs.length ≤ 8) (hn : 1000 < n) (hQ : Inv Xs Qs) (hm : Qs.length ≤ 256)
include hw h8 hn hQ hm
theorem lp1 {c : Nat} (hs : ∀ i j : Nat, (hi : i < j) → (hj : j < Qs.length) → lb (Qs[i]'(by omega)) < lb Qs[j]) : qhn_ n w (Qs.map row) Qs.length c (0, 0, 0, 0, -1, 0, 0) = some (I (un Qs).a, I (un Qs).b, I (un Qs).c, I (un Qs).d, ((un Qs).len : Int)) := by
 have hml : (Qs.map row).length = Qs.length := List.length_map ..
 have q : ∀ (N i : Nat) (la : Int), i ≤ Qs.length → Qs.length - i < N → (i = 0 ∧ la = -1 ∨ ∃ h : i - 1 < Qs.length, 0 < i ∧ la = ((lb Qs[i - 1] : Nat) : Int)) → iterM (qdg_ n w (Qs.map row) Qs.length c) N (I (un (Qs.take i)).a, I (un (Qs.take i)).b, I (un (Qs.take i)).c, I (un (Qs.take i)).d, la, ((un (Qs.take i)).len : Int), (i : Int)) = some (I (un Qs).a, I (un Qs).b, I (un Qs).c, I (un Qs).d, ((un Qs).len : Int)) := by
  intro N
  induction N with
  | zero => intro i la _ h; exact absurd h (Nat.not_lt_zero _)
  | succ N ih =>
   intro i la hi hN hla
   rw [qcv_]
   by_cases c1 : i < Qs.length
   ·obtain ⟨b1, b2, b3⟩ := lb_ok (hQ.nz Qs[i] (List.getElem_mem c1))
    have ht : un (Qs.take (i + 1)) = (un (Qs.take i)).or Qs[i] := by
     unfold un
     rw [List.take_succ_eq_append_getElem c1, List.foldl_append]; rfl
    have hand : (un (Qs.take i)).and Qs[i] = C4.zero := C4.ext' fun j hj => by
     rw [andM, C4.mem_zero]
     cases hq : Qs[i].mem j with
     | false => rw [Bool.and_false]
     | true =>
      cases hS : (un (Qs.take i)).mem j with
      | false => rfl
      | true =>
       obtain ⟨P, hP, hPm⟩ := un_mem.1 hS
       obtain ⟨k, hk, rfl⟩ := List.getElem_of_mem hP
       rw [List.length_take] at hk
       rw [List.getElem_take] at hPm
       obtain ⟨X, hX, hsep⟩ := List.pairwise_iff_getElem.1 hQ.dis k i (by omega) c1 (by omega)
       exact (sep_no hj hsep hPm hq).elim
    have hlen : (un (Qs.take (i + 1))).len = (un (Qs.take i)).len + Qs[i].len := by
     have := len2 (un (Qs.take i)) Qs[i]
     rw [hand, zero_len] at this
     rw [ht]; omega
    have hle := len_le (un (Qs.take (i + 1)))
    have hlt : la < ((lb Qs[i] : Nat) : Int) := by
     rcases hla with ⟨_, rfl⟩ | ⟨h, h0, rfl⟩
     ·omega
     ·have := hs (i - 1) i (by omega) c1
      omega
    have hb : qdg_ n w (Qs.map row) Qs.length c (I (un (Qs.take i)).a, I (un (Qs.take i)).b, I (un (Qs.take i)).c, I (un (Qs.take i)).d, la, ((un (Qs.take i)).len : Int), (i : Int)) = some (.inl (I (un (Qs.take (i + 1))).a, I (un (Qs.take (i + 1))).b, I (un (Qs.take (i + 1))).c, I (un (Qs.take (i + 1))).d, ((lb Qs[i] : Nat) : Int), ((un (Qs.take (i + 1))).len : Int), ((i + 1 : Nat) : Int))) := by
     have e1 : IntKind.i64.wrap ((lb Qs[i] : Nat) : Int) = ((lb Qs[i] : Nat) : Int) := qod_ (by omega) (by omega)
     have e2 : w64 (((un (Qs.take i)).len : Int) + (Qs[i].len : Int)) = ((un (Qs.take (i + 1))).len : Int) := add_len hlen hle
     have nz : ¬ (!((I C4.zero.a == (0 : Int)) && ((I C4.zero.b == (0 : Int)) && ((I C4.zero.c == (0 : Int)) && ((I C4.zero.d == (0 : Int)) && true))))) = true := fun h => (z_test C4.zero).1 h rfl
     have l2 := fun la' nn' => lpB hw h8 hn hQ hm (c := c) (s0 := I (un (Qs.take (i + 1))).a) (s1 := I (un (Qs.take (i + 1))).b) (s2 := I (un (Qs.take (i + 1))).c) (s3 := I (un (Qs.take (i + 1))).d) (la := la') (nn := nn') (b := ((lb Qs[i] : Nat) : Int)) c1
     have l3 := fun la' nn' => lp3 hw h8 hn hQ hm (c := c) (s0 := I (un (Qs.take (i + 1))).a) (s1 := I (un (Qs.take (i + 1))).b) (s2 := I (un (Qs.take (i + 1))).c) (s3 := I (un (Qs.take (i + 1))).d) (la := la') (nn := nn') c1
     unfold qdg_
     dsimp only
     rw [if_pos (by omega), if_pos (by omega), if_pos (by omega), Option.bind_some, Int.toNat_natCast, qget hw h8 hn hQ hm c1]
     have r1 : (row Qs[i]).1 = I Qs[i].a := rfl
     have r2 : (row Qs[i]).2.1 = I Qs[i].b := rfl
     have r3 : (row Qs[i]).2.2.1 = I Qs[i].c := rfl
     have r4 : (row Qs[i]).2.2.2 = I Qs[i].d := rfl
     rw [r1, r2, r3, r4, leastR (by omega) b1 b2 b3]
     dsimp only [Option.bind_some]
     rw [if_pos rfl, e1, if_neg (by omega), meetR, hand]
     dsimp only [Option.bind_some]
     rw [if_neg nz, len_ok, Option.bind_some, unionR, ← ht]
     dsimp only [Option.bind_some]
     rw [e2, l2, Option.bind_some, l3, Option.bind_some, qtk_ (by omega)]
    rw [hb]
    exact ih (i + 1) _ (by omega) (by omega) (.inr ⟨by omega, by omega, rfl⟩)
   ·have hi : i = Qs.length := by omega
    unfold qdg_
    dsimp only
    rw [if_neg (by omega), hi, List.take_length]
    rfl
 have z := q n 0 (-1) (Nat.zero_le _) (by omega) (.inl ⟨rfl, rfl⟩)
 rw [List.take_zero, un_nil_row] at z
 exact z
end
theorem un_full {Xs Qs : List C4} (hQ : Inv Xs Qs) : un Qs = C4.zero.not := C4.ext' fun j hj => by
 obtain ⟨P, hP, h⟩ := hQ.all j hj
 rw [un_mem.2 ⟨P, hP, h⟩, notM, C4.mem_zero]; rfl
theorem rows_of : ∀ {l : List R4}, (∀ x ∈ l, ∃ X : C4, x = row X) → ∃ Xs : List C4, l = Xs.map row
 | [], _ => ⟨[], rfl⟩
 | x :: l, h => by
  obtain ⟨X, hX⟩ := h x (List.mem_cons_self ..)
  obtain ⟨Xs, hXs⟩ := rows_of fun y hy => h y (List.mem_cons_of_mem _ hy)
  exact ⟨X :: Xs, by rw [hX, hXs]; rfl⟩
theorem classParts_of (hu : ∀ x ∈ wA.l, ∃ X : C4, x = row X) : ∃ n, qfi_ n = some true := by
 refine ⟨1001, ?_⟩
 have hn : 1000 < 1001 := by omega
 generalize 1001 = n at hn
 obtain ⟨Xs, hw⟩ := rows_of hu
 have hwl : wA.l.length = Xs.length := by rw [hw, List.length_map]
 unfold qfi_ qkz_
 rw [Option.bind_some, hwl]
 by_cases c1 : ((Xs.length : Nat) : Int) > 8
 ·rw [if_pos c1]
 ·obtain ⟨M, c, s1, s2, s3, s4⟩ := split_ok (n := n) hw (by omega) hn
  have hp := s3.2.2
  have hl1 : ((ql7_ Xs).map row).length = (ql7_ Xs).length := List.length_map ..
  have hperm : ((ql7_ Xs).map row).Perm M := by
   have e1 : (M.toArray.extract 0 (ql7_ Xs).length).toList = M := by simp [← s2]
   have e2 : (((ql7_ Xs).map row).toArray.extract 0 (ql7_ Xs).length).toList = (ql7_ Xs).map row := by
    rw [← hl1]; simp [List.take_of_length_le]
   rw [e1, e2] at hp
   exact hp.symm
  obtain ⟨Qs, rfl, hQp⟩ := perm_rows hperm
  have hQ := inv_perm (parts_inv Xs) hQp
  have hQl : (ql7_ Xs).length = Qs.length := hQp.length_eq
  have hm : Qs.length ≤ 256 := by rw [← hQl]; exact qxq_ (by omega)
  rw [if_neg c1, s1]
  dsimp only [Option.bind_some]
  have hs : ∀ i j : Nat, (hi : i < j) → (hj : j < Qs.length) → lb (Qs[i]'(by omega)) < lb Qs[j] := fun i j hi hj => by
   obtain ⟨i1, i2, i3⟩ := lb_ok (hQ.nz Qs[i] (List.getElem_mem (by omega)))
   obtain ⟨j1, j2, j3⟩ := lb_ok (hQ.nz Qs[j] (List.getElem_mem hj))
   have h := s4 i j (Nat.zero_le _) hi (by omega)
   have gi : (Qs.map row).getD i z4 = row Qs[i] := by simp [List.getD_eq_getElem?_getD, show i < Qs.length by omega]
   have gj : (Qs.map row).getD j z4 = row Qs[j] := by simp [List.getD_eq_getElem?_getD, hj]
   rw [qjl_, qjl_, gi, gj, ltF_key, keyR i1 i2 i3, keyR j1 j2 j3] at h
   have h := of_decide_eq_false h
   obtain ⟨X, hX, hsep⟩ := List.pairwise_iff_getElem.1 hQ.dis i j (by omega) hj hi
   rcases Nat.lt_or_ge (lb Qs[i]) (lb Qs[j]) with k | k
   ·exact k
   ·have e : lb Qs[i] = lb Qs[j] := by omega
    rw [e] at i2
    exact (sep_no j1 hsep i2 j2).elim
  rw [hQl, lp1 hw (by omega) hn hQ hm hs]
  dsimp only [Option.bind_some]
  rw [un_full hQ, full_len, if_pos (show ((256 : Nat) : Int) = 256 from rfl)]
  have hz : qh8_ n 0 0 0 0 = some (I C4.zero.not.a, I C4.zero.not.b, I C4.zero.not.c, I C4.zero.not.d) := notR C4.zero
  rw [hz]
  dsimp only [Option.bind_some]
  simp


theorem I_of {x : Int} (h0 : 0 ≤ x) (h1 : x < 18446744073709551616) : I (BitVec.ofNat 64 x.toNat) = x := by
 show (((BitVec.ofNat 64 x.toNat).toNat : Nat) : Int) = x
 rw [BitVec.toNat_ofNat, Nat.mod_eq_of_lt (by omega)]
 omega
theorem qv5_ : ∃ n, qfi_ n = some true := classParts_of fun x hx => by
 obtain ⟨⟨a0, a1⟩, ⟨b0, b1⟩, ⟨c0, c1⟩, d0, d1⟩ := Args.uA x hx
 refine ⟨⟨BitVec.ofNat 64 x.1.toNat, BitVec.ofNat 64 x.2.1.toNat, BitVec.ofNat 64 x.2.2.1.toNat, BitVec.ofNat 64 x.2.2.2.toNat⟩, ?_⟩
 unfold row
 rw [I_of a0 a1, I_of b0 b1, I_of c0 c1, I_of d0 d1]

end Go.Proofs.YtdjkjpmcmpihgaaDoor.clp01
