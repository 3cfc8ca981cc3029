/-
 Arguments that are slices of ints, as windows. No condition.
-/
import Derived.Test.YtdjkjpmcmpihgaaDoorSxG
import Derived.Test.YtdjkjpmcmpihgaaDoorTabslives
import Derived.Test.YtdjkjpmcmpihgaaDoorTabsClassParts
import Derived.Test.YtdjkjpmcmpihgaaDoorProg
import Derived.Test.YtdjkjpmcmpihgaaDoorBits
import Derived.Test.YtdjkjpmcmpihgaaDoorNestArg
import Derived.KernelRfl
set_option linter.unusedSimpArgs false
set_option linter.unusedVariables false
set_option linter.unusedSectionVars false
set_option linter.unnecessarySimpa false
namespace Go.Proofs.YtdjkjpmcmpihgaaDoor.clp01
open Go Go.Proofs.YtdjkjpmcmpihgaaDoor Ax
noncomputable abbrev P : Program := Tryd.prog
theorem hm : P.follows .mixedOrders = true := by kernel_rfl
def rw_uuuu [Nest] (x : Int × Int × Int × Int) : List Value := [Value.int .u64 (x.1), Value.int .u64 (x.2.1), Value.int .u64 (x.2.2.1), Value.int .u64 (x.2.2.2)]
theorem rwf_uuuu [Nest] : RowF rw_uuuu 4 := ⟨fun _ => rfl, fun a v h => by
 simp only [rw_uuuu, List.mem_cons, List.not_mem_nil, or_false] at h
 rcases h with rfl | rfl | rfl | rfl <;> rfl, fun _ => rfl⟩
def ks_uuuu : List LK := [.u, .u, .u, .u]
def uq_uuuu [Nest] (x : Int × Int × Int × Int) : Prop := (0 ≤ (x.1) ∧ (x.1) < 18446744073709551616) ∧ (0 ≤ (x.2.1) ∧ (x.2.1) < 18446744073709551616) ∧ (0 ≤ (x.2.2.1) ∧ (x.2.2.1) < 18446744073709551616) ∧ (0 ≤ (x.2.2.2) ∧ (x.2.2.2) < 18446744073709551616)
theorem u_rng {z : Int} (h : (Lit.int .u64 z).wf = true) : 0 ≤ z ∧ z < 18446744073709551616 := by
 simp only [Lit.wf, Bool.and_eq_true, decide_eq_true_eq] at h
 have h1 : (0 : Int) ≤ z := h.1
 have h2 : z ≤ (18446744073709551615 : Int) := h.2
 omega
theorem dec_ok_uuuu {w : World} (cs : List Value) (h : okL w ks_uuuu cs) : ∃ a, @CRs (nestOf w) w (@rw_uuuu (nestOf w) a) cs ∧ @uq_uuuu (nestOf w) a := by
 letI : Nest := nestOf w
 match cs, h with
 | _, .cons h0 (.cons h1 (.cons h2 (.cons h3 .nil))) =>
  obtain ⟨x0, rfl, r0⟩ := h0
  obtain ⟨x1, rfl, r1⟩ := h1
  obtain ⟨x2, rfl, r2⟩ := h2
  obtain ⟨x3, rfl, r3⟩ := h3
  exact ⟨(x0, x1, x2, x3), (.cons (.inl ⟨rfl, rfl⟩) (.cons (.inl ⟨rfl, rfl⟩) (.cons (.inl ⟨rfl, rfl⟩) (.cons (.inl ⟨rfl, rfl⟩) .nil)))), u_rng r0, u_rng r1, u_rng r2, u_rng r3⟩
def tb_deBruijn64tab : List Int := [0, 1, 56, 2, 57, 49, 28, 3, 61, 58, 42, 50, 38, 29, 17, 4, 62, 47, 59, 36, 45, 43, 51, 22, 53, 39, 33, 30, 24, 18, 12, 5, 63, 55, 48, 27, 60, 41, 37, 16, 46, 35, 44, 21, 52, 32, 23, 11, 54, 26, 40, 15, 34, 20, 31, 10, 25, 14, 19, 9, 13, 8, 7, 6]
def tabF (g : Nat) : Option (List Value) := cond (Nat.beq g 0) (some (tb_deBruijn64tab.map (Value.int .u8))) (none)
class Args extends Nest where
 A : List (Int × Int × Int × Int)
 bA : Nat
 dA : Nat
 cA : Nat
 hA : A.length ≤ 9223372036854775807
 uA : ∀ x ∈ A, (0 ≤ (x.1) ∧ (x.1) < 18446744073709551616) ∧ (0 ≤ (x.2.1) ∧ (x.2.1) < 18446744073709551616) ∧ (0 ≤ (x.2.2.1) ∧ (x.2.2.1) < 18446744073709551616) ∧ (0 ≤ (x.2.2.2) ∧ (x.2.2.2) < 18446744073709551616)
noncomputable def winL [Args] (j : Nat) : Option (Nat × Nat × List Value) := match j with
  | 0 => some (Args.bA, Args.dA, rows rw_uuuu Args.A)
  | _ => none
noncomputable instance wins [Args] : Ax.Tabs := { tab := tabF, win := fun j => cond (Nat.blt j 64) (winL j) (Nest.nest (Nat.sub j 64)), frz := fun j => cond (Nat.blt j 64) false (Nat.beq (Nat.mod (Nat.sub j 64) 2) 1) }
theorem wins_even [Args] (k : Nat) (h : k % 2 = 0) : Ax.Tabs.frz (Nat.add k 64) = false := by
 show cond (Nat.blt (Nat.add k 64) 64) false (Nat.beq (Nat.mod (Nat.sub (Nat.add k 64) 64) 2) 1) = _
 rw [show Nat.blt (Nat.add k 64) 64 = false from blt_no (by show ¬ k + 64 < 64; omega), show Nat.sub (Nat.add k 64) 64 = k from (by show k + 64 - 64 = k; omega), show Nat.mod k 2 = 0 from h]
 rfl
theorem wins_hz [Args] (j : Nat) (h : 64 ≤ j) (hz : Ax.Tabs.frz j = false) : (j - 64) % 2 = 0 := by
 have hz : cond (Nat.blt j 64) false (Nat.beq (Nat.mod (Nat.sub j 64) 2) 1) = false := hz
 rw [blt_no (by omega)] at hz
 have hz : Nat.beq ((j - 64) % 2) 1 = false := hz
 rcases Nat.mod_two_eq_zero_or_one (j - 64) with e | e
 ·exact e
 ·rw [e] at hz; cases hz
theorem wins_nest [Args] (k : Nat) (y : Nat × Nat × List Value) (h : Nest.nest k = some y) : Ax.Tabs.win (Nat.add k 64) = some y := by
 show cond (Nat.blt (Nat.add k 64) 64) (winL (Nat.add k 64)) (Nest.nest (Nat.sub (Nat.add k 64) 64)) = _
 rw [show Nat.blt (Nat.add k 64) 64 = false from blt_no (by show ¬ k + 64 < 64; omega), show Nat.sub (Nat.add k 64) 64 = k from (by show k + 64 - 64 = k; omega)]
 exact h
theorem wins_low [Args] (j : Nat) (h : j < 64) : Ax.Tabs.win j = winL j := by
 show cond (Nat.blt j 64) (winL j) (Nest.nest (Nat.sub j 64)) = _
 rw [blt_yes h]
 rfl
theorem wins_high [Args] (j : Nat) (h : 64 ≤ j) : Ax.Tabs.win j = Nest.nest (j - 64) := by
 show cond (Nat.blt j 64) (winL j) (Nest.nest (Nat.sub j 64)) = _
 rw [blt_no (by omega)]
 rfl
noncomputable def wA [Args] : WL rw_uuuu := ⟨0, 0, Args.cA, Args.A, .inr ⟨Args.bA, Args.dA, _, rfl, rdL_some _ _ _ rfl fun j _ => by rw [Nat.zero_add]⟩, Args.hA⟩
theorem oB {α β : Type} {x : Option α} {f : α → Option β} {b : β} (h : x.bind f = some b) : ∃ a, x = some a ∧ f a = some b := Option.bind_eq_some_iff.1 h
theorem gd {α : Type} {C : Prop} [Decidable C] {x : Option α} {r : α} (h : (if C then x else none) = some r) : C ∧ x = some r := by
  by_cases c : C
  · rw [if_pos c] at h; exact ⟨c, h⟩
  · rw [if_neg c] at h; cases h
end Go.Proofs.YtdjkjpmcmpihgaaDoor.clp01
