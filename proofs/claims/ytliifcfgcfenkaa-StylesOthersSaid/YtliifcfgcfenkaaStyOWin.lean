/-
  Arguments that are slices of ints, as windows. No condition.
-/
import Derived.Test.YtliifcfgcfenkaaSxG
import Derived.Test.YtliifcfgcfenkaaTabs0
import Derived.Test.YtliifcfgcfenkaaProg
import Derived.Test.YtliifcfgcfenkaaNestArg
import Derived.KernelRfl
set_option linter.unusedSimpArgs false
set_option linter.unusedVariables false
set_option linter.unusedSectionVars false
set_option linter.unnecessarySimpa false
namespace Go.Proofs.Ytliifcfgcfenkaa.styow
open Go Go.Proofs.Ytliifcfgcfenkaa Ax
noncomputable abbrev P : Program := Try.prog
theorem hm : P.follows .mixedOrders = true := by kernel_rfl
def rw_iLii [Nest] (x : Int × NL × Int × Int) : List Value := [Value.int .i64 (x.1), nlV (x.2.1), Value.int .i64 (x.2.2.1), Value.int .i64 (x.2.2.2)]
theorem rwf_iLii [Nest] : RowF rw_iLii 4 := ⟨fun _ => rfl, fun a v h => by
  simp only [rw_iLii, List.mem_cons, List.not_mem_nil, or_false] at h
  rcases h with rfl | rfl | rfl | rfl <;> rfl, fun _ => rfl⟩
def ks_iLii : List LK := [.i, .L, .i, .i]
theorem dec_ok_iLii {w : World} (cs : List Value) (h : okL w ks_iLii cs) : ∃ a, @CRs (nestOf w) w (@rw_iLii (nestOf w) a) cs := by
  letI : Nest := nestOf w
  match cs, h with
  | _, .cons h0 (.cons h1 (.cons h2 (.cons h3 .nil))) =>
    obtain ⟨x0, rfl⟩ := h0
    obtain ⟨xs1, h1⟩ := h1
    obtain ⟨x1, -, hx1⟩ := CR.ints h1
    obtain ⟨x2, rfl⟩ := h2
    obtain ⟨x3, rfl⟩ := h3
    exact ⟨(x0, x1, x2, x3), (.cons (.inl ⟨rfl, rfl⟩) (.cons hx1 (.cons (.inl ⟨rfl, rfl⟩) (.cons (.inl ⟨rfl, rfl⟩) .nil))))⟩
class Args extends Nest where
  S : List (Int × NL × Int × Int)
  bS : Nat
  dS : Nat
  cS : Nat
  hS : S.length ≤ 9223372036854775807
  Y : List Int
  bY : Nat
  dY : Nat
  cY : Nat
  hY : Y.length ≤ 9223372036854775807
  A : List Int
  bA : Nat
  dA : Nat
  cA : Nat
  hA : A.length ≤ 9223372036854775807
noncomputable def winL [Args] (j : Nat) : Option (Nat × Nat × List Value) := match j with
    | 0 => some (Args.bS, Args.dS, rows rw_iLii Args.S)
    | 1 => some (Args.bY, Args.dY, iv Args.Y)
    | 2 => some (Args.bA, Args.dA, iv Args.A)
    | _ => none
noncomputable instance wins [Args] : Ax.Tabs := { tab := fun _ => none, win := fun j => cond (Nat.blt j 64) (winL j) (Nest.nest (Nat.sub j 64)) }
theorem wins_nest [Args] (k : Nat) (y : Nat × Nat × List Value) (h : Nest.nest k = some y) : Ax.Tabs.win (Nat.add k 64) = some y := by
  show cond (Nat.blt (Nat.add k 64) 64) (winL (Nat.add k 64)) (Nest.nest (Nat.sub (Nat.add k 64) 64)) = _
  rw [show Nat.blt (Nat.add k 64) 64 = false from blt_no (by show ¬ k + 64 < 64; omega), show Nat.sub (Nat.add k 64) 64 = k from (by show k + 64 - 64 = k; omega)]
  exact h
theorem wins_low [Args] (j : Nat) (h : j < 64) : Ax.Tabs.win j = winL j := by
  show cond (Nat.blt j 64) (winL j) (Nest.nest (Nat.sub j 64)) = _
  rw [blt_yes h]
  rfl
theorem wins_high [Args] (j : Nat) (h : 64 ≤ j) : Ax.Tabs.win j = Nest.nest (j - 64) := by
  show cond (Nat.blt j 64) (winL j) (Nest.nest (Nat.sub j 64)) = _
  rw [blt_no (by omega)]
  rfl
theorem ldN [Args] {P : Program} {t : TypeId} {i : Nat} (x : NL) (ha : aggB P t = some false) (h : i < x.l.length) : loadG P t (.pointer (some ⟨Nat.add x.num 64, i, some 1⟩)) Ax.h0 = some (.int .i64 (x.l.getD i 0), Ax.h0) := by
  rcases x.ok with e | ⟨b, d, e⟩
  · rw [e] at h; exact absurd h (Nat.not_lt_zero _)
  · exact ldW (wins_nest _ _ e) ha h
end Go.Proofs.Ytliifcfgcfenkaa.styow
