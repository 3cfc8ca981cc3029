/-
  Arguments that are slices of ints, as windows. No condition.
-/
import Derived.Test.YtpbcnplpaibjnaaSxG
import Derived.Test.YtpbcnplpaibjnaaTabs0
import Derived.Test.YtpbcnplpaibjnaaProg
import Derived.Test.YtpbcnplpaibjnaaMaps
import Derived.Test.YtpbcnplpaibjnaaNestArg
import Derived.KernelRfl
set_option linter.unusedSimpArgs false
set_option linter.unusedVariables false
set_option linter.unusedSectionVars false
set_option linter.unnecessarySimpa false
namespace Go.Proofs.Ytpbcnplpaibjnaa.hsow
open Go Go.Proofs.Ytpbcnplpaibjnaa Ax
noncomputable abbrev P : Program := Try.prog
theorem hm : P.follows .mixedOrders = true := by kernel_rfl
class Args extends Nest where
  A : List Int
  bA : Nat
  dA : Nat
  cA : Nat
  hA : A.length ≤ 9223372036854775807
noncomputable def winL [Args] (j : Nat) : Option (Nat × Nat × List Value) := match j with
    | 0 => some (Args.bA, Args.dA, iv Args.A)
    | _ => none
noncomputable instance wins [Args] : Ax.Tabs := { tab := fun _ => none, win := fun j => cond (Nat.blt j 64) (winL j) (Nest.nest (Nat.sub j 64)) }
theorem wins_nest [Args] (k : Nat) (y : Nat × Nat × List Value) (h : Nest.nest k = some y) : Ax.Tabs.win (Nat.add k 64) = some y := by
  show cond (Nat.blt (Nat.add k 64) 64) (winL (Nat.add k 64)) (Nest.nest (Nat.sub (Nat.add k 64) 64)) = _
  rw [show Nat.blt (Nat.add k 64) 64 = false from blt_no (by show ¬ k + 64 < 64; omega), show Nat.sub (Nat.add k 64) 64 = k from (by show k + 64 - 64 = k; omega)]
  exact h
theorem wins_low [Args] (j : Nat) (h : j < 64) : Ax.Tabs.win j = winL j := by
  show cond (Nat.blt j 64) (winL j) (Nest.nest (Nat.sub j 64)) = _
  rw [blt_yes h]
  rfl
theorem wins_high [Args] (j : Nat) (h : 64 ≤ j) : Ax.Tabs.win j = Nest.nest (j - 64) := by
  show cond (Nat.blt j 64) (winL j) (Nest.nest (Nat.sub j 64)) = _
  rw [blt_no (by omega)]
  rfl
theorem ldN [Args] {P : Program} {t : TypeId} {i : Nat} (x : NL) (ha : aggB P t = some false) (h : i < x.l.length) : loadG P t (.pointer (some ⟨Nat.add x.num 64, i, some 1⟩)) Ax.h0 = some (.int .i64 (x.l.getD i 0), Ax.h0) := by
  rcases x.ok with e | ⟨b, d, e⟩
  · rw [e] at h; exact absurd h (Nat.not_lt_zero _)
  · exact ldW (wins_nest _ _ e) ha h
end Go.Proofs.Ytpbcnplpaibjnaa.hsow
