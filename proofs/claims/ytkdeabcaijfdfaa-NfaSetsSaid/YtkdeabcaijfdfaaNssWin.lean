/-
  Arguments that are slices of ints, as windows. No condition.
-/
import Derived.Test.YtkdeabcaijfdfaaSxG
import Derived.Test.YtkdeabcaijfdfaaTabs0
import Derived.Test.YtkdeabcaijfdfaaProg
import Derived.Test.YtkdeabcaijfdfaaBits
import Derived.Test.YtkdeabcaijfdfaaMaps
import Derived.Test.YtkdeabcaijfdfaaNestArg
import Derived.KernelRfl
set_option linter.unusedSimpArgs false
set_option linter.unusedVariables false
set_option linter.unusedSectionVars false
set_option linter.unnecessarySimpa false
namespace Go.Proofs.Ytkdeabcaijfdfaa.nss03
open Go Go.Proofs.Ytkdeabcaijfdfaa Ax
noncomputable abbrev P : Program := Try.prog
theorem hm : P.follows .mixedOrders = true := by kernel_rfl
def rw_L [Nest] (x : NL) : List Value := [nlV x]
theorem rwf_L [Nest] : RowF rw_L 1 := ⟨fun _ => rfl, fun a v h => by
  simp only [rw_L, List.mem_cons, List.not_mem_nil, or_false] at h
  rcases h with rfl <;> rfl, fun _ => rfl⟩
def ks_L : List LK := [.L]
theorem dec_ok_L {w : World} (cs : List Value) (h : okL w ks_L cs) : ∃ a, @CRs (nestOf w) w (@rw_L (nestOf w) a) cs := by
  letI : Nest := nestOf w
  match cs, h with
  | _, .cons h0 .nil =>
    obtain ⟨xs0, h0, hb0⟩ := h0
    obtain ⟨x0, -, hx0⟩ := CR.ints h0 hb0
    exact ⟨(x0), (.cons hx0 .nil)⟩
def rw_uuuu [Nest] (x : Int × Int × Int × Int) : List Value := [Value.int .u64 (x.1), Value.int .u64 (x.2.1), Value.int .u64 (x.2.2.1), Value.int .u64 (x.2.2.2)]
theorem rwf_uuuu [Nest] : RowF rw_uuuu 4 := ⟨fun _ => rfl, fun a v h => by
  simp only [rw_uuuu, List.mem_cons, List.not_mem_nil, or_false] at h
  rcases h with rfl | rfl | rfl | rfl <;> rfl, fun _ => rfl⟩
def ks_uuuu : List LK := [.u, .u, .u, .u]
theorem dec_ok_uuuu {w : World} (cs : List Value) (h : okL w ks_uuuu cs) : ∃ a, @CRs (nestOf w) w (@rw_uuuu (nestOf w) a) cs := by
  letI : Nest := nestOf w
  match cs, h with
  | _, .cons h0 (.cons h1 (.cons h2 (.cons h3 .nil))) =>
    obtain ⟨x0, rfl, -⟩ := h0
    obtain ⟨x1, rfl, -⟩ := h1
    obtain ⟨x2, rfl, -⟩ := h2
    obtain ⟨x3, rfl, -⟩ := h3
    exact ⟨(x0, x1, x2, x3), (.cons (.inl ⟨rfl, rfl⟩) (.cons (.inl ⟨rfl, rfl⟩) (.cons (.inl ⟨rfl, rfl⟩) (.cons (.inl ⟨rfl, rfl⟩) .nil))))⟩
class Args extends Nest where
  A : List (Int × Int × Int × Int)
  bA : Nat
  dA : Nat
  cA : Nat
  hA : A.length ≤ 9223372036854775807
  B : List (NL)
  bB : Nat
  dB : Nat
  cB : Nat
  hB : B.length ≤ 9223372036854775807
noncomputable def winL [Args] (j : Nat) : Option (Nat × Nat × List Value) := match j with
    | 0 => some (Args.bA, Args.dA, rows rw_uuuu Args.A)
    | 1 => some (Args.bB, Args.dB, rows rw_L Args.B)
    | _ => none
noncomputable instance wins [Args] : Ax.Tabs := { tab := fun _ => none, win := fun j => cond (Nat.blt j 64) (winL j) (Nest.nest (Nat.sub j 64)), frz := fun j => cond (Nat.blt j 64) false (Nat.beq (Nat.mod (Nat.sub j 64) 2) 1) }
theorem wins_even [Args] (k : Nat) (h : k % 2 = 0) : Ax.Tabs.frz (Nat.add k 64) = false := by
  show cond (Nat.blt (Nat.add k 64) 64) false (Nat.beq (Nat.mod (Nat.sub (Nat.add k 64) 64) 2) 1) = _
  rw [show Nat.blt (Nat.add k 64) 64 = false from blt_no (by show ¬ k + 64 < 64; omega), show Nat.sub (Nat.add k 64) 64 = k from (by show k + 64 - 64 = k; omega), show Nat.mod k 2 = 0 from h]
  rfl
theorem wins_odd [Args] (k : Nat) (h : k % 2 = 1) : Ax.Tabs.frz (Nat.add k 64) = true := by
  show cond (Nat.blt (Nat.add k 64) 64) false (Nat.beq (Nat.mod (Nat.sub (Nat.add k 64) 64) 2) 1) = _
  rw [show Nat.blt (Nat.add k 64) 64 = false from blt_no (by show ¬ k + 64 < 64; omega), show Nat.sub (Nat.add k 64) 64 = k from (by show k + 64 - 64 = k; omega), show Nat.mod k 2 = 1 from h]
  rfl
theorem wins_hz [Args] (j : Nat) (h : 64 ≤ j) (hz : Ax.Tabs.frz j = false) : (j - 64) % 2 = 0 := by
  have hz : cond (Nat.blt j 64) false (Nat.beq (Nat.mod (Nat.sub j 64) 2) 1) = false := hz
  rw [blt_no (by omega)] at hz
  have hz : Nat.beq ((j - 64) % 2) 1 = false := hz
  rcases Nat.mod_two_eq_zero_or_one (j - 64) with e | e
  · exact e
  · rw [e] at hz; cases hz
theorem wins_nest [Args] (k : Nat) (y : Nat × Nat × List Value) (h : Nest.nest k = some y) : Ax.Tabs.win (Nat.add k 64) = some y := by
  show cond (Nat.blt (Nat.add k 64) 64) (winL (Nat.add k 64)) (Nest.nest (Nat.sub (Nat.add k 64) 64)) = _
  rw [show Nat.blt (Nat.add k 64) 64 = false from blt_no (by show ¬ k + 64 < 64; omega), show Nat.sub (Nat.add k 64) 64 = k from (by show k + 64 - 64 = k; omega)]
  exact h
theorem wins_low [Args] (j : Nat) (h : j < 64) : Ax.Tabs.win j = winL j := by
  show cond (Nat.blt j 64) (winL j) (Nest.nest (Nat.sub j 64)) = _
  rw [blt_yes h]
  rfl
theorem wins_high [Args] (j : Nat) (h : 64 ≤ j) : Ax.Tabs.win j = Nest.nest (j - 64) := by
  show cond (Nat.blt j 64) (winL j) (Nest.nest (Nat.sub j 64)) = _
  rw [blt_no (by omega)]
  rfl
theorem ldN [Args] {P : Program} {t : TypeId} {i : Nat} (x : NL) (ha : aggB P t = some false) (h : i < x.l.length) : loadG P t (.pointer (some ⟨Nat.add x.num 64, Nat.add x.off i, some 1⟩)) Ax.h0 = some (.int .i64 (x.l.getD i 0), Ax.h0) := by
  rcases x.ok with e | ⟨b, d, R, e, h2⟩
  · rw [e] at h; exact absurd h (Nat.not_lt_zero _)
  · unfold loadG
    rw [show globOf (.pointer (some ⟨Nat.add x.num 64, Nat.add x.off i, some 1⟩)) = none from rfl, oc_none]
    unfold loadW
    rw [show winOf (.pointer (some ⟨Nat.add x.num 64, Nat.add x.off i, some 1⟩)) = some (Nat.add x.num 64, Nat.add x.off i) from rfl, oc_some, wins_nest _ _ e, oc_some, ha, oc_some, sel_false]
    have h3 : (iv x.l)[i]? = some (.int .i64 (x.l.getD i 0)) := by simp [iv, h]
    show oc (R[Nat.add x.off i]?) none _ = _
    rw [show R[Nat.add x.off i]? = _ from (rdL_get h2).2 i _ h3, oc_some]
theorem srcN [Args] (x : NL) : (x.l.length = 0 ∧ iv x.l = []) ∨ ∃ y, Ax.Tabs.win (Nat.add x.num 64) = some y ∧ rdL y.2.2 (Nat.mul x.l.length 1) x.off = some (iv x.l) := by
  rcases x.ok with h | ⟨b, d, R, h, h2⟩
  · exact .inl ⟨by rw [h]; rfl, by rw [h]; rfl⟩
  · exact .inr ⟨_, wins_nest _ _ h, h2⟩
noncomputable def frzR [Args] {α : Type} {f : α → List Value} (hf : ∀ a, okVs (f a) = true) (l : List α) (h : l.length ≤ 9223372036854775807) : WL f := ⟨Nat.add (2 * codL (rows f l) + 1) 64, 0, Nat.add big l.length, l, .inr ⟨0, 0, _, wins_nest _ _ (nest_oddL (okVs_rows hf l)), rdL_some _ _ _ rfl fun j _ => by rw [Nat.zero_add]⟩, h⟩
noncomputable def wA [Args] : WL rw_uuuu := ⟨0, 0, Args.cA, Args.A, .inr ⟨Args.bA, Args.dA, _, rfl, rdL_some _ _ _ rfl fun j _ => by rw [Nat.zero_add]⟩, Args.hA⟩
noncomputable def wB [Args] : WL rw_L := ⟨1, 0, Args.cB, Args.B, .inr ⟨Args.bB, Args.dB, _, rfl, rdL_some _ _ _ rfl fun j _ => by rw [Nat.zero_add]⟩, Args.hB⟩
end Go.Proofs.Ytkdeabcaijfdfaa.nss03
