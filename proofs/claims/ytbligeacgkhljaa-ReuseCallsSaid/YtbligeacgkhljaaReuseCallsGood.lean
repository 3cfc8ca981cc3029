/-
  viewportlaw21.ReuseCalls gives true whatever its arguments are, and leaves what was there. No condition.
-/
import Derived.Test.YtbligeacgkhljaaRcaQPure
import Derived.Test.YtbligeacgkhljaaNestArg
set_option linter.unusedSimpArgs false
set_option linter.unusedVariables false
set_option linter.unusedSectionVars false
set_option linter.unnecessarySimpa false
namespace Go.Proofs.Ytbligeacgkhljaa.reuseCalls
open Go Go.Proofs.Ytbligeacgkhljaa Ax Go.Proofs.Ytbligeacgkhljaa.rca21
theorem iv_fl {l : List Int} : ∀ {v : Value}, v ∈ iv l → flat v = true := fun h => by
  obtain ⟨z, _, rfl⟩ := List.mem_map.1 h
  rfl
theorem qy1_ (w : World) (poolv : Value) (poolx : List (Int × Int × Int × Int × Int × Int × @NL (nestOf w) × Int)) (sym : Int) (at_ : Int) (poolh : @RowsV (nestOf w) _ (@rw_iiiiiiLu (nestOf w)) w poolv poolx) (poolu : ∀ x ∈ poolx, @uq_iiiiiiLu (nestOf w) x) (_ : (Lit.int .i64 sym).wf = true) (_ : (Lit.int .i64 at_).wf = true) : Calls Try.prog 3 #[poolv, .int .i64 sym, .int .i64 at_] w fun e w' => e = .returned (.bool true) ∧ Go.RowKit.Below w.heap.size w w' := by
  letI : Args := { toNest := nestOf w, A := poolx, bA := (winAt poolv (poolx.map fun _ => 0)).1, dA := (winAt poolv (poolx.map fun _ => 0)).2, cA := capOf poolv, hA := @RowsV.len (nestOf w) _ _ _ _ _ poolh, uA := poolu }
  have ht : Ax.TabsOK w.heap.size w := by
    refine ⟨fun g l h => (nomatch (show (none : Option (List Value)) = some l from h)), fun j b d l hj hz w' hk i u hi => ?_⟩
    rcases Nat.lt_or_ge j 64 with hlt | hge
    · have hj : winL j = some (b, d, l) := by rw [← wins_low j hlt]; exact hj
      clear hlt
      match j with
      | 0 =>
        have hq := Option.some.inj (show some ((winAt poolv (poolx.map fun _ => 0)).1, (winAt poolv (poolx.map fun _ => 0)).2, rows rw_iiiiiiLu poolx) = some (b, d, l) from hj)
        obtain ⟨rfl, hq2⟩ := Prod.mk.inj hq
        obtain ⟨rfl, rfl⟩ := Prod.mk.inj hq2
        obtain ⟨u, h1, h2⟩ := poolh.win w' hk i u hi
        exact ⟨u, h1, fun σ => h2.vr qee_ wins_even σ⟩
      | (k + 1) => exact nomatch (show (none : Option (Nat × Nat × List Value)) = some (b, d, l) from hj)
    · have hj : (nestOf w).nest (j - 64) = some (b, d, l) := by
        have := wins_high j hge
        rw [hj] at this
        exact this.symm
      rw [nest_raw (wins_hz j hge hz)] at hj
      obtain ⟨u', h1, rfl, h2⟩ := nestOf_cells hj hk i u hi
      exact ⟨_, h1, fun σ => qpr_ h2 σ⟩
  obtain ⟨n, h⟩ := qy0_ sym at_
  have hg := qm0_ n sym at_ () h
  have hl := law_ok (P := Try.prog) (f := 3) (args := qis_ sym at_) (args' := [poolv, .int .i64 sym, .int .i64 at_]) (k := 0) (B := .nil) hg (w := w) (n0 := ⟨⟨w.heap.size, fun _ => False⟩, fun _ => False⟩) (σ := Ren.nil) (.cons (poolh.vr (j := 0) rfl rfl _) (.cons (.int .i64 sym) (.cons (.int .i64 at_) .nil))) (hr_start w ht)
  exact hl.mono fun e w' ⟨h1, σ', h2⟩ => ⟨h1, h2.below⟩
end Go.Proofs.Ytbligeacgkhljaa.reuseCalls
