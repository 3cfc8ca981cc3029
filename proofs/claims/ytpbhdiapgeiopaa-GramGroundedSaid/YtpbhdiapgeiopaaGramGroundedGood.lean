/-
  viewportlaw11.GramGrounded gives true whatever its arguments are, and leaves what was there. No condition.
-/
import Derived.Test.YtpbhdiapgeiopaaGroundedPure
import Derived.Test.YtpbhdiapgeiopaaNestArg
set_option linter.unusedSimpArgs false
set_option linter.unusedVariables false
set_option linter.unusedSectionVars false
set_option linter.unnecessarySimpa false
namespace Go.Proofs.Ytpbhdiapgeiopaa.gramGrounded
open Go Go.Proofs.Ytpbhdiapgeiopaa Ax Go.Proofs.Ytpbhdiapgeiopaa.gramw
theorem iv_fl {l : List Int} : ∀ {v : Value}, v ∈ iv l → flat v = true := fun h => by
  obtain ⟨z, _, rfl⟩ := List.mem_map.1 h
  rfl
theorem walk_GramGrounded (w : World) (g0 : Int) (g1 : Int) (g2 : Int) (gv3 : Value) (gx3 : List (Int × @NL (nestOf w))) (_ : (Lit.int .i64 g0).wf = true) (_ : (Lit.int .i64 g1).wf = true) (_ : (Lit.int .i64 g2).wf = true) (gh3 : @RowsV (nestOf w) _ (@rw_iL (nestOf w)) w gv3 gx3) : Calls Try.prog 5 #[.agg #[.int .i64 g0, .int .i64 g1, .int .i64 g2, gv3]] w fun e w' => e = .returned (.bool true) ∧ Go.RowKit.Below w.heap.size w w' := by
  letI : Args := { toNest := nestOf w, G := gx3, bG := (winAt gv3 (gx3.map fun _ => 0)).1, dG := (winAt gv3 (gx3.map fun _ => 0)).2, cG := capOf gv3 }
  have ht : Ax.TabsOK w.heap.size w := by
    refine ⟨fun g l h => (nomatch (show (none : Option (List Value)) = some l from h)), fun j b d l hj w' hk i u hi => ?_⟩
    rcases Nat.lt_or_ge j 64 with hlt | hge
    · have hj : winL j = some (b, d, l) := by rw [← wins_low j hlt]; exact hj
      clear hlt
      match j with
      | 0 =>
        have hq := Option.some.inj (show some ((winAt gv3 (gx3.map fun _ => 0)).1, (winAt gv3 (gx3.map fun _ => 0)).2, rows rw_iL gx3) = some (b, d, l) from hj)
        obtain ⟨rfl, hq2⟩ := Prod.mk.inj hq
        obtain ⟨rfl, rfl⟩ := Prod.mk.inj hq2
        obtain ⟨u, h1, h2⟩ := gh3.win w' hk i u hi
        exact ⟨u, h1, fun σ => h2.vr wins_nest σ⟩
      | (k + 1) => exact nomatch (show (none : Option (Nat × Nat × List Value)) = some (b, d, l) from hj)
    · have hj : (nestOf w).nest (j - 64) = some (b, d, l) := by
        have := wins_high j hge
        rw [hj] at this
        exact this.symm
      obtain ⟨u', h1, rfl, h2⟩ := nestOf_cells hj hk i u hi
      exact ⟨_, h1, fun σ => flat_vr h2 σ⟩
  obtain ⟨n, h⟩ := grounded_true g0 g1 g2
  have hg := m_viewportlaw11GramGrounded_ok n g0 g1 g2 true h
  have hl := law_ok (P := Try.prog) (f := 5) (args := A_viewportlaw11GramGrounded g0 g1 g2) (args' := [.agg #[.int .i64 g0, .int .i64 g1, .int .i64 g2, gv3]]) (k := 0) (B := .nil) hg (w := w) (n0 := ⟨⟨w.heap.size, fun _ => False⟩, fun _ => False⟩) (σ := fun _ => none) (.cons (VRs.agg (.cons (.int .i64 g0) (.cons (.int .i64 g1) (.cons (.int .i64 g2) (.cons (gh3.vr (j := 0) rfl _) .nil))))) .nil) (hr_start w ht)
  exact hl.mono fun e w' ⟨h1, σ', h2⟩ => ⟨h1, h2.below⟩
end Go.Proofs.Ytpbhdiapgeiopaa.gramGrounded
