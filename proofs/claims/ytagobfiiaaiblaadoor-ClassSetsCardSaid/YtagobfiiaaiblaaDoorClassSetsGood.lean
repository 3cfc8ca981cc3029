/-
  viewportlaw01.ClassSets gives true whatever its arguments are, and leaves what was there. No condition.
-/
import Derived.Test.YtagobfiiaaiblaaDoorCsePure
import Derived.Test.YtagobfiiaaiblaaDoorNestArg
set_option linter.unusedSimpArgs false
set_option linter.unusedVariables false
set_option linter.unusedSectionVars false
set_option linter.unnecessarySimpa false
namespace Go.Proofs.YtagobfiiaaiblaaDoor.classSets
open Go Go.Proofs.YtagobfiiaaiblaaDoor Ax Go.Proofs.YtagobfiiaaiblaaDoor.cse01
theorem iv_fl {l : List Int} : ∀ {v : Value}, v ∈ iv l → flat v = true := fun h => by
  obtain ⟨z, _, rfl⟩ := List.mem_map.1 h
  rfl
theorem walk_ClassSets (w : World) (a0 : Int) (a1 : Int) (a2 : Int) (a3 : Int) (b0 : Int) (b1 : Int) (b2 : Int) (b3 : Int) (ht1 : @Ax.TabsOK Go.Proofs.YtagobfiiaaiblaaDoor.classSets.tabs w.heap.size w) (wf0 : (Lit.int .u64 a0).wf = true) (wf1 : (Lit.int .u64 a1).wf = true) (wf2 : (Lit.int .u64 a2).wf = true) (wf3 : (Lit.int .u64 a3).wf = true) (wf4 : (Lit.int .u64 b0).wf = true) (wf5 : (Lit.int .u64 b1).wf = true) (wf6 : (Lit.int .u64 b2).wf = true) (wf7 : (Lit.int .u64 b3).wf = true) : Calls Tryd.prog 3 #[.agg #[.int .u64 a0, .int .u64 a1, .int .u64 a2, .int .u64 a3], .agg #[.int .u64 b0, .int .u64 b1, .int .u64 b2, .int .u64 b3]] w fun e w' => e = .returned (.bool true) ∧ Go.RowKit.Below w.heap.size w w' := by
  letI : Args := { toNest := nestOf w }
  have ht : Ax.TabsOK w.heap.size w := by
    refine ⟨fun g l h => ht1.1 g l h, fun j b d l hj hz w' hk i u hi => ?_⟩
    rcases Nat.lt_or_ge j 64 with hlt | hge
    · have hj : winL j = some (b, d, l) := by rw [← wins_low j hlt]; exact hj
      clear hlt
      exact nomatch (show (none : Option (Nat × Nat × List Value)) = some (b, d, l) from hj)
    · have hj : (nestOf w).nest (j - 64) = some (b, d, l) := by
        have := wins_high j hge
        rw [hj] at this
        exact this.symm
      rw [nest_raw (wins_hz j hge hz)] at hj
      obtain ⟨u', h1, rfl, h2⟩ := nestOf_cells hj hk i u hi
      exact ⟨_, h1, fun σ => flat_vr h2 σ⟩
  obtain ⟨n, h⟩ := classSets_true a0 a1 a2 a3 b0 b1 b2 b3 wf0 wf1 wf2 wf3 wf4 wf5 wf6 wf7
  have hg := m_viewportlaw01ClassSets_ok n a0 a1 a2 a3 b0 b1 b2 b3 () h
  have hl := law_ok (P := Tryd.prog) (f := 3) (args := A_viewportlaw01ClassSets a0 a1 a2 a3 b0 b1 b2 b3) (args' := [.agg #[.int .u64 a0, .int .u64 a1, .int .u64 a2, .int .u64 a3], .agg #[.int .u64 b0, .int .u64 b1, .int .u64 b2, .int .u64 b3]]) (k := 0) (B := .nil) hg (w := w) (n0 := ⟨⟨w.heap.size, fun _ => False⟩, fun _ => False⟩) (σ := Ren.nil) (.cons (VRs.agg (.cons (.int .u64 a0) (.cons (.int .u64 a1) (.cons (.int .u64 a2) (.cons (.int .u64 a3) .nil))))) (.cons (VRs.agg (.cons (.int .u64 b0) (.cons (.int .u64 b1) (.cons (.int .u64 b2) (.cons (.int .u64 b3) .nil))))) .nil)) (hr_start w ht)
  exact hl.mono fun e w' ⟨h1, σ', h2⟩ => ⟨h1, h2.below⟩
end Go.Proofs.YtagobfiiaaiblaaDoor.classSets
