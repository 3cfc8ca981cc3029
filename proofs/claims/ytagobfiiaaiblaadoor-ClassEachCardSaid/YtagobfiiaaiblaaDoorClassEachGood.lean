/-
  viewportlaw01.ClassEach gives true whatever its arguments are, and leaves what was there. No condition.
-/
import Derived.Test.YtagobfiiaaiblaaDoorCeaPure
import Derived.Test.YtagobfiiaaiblaaDoorNestArg
set_option linter.unusedSimpArgs false
set_option linter.unusedVariables false
set_option linter.unusedSectionVars false
set_option linter.unnecessarySimpa false
namespace Go.Proofs.YtagobfiiaaiblaaDoor.classEach
open Go Go.Proofs.YtagobfiiaaiblaaDoor Ax Go.Proofs.YtagobfiiaaiblaaDoor.cea01
theorem iv_fl {l : List Int} : ∀ {v : Value}, v ∈ iv l → flat v = true := fun h => by
  obtain ⟨z, _, rfl⟩ := List.mem_map.1 h
  rfl
theorem walk_ClassEach (w : World) (c0 : Int) (c1 : Int) (c2 : Int) (c3 : Int) (stop : Int) (ht1 : @Ax.TabsOK Go.Proofs.YtagobfiiaaiblaaDoor.classEach.tabs w.heap.size w) (wf0 : (Lit.int .u64 c0).wf = true) (wf1 : (Lit.int .u64 c1).wf = true) (wf2 : (Lit.int .u64 c2).wf = true) (wf3 : (Lit.int .u64 c3).wf = true) (wf4 : (Lit.int .i64 stop).wf = true) : Calls Tryd.prog 4 #[.agg #[.int .u64 c0, .int .u64 c1, .int .u64 c2, .int .u64 c3], .int .i64 stop] w fun e w' => e = .returned (.bool true) ∧ Go.RowKit.Below w.heap.size w w' := by
  letI : Args := { toNest := nestOf w }
  have ht : Ax.TabsOK w.heap.size w := by
    refine ⟨fun g l h => ht1.1 g l h, fun j b d l hj hz w' hk i u hi => ?_⟩
    rcases Nat.lt_or_ge j 64 with hlt | hge
    · have hj : winL j = some (b, d, l) := by rw [← wins_low j hlt]; exact hj
      clear hlt
      exact nomatch (show (none : Option (Nat × Nat × List Value)) = some (b, d, l) from hj)
    · have hj : (nestOf w).nest (j - 64) = some (b, d, l) := by
        have := wins_high j hge
        rw [hj] at this
        exact this.symm
      rw [nest_raw (wins_hz j hge hz)] at hj
      obtain ⟨u', h1, rfl, h2⟩ := nestOf_cells hj hk i u hi
      exact ⟨_, h1, fun σ => flat_vr h2 σ⟩
  obtain ⟨n, h⟩ := classEach_true c0 c1 c2 c3 stop wf0 wf1 wf2 wf3 wf4
  have hg := m_viewportlaw01ClassEach_ok n c0 c1 c2 c3 stop () h
  have hl := law_ok (P := Tryd.prog) (f := 4) (args := A_viewportlaw01ClassEach c0 c1 c2 c3 stop) (args' := [.agg #[.int .u64 c0, .int .u64 c1, .int .u64 c2, .int .u64 c3], .int .i64 stop]) (k := 0) (B := .nil) hg (w := w) (n0 := ⟨⟨w.heap.size, fun _ => False⟩, fun _ => False⟩) (σ := Ren.nil) (.cons (VRs.agg (.cons (.int .u64 c0) (.cons (.int .u64 c1) (.cons (.int .u64 c2) (.cons (.int .u64 c3) .nil))))) (.cons (.int .i64 stop) .nil)) (hr_start w ht)
  exact hl.mono fun e w' ⟨h1, σ', h2⟩ => ⟨h1, h2.below⟩
end Go.Proofs.YtagobfiiaaiblaaDoor.classEach
