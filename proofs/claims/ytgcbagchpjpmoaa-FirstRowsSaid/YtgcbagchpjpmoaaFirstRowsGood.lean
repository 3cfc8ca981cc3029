/-
  viewportlaw12.FirstRows gives true whatever its arguments are, and leaves what was there. No condition.
-/
import Derived.Test.YtgcbagchpjpmoaaFirPure
import Derived.Test.YtgcbagchpjpmoaaNestArg
set_option linter.unusedSimpArgs false
set_option linter.unusedVariables false
set_option linter.unusedSectionVars false
set_option linter.unnecessarySimpa false
namespace Go.Proofs.Ytgcbagchpjpmoaa.firstRows
open Go Go.Proofs.Ytgcbagchpjpmoaa Ax Go.Proofs.Ytgcbagchpjpmoaa.firw
theorem iv_fl {l : List Int} : ∀ {v : Value}, v ∈ iv l → flat v = true := fun h => by
  obtain ⟨z, _, rfl⟩ := List.mem_map.1 h
  rfl
theorem walk_FirstRows (w : World) (terms : Int) (k : Int) (early : Int) (_ : (Lit.int .i64 terms).wf = true) (_ : (Lit.int .i64 k).wf = true) (_ : (Lit.int .i64 early).wf = true) : Calls Try.prog 3 #[.int .i64 terms, .int .i64 k, .int .i64 early] w fun e w' => e = .returned (.bool true) ∧ Go.RowKit.Below w.heap.size w w' := by
  letI : Args := { toNest := nestOf w }
  have ht : Ax.TabsOK w.heap.size w := by
    refine ⟨fun g l h => (nomatch (show (none : Option (List Value)) = some l from h)), fun j b d l hj w' hk i u hi => ?_⟩
    rcases Nat.lt_or_ge j 64 with hlt | hge
    · have hj : winL j = some (b, d, l) := by rw [← wins_low j hlt]; exact hj
      clear hlt
      exact nomatch (show (none : Option (Nat × Nat × List Value)) = some (b, d, l) from hj)
    · have hj : (nestOf w).nest (j - 64) = some (b, d, l) := by
        have := wins_high j hge
        rw [hj] at this
        exact this.symm
      obtain ⟨u', h1, rfl, h2⟩ := nestOf_cells hj hk i u hi
      exact ⟨_, h1, fun σ => flat_vr h2 σ⟩
  obtain ⟨n, r, h⟩ := firstRows_true terms k early
  have hg0 := m_viewportlaw12FirstRows_ok n terms k early r h
  obtain ⟨h', hg⟩ : ∃ h', Gv Try.prog (.func 3) (A_viewportlaw12FirstRows terms k early) Ax.h0 (.bool true) h' := by rcases r with r | r <;> exact ⟨_, hg0⟩
  have hl := law_ok (P := Try.prog) (f := 3) (args := A_viewportlaw12FirstRows terms k early) (args' := [.int .i64 terms, .int .i64 k, .int .i64 early]) (k := 0) (B := .nil) hg (w := w) (n0 := ⟨⟨w.heap.size, fun _ => False⟩, fun _ => False⟩) (σ := fun _ => none) (.cons (.int .i64 terms) (.cons (.int .i64 k) (.cons (.int .i64 early) .nil))) (hr_start w ht)
  exact hl.mono fun e w' ⟨h1, σ', h2⟩ => ⟨h1, h2.below⟩
end Go.Proofs.Ytgcbagchpjpmoaa.firstRows
