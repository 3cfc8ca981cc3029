/-
  viewportlaw19.MarksLater gives true whatever its arguments are, and leaves what was there. No condition.
-/
import Derived.Test.YtmjibnlojmdcgaaGreatDoorMltPure
import Derived.Test.YtmjibnlojmdcgaaGreatDoorNestArg
set_option linter.unusedSimpArgs false
set_option linter.unusedVariables false
set_option linter.unusedSectionVars false
set_option linter.unnecessarySimpa false
namespace Go.Proofs.YtmjibnlojmdcgaaGreatDoor.marksLater
open Go Go.Proofs.YtmjibnlojmdcgaaGreatDoor Ax Go.Proofs.YtmjibnlojmdcgaaGreatDoor.mlt19
theorem iv_fl {l : List Int} : ∀ {v : Value}, v ∈ iv l → flat v = true := fun h => by
  obtain ⟨z, _, rfl⟩ := List.mem_map.1 h
  rfl
theorem qll_ (w : World) (lv : Value) (lx : List (Int × Int × Int × Int × Int × Int × @NL (nestOf w) × Int)) (k : Int) (j : Int) (first : Int) (later : Int) (lh : @RowsV (nestOf w) _ (@rw_iiiiiiLu (nestOf w)) w lv lx) (_ : (Lit.int .i64 k).wf = true) (_ : (Lit.int .i64 j).wf = true) (_ : (Lit.int .i64 first).wf = true) (_ : (Lit.int .i64 later).wf = true) : Calls Tryz.prog 3 #[lv, .int .i64 k, .int .i64 j, .int .i64 first, .int .i64 later] w fun e w' => e = .returned (.bool true) ∧ Go.RowKit.Below w.heap.size w w' := by
  letI : Args := { toNest := nestOf w, A := lx, bA := (winAt lv (lx.map fun _ => 0)).1, dA := (winAt lv (lx.map fun _ => 0)).2, cA := capOf lv, hA := @RowsV.len (nestOf w) _ _ _ _ _ lh }
  have ht : Ax.TabsOK w.heap.size w := by
    refine ⟨fun g l h => (nomatch (show (none : Option (List Value)) = some l from h)), fun j b d l hj w' hk i u hi => ?_⟩
    rcases Nat.lt_or_ge j 64 with hlt | hge
    · have hj : winL j = some (b, d, l) := by rw [← wins_low j hlt]; exact hj
      clear hlt
      match j with
      | 0 =>
        have hq := Option.some.inj (show some ((winAt lv (lx.map fun _ => 0)).1, (winAt lv (lx.map fun _ => 0)).2, rows rw_iiiiiiLu lx) = some (b, d, l) from hj)
        obtain ⟨rfl, hq2⟩ := Prod.mk.inj hq
        obtain ⟨rfl, rfl⟩ := Prod.mk.inj hq2
        obtain ⟨u, h1, h2⟩ := lh.win w' hk i u hi
        exact ⟨u, h1, fun σ => h2.vr wins_nest σ⟩
      | (k + 1) => exact nomatch (show (none : Option (Nat × Nat × List Value)) = some (b, d, l) from hj)
    · have hj : (nestOf w).nest (j - 64) = some (b, d, l) := by
        have := wins_high j hge
        rw [hj] at this
        exact this.symm
      skip
      obtain ⟨u', h1, rfl, h2⟩ := nestOf_cells hj hk i u hi
      exact ⟨_, h1, fun σ => qd3_ h2 σ⟩
  obtain ⟨n, h⟩ := qlk_ k j first later
  have hg := m_V_ok n k j first later () h
  have hl := law_ok (P := Tryz.prog) (f := 3) (args := A_V k j first later) (args' := [lv, .int .i64 k, .int .i64 j, .int .i64 first, .int .i64 later]) (k := 0) (B := .nil) hg (w := w) (n0 := ⟨⟨w.heap.size, fun _ => False⟩, fun _ => False⟩) (σ := fun _ => none) (.cons (lh.vr (j := 0) rfl _) (.cons (.int .i64 k) (.cons (.int .i64 j) (.cons (.int .i64 first) (.cons (.int .i64 later) .nil))))) (hr_start w ht)
  exact hl.mono fun e w' ⟨h1, σ', h2⟩ => ⟨h1, h2.below⟩
end Go.Proofs.YtmjibnlojmdcgaaGreatDoor.marksLater
