/-
  viewportlaw06.MunchScript gives true whatever its arguments are, and leaves what was there. No condition.
-/
import Derived.Test.YtaompjplflaloaaMunchScriptPure
import Derived.Test.YtaompjplflaloaaWinArg
import Derived.Test.YtaompjplflaloaaRowArg
set_option linter.unusedSimpArgs false
set_option linter.unusedVariables false
set_option linter.unusedSectionVars false
set_option linter.unnecessarySimpa false
namespace Go.Proofs.Ytaompjplflaloaa.munchScript
open Go Go.Proofs.Ytaompjplflaloaa Ax Go.Proofs.Ytaompjplflaloaa.munchs
theorem walk_MunchScript (dv0 dv1 : Value) (dx0 dx1 : List Int) (lv : Value) (lx : List (Int × Int × ByteArray)) (w : World) (dh0 : IntsV w dv0 dx0) (dh1 : IntsV w dv1 dx1) (lh : RowsV rw_iis w lv lx) : Calls Try.prog 4 #[.agg #[dv0, dv1], lv] w fun e w' => e = .returned (.bool true) ∧ Go.RowKit.Below w.heap.size w w' := by
  letI : Args := { N := dx0, bN := (winAt dv0 dx0).1, dN := (winAt dv0 dx0).2, cN := capOf dv0, R := dx1, bR := (winAt dv1 dx1).1, dR := (winAt dv1 dx1).2, cR := capOf dv1, L := lx, bL := (winAt lv (lx.map fun _ => 0)).1, dL := (winAt lv (lx.map fun _ => 0)).2, cL := capOf lv }
  have ht : Ax.TabsOK w.heap.size w := by
    refine ⟨fun g l h => (nomatch (show (none : Option (List Value)) = some l from h)), fun j b d l hj w' hk i u hi => ?_⟩
    match j with
    | 0 =>
      have hq := Option.some.inj (show some ((winAt dv0 dx0).1, (winAt dv0 dx0).2, iv dx0) = some (b, d, l) from hj)
      obtain ⟨rfl, hq2⟩ := Prod.mk.inj hq
      obtain ⟨rfl, rfl⟩ := Prod.mk.inj hq2
      exact dh0.win w' hk i u hi
    | 1 =>
      have hq := Option.some.inj (show some ((winAt dv1 dx1).1, (winAt dv1 dx1).2, iv dx1) = some (b, d, l) from hj)
      obtain ⟨rfl, hq2⟩ := Prod.mk.inj hq
      obtain ⟨rfl, rfl⟩ := Prod.mk.inj hq2
      exact dh1.win w' hk i u hi
    | 2 =>
      have hq := Option.some.inj (show some ((winAt lv (lx.map fun _ => 0)).1, (winAt lv (lx.map fun _ => 0)).2, rows rw_iis lx) = some (b, d, l) from hj)
      obtain ⟨rfl, hq2⟩ := Prod.mk.inj hq
      obtain ⟨rfl, rfl⟩ := Prod.mk.inj hq2
      exact lh.win rwf_iis (by decide) w' hk i u hi
    | (k + 3) => exact nomatch (show (none : Option (Nat × Nat × List Value)) = some (b, d, l) from hj)
  obtain ⟨n, h⟩ := script_true 
  have hg := m_viewportlaw06MunchScript_ok n  () h
  have hl := law_ok (P := Try.prog) (f := 4) (args := A_viewportlaw06MunchScript ) (args' := [.agg #[dv0, dv1], lv]) (k := 0) (B := .nil) hg (w := w) (n0 := ⟨⟨w.heap.size, fun _ => False⟩, fun _ => False⟩) (σ := fun _ => none) (.cons (VRs.agg (.cons (dh0.vr (j := 0) rfl _) (.cons (dh1.vr (j := 1) rfl _) .nil))) (.cons (lh.vr (j := 2) rfl _) .nil)) (hr_start w ht)
  exact hl.mono fun e w' ⟨h1, σ', h2⟩ => ⟨h1, h2.below⟩
end Go.Proofs.Ytaompjplflaloaa.munchScript
