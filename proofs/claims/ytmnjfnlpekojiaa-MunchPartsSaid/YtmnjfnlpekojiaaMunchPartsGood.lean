/-
  viewportlaw06.MunchParts gives true whatever its arguments are, and leaves what was there. No condition.
-/
import Derived.Test.YtmnjfnlpekojiaaMunchPartsPure
import Derived.Test.YtmnjfnlpekojiaaWinArg
set_option linter.unusedSimpArgs false
set_option linter.unusedVariables false
set_option linter.unusedSectionVars false
set_option linter.unnecessarySimpa false
namespace Go.Proofs.Ytmnjfnlpekojiaa.munchParts
open Go Go.Proofs.Ytmnjfnlpekojiaa Ax Go.Proofs.Ytmnjfnlpekojiaa.munchw
theorem walk_MunchParts (dv0 dv1 : Value) (dx0 dx1 : List Int) (s : ByteArray) (be : ByteArray) (ah : ByteArray) (w : World) (dh0 : IntsV w dv0 dx0) (dh1 : IntsV w dv1 dx1) (_ : s.size ≤ maxLen) (_ : be.size ≤ maxLen) (_ : ah.size ≤ maxLen) : Calls Try.prog 5 #[.agg #[dv0, dv1], .string s, .string be, .string ah] w fun e w' => e = .returned (.bool true) ∧ Go.RowKit.Below w.heap.size w w' := by
  letI : Args := { N := dx0, bN := (winAt dv0 dx0).1, dN := (winAt dv0 dx0).2, cN := capOf dv0, R := dx1, bR := (winAt dv1 dx1).1, dR := (winAt dv1 dx1).2, cR := capOf dv1 }
  have ht : Ax.TabsOK w.heap.size w := by
    refine ⟨fun g l h => (nomatch (show (none : Option (List Value)) = some l from h)), fun j b d l hj w' hk i u hi => ?_⟩
    match j with
    | 0 =>
      have hq := Option.some.inj (show some ((winAt dv0 dx0).1, (winAt dv0 dx0).2, iv dx0) = some (b, d, l) from hj)
      obtain ⟨rfl, hq2⟩ := Prod.mk.inj hq
      obtain ⟨rfl, rfl⟩ := Prod.mk.inj hq2
      exact dh0.win w' hk i u hi
    | 1 =>
      have hq := Option.some.inj (show some ((winAt dv1 dx1).1, (winAt dv1 dx1).2, iv dx1) = some (b, d, l) from hj)
      obtain ⟨rfl, hq2⟩ := Prod.mk.inj hq
      obtain ⟨rfl, rfl⟩ := Prod.mk.inj hq2
      exact dh1.win w' hk i u hi
    | (k + 2) => exact nomatch (show (none : Option (Nat × Nat × List Value)) = some (b, d, l) from hj)
  obtain ⟨n, h⟩ := parts_true s be ah
  have hg := m5_ok n s be ah () h
  have hl := law_ok (P := Try.prog) (f := 5) (args := A5 s be ah) (args' := [.agg #[dv0, dv1], .string s, .string be, .string ah]) (k := 0) (B := .nil) hg (w := w) (n0 := ⟨⟨w.heap.size, fun _ => False⟩, fun _ => False⟩) (σ := fun _ => none) (.cons (VRs.agg (.cons (dh0.vr (j := 0) rfl _) (.cons (dh1.vr (j := 1) rfl _) .nil))) (.cons (.string s) (.cons (.string be) (.cons (.string ah) .nil)))) (hr_start w ht)
  exact hl.mono fun e w' ⟨h1, σ', h2⟩ => ⟨h1, h2.below⟩
end Go.Proofs.Ytmnjfnlpekojiaa.munchParts
