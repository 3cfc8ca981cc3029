/-
  viewportlaw26.StylesOthers gives true whatever its arguments are, and leaves what was there. No condition.
-/
import Derived.Test.YtliifcfgcfenkaaOthPure
import Derived.Test.YtliifcfgcfenkaaNestArg
set_option linter.unusedSimpArgs false
set_option linter.unusedVariables false
set_option linter.unusedSectionVars false
set_option linter.unnecessarySimpa false
namespace Go.Proofs.Ytliifcfgcfenkaa.stylesOthers
open Go Go.Proofs.Ytliifcfgcfenkaa Ax Go.Proofs.Ytliifcfgcfenkaa.styow
theorem iv_fl {l : List Int} : ∀ {v : Value}, v ∈ iv l → flat v = true := fun h => by
  obtain ⟨z, _, rfl⟩ := List.mem_map.1 h
  rfl
theorem walk_StylesOthers (w : World) (lv : Value) (lx : List (Int × @NL (nestOf w) × Int × Int)) (kind : Int) (wayv : Value) (wayx : List Int) (other0 : Int) (otherv1 : Value) (otherx1 : List Int) (other2 : Int) (other3 : Int) (aheadv : Value) (aheadx : List Int) (lh : @RowsV (nestOf w) _ (@rw_iLii (nestOf w)) w lv lx) (_ : (Lit.int .i64 kind).wf = true) (wayh : IntsV w wayv wayx) (_ : (Lit.int .i64 other0).wf = true) (otherh1 : IntsV w otherv1 otherx1) (_ : (Lit.int .i64 other2).wf = true) (_ : (Lit.int .i64 other3).wf = true) (aheadh : IntsV w aheadv aheadx) : Calls Try.prog 4 #[lv, .int .i64 kind, wayv, .agg #[.int .i64 other0, otherv1, .int .i64 other2, .int .i64 other3], aheadv] w fun e w' => e = .returned (.bool true) ∧ Go.RowKit.Below w.heap.size w w' := by
  obtain ⟨othery1, -, otherc1⟩ := CR.ints otherh1
  letI : Args := { toNest := nestOf w, S := lx, bS := (winAt lv (lx.map fun _ => 0)).1, dS := (winAt lv (lx.map fun _ => 0)).2, cS := capOf lv, hS := @RowsV.len (nestOf w) _ _ _ _ _ lh, Y := wayx, bY := (winAt wayv wayx).1, dY := (winAt wayv wayx).2, cY := capOf wayv, hY := wayh.len, A := aheadx, bA := (winAt aheadv aheadx).1, dA := (winAt aheadv aheadx).2, cA := capOf aheadv, hA := aheadh.len }
  have ht : Ax.TabsOK w.heap.size w := by
    refine ⟨fun g l h => (nomatch (show (none : Option (List Value)) = some l from h)), fun j b d l hj w' hk i u hi => ?_⟩
    rcases Nat.lt_or_ge j 64 with hlt | hge
    · have hj : winL j = some (b, d, l) := by rw [← wins_low j hlt]; exact hj
      clear hlt
      match j with
      | 0 =>
        have hq := Option.some.inj (show some ((winAt lv (lx.map fun _ => 0)).1, (winAt lv (lx.map fun _ => 0)).2, rows rw_iLii lx) = some (b, d, l) from hj)
        obtain ⟨rfl, hq2⟩ := Prod.mk.inj hq
        obtain ⟨rfl, rfl⟩ := Prod.mk.inj hq2
        obtain ⟨u, h1, h2⟩ := lh.win w' hk i u hi
        exact ⟨u, h1, fun σ => h2.vr wins_nest σ⟩
      | 1 =>
        have hq := Option.some.inj (show some ((winAt wayv wayx).1, (winAt wayv wayx).2, iv wayx) = some (b, d, l) from hj)
        obtain ⟨rfl, hq2⟩ := Prod.mk.inj hq
        obtain ⟨rfl, rfl⟩ := Prod.mk.inj hq2
        exact ⟨u, wayh.win w' hk i u hi, fun σ => flat_vr (iv_fl (List.mem_of_getElem? hi)) σ⟩
      | 2 =>
        have hq := Option.some.inj (show some ((winAt aheadv aheadx).1, (winAt aheadv aheadx).2, iv aheadx) = some (b, d, l) from hj)
        obtain ⟨rfl, hq2⟩ := Prod.mk.inj hq
        obtain ⟨rfl, rfl⟩ := Prod.mk.inj hq2
        exact ⟨u, aheadh.win w' hk i u hi, fun σ => flat_vr (iv_fl (List.mem_of_getElem? hi)) σ⟩
      | (k + 3) => exact nomatch (show (none : Option (Nat × Nat × List Value)) = some (b, d, l) from hj)
    · have hj : (nestOf w).nest (j - 64) = some (b, d, l) := by
        have := wins_high j hge
        rw [hj] at this
        exact this.symm
      obtain ⟨u', h1, rfl, h2⟩ := nestOf_cells hj hk i u hi
      exact ⟨_, h1, fun σ => flat_vr h2 σ⟩
  obtain ⟨n, h⟩ := stylesOthers_true kind other0 othery1 other2 other3
  have hg := m_viewportlaw26StylesOthers_ok n kind other0 othery1 other2 other3 () h
  have hl := law_ok (P := Try.prog) (f := 4) (args := A_viewportlaw26StylesOthers kind other0 othery1 other2 other3) (args' := [lv, .int .i64 kind, wayv, .agg #[.int .i64 other0, otherv1, .int .i64 other2, .int .i64 other3], aheadv]) (k := 0) (B := .nil) hg (w := w) (n0 := ⟨⟨w.heap.size, fun _ => False⟩, fun _ => False⟩) (σ := fun _ => none) (.cons (lh.vr (j := 0) rfl _) (.cons (.int .i64 kind) (.cons (wayh.vr (j := 1) rfl _) (.cons (VRs.agg (.cons (.int .i64 other0) (.cons (otherc1.vr wins_nest _) (.cons (.int .i64 other2) (.cons (.int .i64 other3) .nil))))) (.cons (aheadh.vr (j := 2) rfl _) .nil))))) (hr_start w ht)
  exact hl.mono fun e w' ⟨h1, σ', h2⟩ => ⟨h1, h2.below⟩
end Go.Proofs.Ytliifcfgcfenkaa.stylesOthers
