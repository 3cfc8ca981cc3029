/-
  viewportlaw26.StylesOwn gives true whatever its arguments are, and leaves what was there. No condition.
-/
import Derived.Test.YtejokkfeocohpaaSowQPure
import Derived.Test.YtejokkfeocohpaaNestArg
set_option linter.unusedSimpArgs false
set_option linter.unusedVariables false
set_option linter.unusedSectionVars false
set_option linter.unnecessarySimpa false
namespace Go.Proofs.Ytejokkfeocohpaa.stylesOwn
open Go Go.Proofs.Ytejokkfeocohpaa Ax Go.Proofs.Ytejokkfeocohpaa.sow26
theorem iv_fl {l : List Int} : ∀ {v : Value}, v ∈ iv l → flat v = true := fun h => by
  obtain ⟨z, _, rfl⟩ := List.mem_map.1 h
  rfl
theorem walk_StylesOwn (w : World) (lv : Value) (lx : List (Int × @NL (nestOf w) × Int × Int)) (tv : Value) (tx : List (Int × Int × Int × Int × Int × Int × @NL (nestOf w) × Int)) (i : Int) (long : Int) (lh : @RowsV (nestOf w) _ (@rw_iLii (nestOf w)) w lv lx) (th : @RowsV (nestOf w) _ (@rw_iiiiiiLu (nestOf w)) w tv tx) (tu : ∀ x ∈ tx, @uq_iiiiiiLu (nestOf w) x) (_ : (Lit.int .i64 i).wf = true) (_ : (Lit.int .i64 long).wf = true) : Calls Try.prog 3 #[lv, tv, .int .i64 i, .int .i64 long] w fun e w' => e = .returned (.bool true) ∧ Go.RowKit.Below w.heap.size w w' := by
  letI : Args := { toNest := nestOf w, A := lx, bA := (winAt lv (lx.map fun _ => 0)).1, dA := (winAt lv (lx.map fun _ => 0)).2, cA := capOf lv, hA := @RowsV.len (nestOf w) _ _ _ _ _ lh, B := tx, bB := (winAt tv (tx.map fun _ => 0)).1, dB := (winAt tv (tx.map fun _ => 0)).2, cB := capOf tv, hB := @RowsV.len (nestOf w) _ _ _ _ _ th, uB := tu }
  have ht : Ax.TabsOK w.heap.size w := by
    refine ⟨fun g l h => (nomatch (show (none : Option (List Value)) = some l from h)), fun j b d l hj hz w' hk i u hi => ?_⟩
    rcases Nat.lt_or_ge j 64 with hlt | hge
    · have hj : winL j = some (b, d, l) := by rw [← wins_low j hlt]; exact hj
      clear hlt
      match j with
      | 0 =>
        have hq := Option.some.inj (show some ((winAt lv (lx.map fun _ => 0)).1, (winAt lv (lx.map fun _ => 0)).2, rows rw_iLii lx) = some (b, d, l) from hj)
        obtain ⟨rfl, hq2⟩ := Prod.mk.inj hq
        obtain ⟨rfl, rfl⟩ := Prod.mk.inj hq2
        obtain ⟨u, h1, h2⟩ := lh.win w' hk i u hi
        exact ⟨u, h1, fun σ => h2.vr wins_nest wins_even σ⟩
      | 1 =>
        have hq := Option.some.inj (show some ((winAt tv (tx.map fun _ => 0)).1, (winAt tv (tx.map fun _ => 0)).2, rows rw_iiiiiiLu tx) = some (b, d, l) from hj)
        obtain ⟨rfl, hq2⟩ := Prod.mk.inj hq
        obtain ⟨rfl, rfl⟩ := Prod.mk.inj hq2
        obtain ⟨u, h1, h2⟩ := th.win w' hk i u hi
        exact ⟨u, h1, fun σ => h2.vr wins_nest wins_even σ⟩
      | (k + 2) => exact nomatch (show (none : Option (Nat × Nat × List Value)) = some (b, d, l) from hj)
    · have hj : (nestOf w).nest (j - 64) = some (b, d, l) := by
        have := wins_high j hge
        rw [hj] at this
        exact this.symm
      rw [nest_raw (wins_hz j hge hz)] at hj
      obtain ⟨u', h1, rfl, h2⟩ := nestOf_cells hj hk i u hi
      exact ⟨_, h1, fun σ => flat_vr h2 σ⟩
  obtain ⟨n, h⟩ := stylesOwn_true i long
  have hg := m_viewportlaw26StylesOwn_ok n i long () h
  have hl := law_ok (P := Try.prog) (f := 3) (args := A_viewportlaw26StylesOwn i long) (args' := [lv, tv, .int .i64 i, .int .i64 long]) (k := 0) (B := .nil) hg (w := w) (n0 := ⟨⟨w.heap.size, fun _ => False⟩, fun _ => False⟩) (σ := Ren.nil) (.cons (lh.vr (j := 0) rfl rfl _) (.cons (th.vr (j := 1) rfl rfl _) (.cons (.int .i64 i) (.cons (.int .i64 long) .nil)))) (hr_start w ht)
  exact hl.mono fun e w' ⟨h1, σ', h2⟩ => ⟨h1, h2.below⟩
end Go.Proofs.Ytejokkfeocohpaa.stylesOwn
