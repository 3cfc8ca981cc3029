/-
  viewportlaw26.StylesCalls gives true whatever its arguments are, and leaves what was there. No condition.
-/
import Derived.Test.YtlfcfopohlhlfaaScaQPure
import Derived.Test.YtlfcfopohlhlfaaNestArg
set_option linter.unusedSimpArgs false
set_option linter.unusedVariables false
set_option linter.unusedSectionVars false
set_option linter.unnecessarySimpa false
namespace Go.Proofs.Ytlfcfopohlhlfaa.stylesCalls
open Go Go.Proofs.Ytlfcfopohlhlfaa Ax Go.Proofs.Ytlfcfopohlhlfaa.sca26
theorem iv_fl {l : List Int} : ∀ {v : Value}, v ∈ iv l → flat v = true := fun h => by
  obtain ⟨z, _, rfl⟩ := List.mem_map.1 h
  rfl
theorem quh_ (w : World) (lv : Value) (lx : List (Int × @NL (nestOf w) × Int × Int)) (g0 : Int) (g1 : Int) (g2 : Int) (gv3 : Value) (gx3 : List (Int × @NL (nestOf w))) (kind : Int) (wayv : Value) (wayx : List Int) (tv : Value) (tx : List (Int × Int × Int × Int × Int × Int × @NL (nestOf w) × Int)) (i : Int) (lh : @RowsV (nestOf w) _ (@rw_iLii (nestOf w)) w lv lx) (_ : (Lit.int .i64 g0).wf = true) (_ : (Lit.int .i64 g1).wf = true) (_ : (Lit.int .i64 g2).wf = true) (gh3 : @RowsV (nestOf w) _ (@rw_iL (nestOf w)) w gv3 gx3) (_ : (Lit.int .i64 kind).wf = true) (wayh : IntsV w wayv wayx) (wayb : wayx.length ≤ 140737488355328) (th : @RowsV (nestOf w) _ (@rw_iiiiiiLu (nestOf w)) w tv tx) (_ : (Lit.int .i64 i).wf = true) : Calls Try.prog 3 #[lv, .agg #[.int .i64 g0, .int .i64 g1, .int .i64 g2, gv3], .int .i64 kind, wayv, tv, .int .i64 i] w fun e w' => e = .returned (.bool true) ∧ Go.RowKit.Below w.heap.size w w' := by
  obtain ⟨wayy, -, wayc⟩ := CR.ints wayh wayb
  letI : Args := { toNest := nestOf w, A := lx, bA := (winAt lv (lx.map fun _ => 0)).1, dA := (winAt lv (lx.map fun _ => 0)).2, cA := capOf lv, hA := @RowsV.len (nestOf w) _ _ _ _ _ lh, B := gx3, bB := (winAt gv3 (gx3.map fun _ => 0)).1, dB := (winAt gv3 (gx3.map fun _ => 0)).2, cB := capOf gv3, hB := @RowsV.len (nestOf w) _ _ _ _ _ gh3, C := tx, bC := (winAt tv (tx.map fun _ => 0)).1, dC := (winAt tv (tx.map fun _ => 0)).2, cC := capOf tv, hC := @RowsV.len (nestOf w) _ _ _ _ _ th }
  have ht : Ax.TabsOK w.heap.size w := by
    refine ⟨fun g l h => (nomatch (show (none : Option (List Value)) = some l from h)), fun j b d l hj hz w' hk i u hi => ?_⟩
    rcases Nat.lt_or_ge j 64 with hlt | hge
    · have hj : winL j = some (b, d, l) := by rw [← wins_low j hlt]; exact hj
      clear hlt
      match j with
      | 0 =>
        have hq := Option.some.inj (show some ((winAt lv (lx.map fun _ => 0)).1, (winAt lv (lx.map fun _ => 0)).2, rows rw_iLii lx) = some (b, d, l) from hj)
        obtain ⟨rfl, hq2⟩ := Prod.mk.inj hq
        obtain ⟨rfl, rfl⟩ := Prod.mk.inj hq2
        obtain ⟨u, h1, h2⟩ := lh.win w' hk i u hi
        exact ⟨u, h1, fun σ => h2.vr qiw_ qst_ σ⟩
      | 1 =>
        have hq := Option.some.inj (show some ((winAt gv3 (gx3.map fun _ => 0)).1, (winAt gv3 (gx3.map fun _ => 0)).2, rows rw_iL gx3) = some (b, d, l) from hj)
        obtain ⟨rfl, hq2⟩ := Prod.mk.inj hq
        obtain ⟨rfl, rfl⟩ := Prod.mk.inj hq2
        obtain ⟨u, h1, h2⟩ := gh3.win w' hk i u hi
        exact ⟨u, h1, fun σ => h2.vr qiw_ qst_ σ⟩
      | 2 =>
        have hq := Option.some.inj (show some ((winAt tv (tx.map fun _ => 0)).1, (winAt tv (tx.map fun _ => 0)).2, rows rw_iiiiiiLu tx) = some (b, d, l) from hj)
        obtain ⟨rfl, hq2⟩ := Prod.mk.inj hq
        obtain ⟨rfl, rfl⟩ := Prod.mk.inj hq2
        obtain ⟨u, h1, h2⟩ := th.win w' hk i u hi
        exact ⟨u, h1, fun σ => h2.vr qiw_ qst_ σ⟩
      | (k + 3) => exact nomatch (show (none : Option (Nat × Nat × List Value)) = some (b, d, l) from hj)
    · have hj : (nestOf w).nest (j - 64) = some (b, d, l) := by
        have := wins_high j hge
        rw [hj] at this
        exact this.symm
      rw [nest_raw (wins_hz j hge hz)] at hj
      obtain ⟨u', h1, rfl, h2⟩ := nestOf_cells hj hk i u hi
      exact ⟨_, h1, fun σ => qqd_ h2 σ⟩
  obtain ⟨n, h⟩ := qug_ g0 g1 g2 kind wayy i
  have hg := qkk_ n g0 g1 g2 kind wayy i () h
  have hl := law_ok (P := Try.prog) (f := 3) (args := qhe_ g0 g1 g2 kind wayy i) (args' := [lv, .agg #[.int .i64 g0, .int .i64 g1, .int .i64 g2, gv3], .int .i64 kind, wayv, tv, .int .i64 i]) (k := 0) (B := .nil) hg (w := w) (n0 := ⟨⟨w.heap.size, fun _ => False⟩, fun _ => False⟩) (σ := Ren.nil) (.cons (lh.vr (j := 0) rfl rfl _) (.cons (VRs.agg (.cons (.int .i64 g0) (.cons (.int .i64 g1) (.cons (.int .i64 g2) (.cons (gh3.vr (j := 1) rfl rfl _) .nil))))) (.cons (.int .i64 kind) (.cons (wayc.vr qiw_ qst_ _) (.cons (th.vr (j := 2) rfl rfl _) (.cons (.int .i64 i) .nil)))))) (hr_start w ht)
  exact hl.mono fun e w' ⟨h1, σ', h2⟩ => ⟨h1, h2.below⟩
end Go.Proofs.Ytlfcfopohlhlfaa.stylesCalls
