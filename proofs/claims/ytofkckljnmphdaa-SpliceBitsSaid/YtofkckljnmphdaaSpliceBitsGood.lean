/-
  viewportlaw20.SpliceBits gives true whatever its arguments are, and leaves what was there. No condition.
-/
import Derived.Test.YtofkckljnmphdaaSpbQPure
import Derived.Test.YtofkckljnmphdaaNestArg
set_option linter.unusedSimpArgs false
set_option linter.unusedVariables false
set_option linter.unusedSectionVars false
set_option linter.unnecessarySimpa false
namespace Go.Proofs.Ytofkckljnmphdaa.spliceBits
open Go Go.Proofs.Ytofkckljnmphdaa Ax Go.Proofs.Ytofkckljnmphdaa.spb20
theorem iv_fl {l : List Int} : ∀ {v : Value}, v ∈ iv l → flat v = true := fun h => by
  obtain ⟨z, _, rfl⟩ := List.mem_map.1 h
  rfl
theorem qol_ (w : World) (poolv : Value) (poolx : List (Int × Int × Int × Int × Int × Int × @NL (nestOf w) × Int)) (i : Int) (jobsv : Value) (jobsx : List (Int × Int × Int × Int × Int)) (poolh : @RowsV (nestOf w) _ (@rw_iiiiiiLu (nestOf w)) w poolv poolx) (poolu : ∀ x ∈ poolx, @uq_iiiiiiLu (nestOf w) x) (_ : (Lit.int .i64 i).wf = true) (jobsh : @RowsV (nestOf w) _ (@rw_iiiii (nestOf w)) w jobsv jobsx) : Calls Try.prog 4 #[poolv, .int .i64 i, jobsv] w fun e w' => e = .returned (.bool true) ∧ Go.RowKit.Below w.heap.size w w' := by
  letI : Args := { toNest := nestOf w, A := poolx, bA := (winAt poolv (poolx.map fun _ => 0)).1, dA := (winAt poolv (poolx.map fun _ => 0)).2, cA := capOf poolv, hA := @RowsV.len (nestOf w) _ _ _ _ _ poolh, uA := poolu, B := jobsx, bB := (winAt jobsv (jobsx.map fun _ => 0)).1, dB := (winAt jobsv (jobsx.map fun _ => 0)).2, cB := capOf jobsv, hB := @RowsV.len (nestOf w) _ _ _ _ _ jobsh }
  have ht : Ax.TabsOK w.heap.size w := by
    refine ⟨fun g l h => (nomatch (show (none : Option (List Value)) = some l from h)), fun j b d l hj hz w' hk i u hi => ?_⟩
    rcases Nat.lt_or_ge j 64 with hlt | hge
    · have hj : winL j = some (b, d, l) := by rw [← wins_low j hlt]; exact hj
      clear hlt
      match j with
      | 0 =>
        have hq := Option.some.inj (show some ((winAt poolv (poolx.map fun _ => 0)).1, (winAt poolv (poolx.map fun _ => 0)).2, rows rw_iiiiiiLu poolx) = some (b, d, l) from hj)
        obtain ⟨rfl, hq2⟩ := Prod.mk.inj hq
        obtain ⟨rfl, rfl⟩ := Prod.mk.inj hq2
        obtain ⟨u, h1, h2⟩ := poolh.win w' hk i u hi
        exact ⟨u, h1, fun σ => h2.vr qbs_ wins_even σ⟩
      | 1 =>
        have hq := Option.some.inj (show some ((winAt jobsv (jobsx.map fun _ => 0)).1, (winAt jobsv (jobsx.map fun _ => 0)).2, rows rw_iiiii jobsx) = some (b, d, l) from hj)
        obtain ⟨rfl, hq2⟩ := Prod.mk.inj hq
        obtain ⟨rfl, rfl⟩ := Prod.mk.inj hq2
        obtain ⟨u, h1, h2⟩ := jobsh.win w' hk i u hi
        exact ⟨u, h1, fun σ => h2.vr qbs_ wins_even σ⟩
      | (k + 2) => exact nomatch (show (none : Option (Nat × Nat × List Value)) = some (b, d, l) from hj)
    · have hj : (nestOf w).nest (j - 64) = some (b, d, l) := by
        have := wins_high j hge
        rw [hj] at this
        exact this.symm
      rw [nest_raw (wins_hz j hge hz)] at hj
      obtain ⟨u', h1, rfl, h2⟩ := nestOf_cells hj hk i u hi
      exact ⟨_, h1, fun σ => flat_vr h2 σ⟩
  obtain ⟨n, h⟩ := qok_ i
  have hg := qjg_ n i () h
  have hl := law_ok (P := Try.prog) (f := 4) (args := qea_ i) (args' := [poolv, .int .i64 i, jobsv]) (k := 0) (B := .nil) hg (w := w) (n0 := ⟨⟨w.heap.size, fun _ => False⟩, fun _ => False⟩) (σ := Ren.nil) (.cons (poolh.vr (j := 0) rfl rfl _) (.cons (.int .i64 i) (.cons (jobsh.vr (j := 1) rfl rfl _) .nil))) (hr_start w ht)
  exact hl.mono fun e w' ⟨h1, σ', h2⟩ => ⟨h1, h2.below⟩
end Go.Proofs.Ytofkckljnmphdaa.spliceBits
