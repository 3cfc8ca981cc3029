/-
  viewportlaw01.ClassParts gives true whatever its arguments are, and leaves what was there. No condition.
-/
import Derived.Test.YtdjkjpmcmpihgaaDoorClpPure
import Derived.Test.YtdjkjpmcmpihgaaDoorNestArg
set_option linter.unusedSimpArgs false
set_option linter.unusedVariables false
set_option linter.unusedSectionVars false
set_option linter.unnecessarySimpa false
namespace Go.Proofs.YtdjkjpmcmpihgaaDoor.classParts
open Go Go.Proofs.YtdjkjpmcmpihgaaDoor Ax Go.Proofs.YtdjkjpmcmpihgaaDoor.clp01
theorem iv_fl {l : List Int} : ∀ {v : Value}, v ∈ iv l → flat v = true := fun h => by
  obtain ⟨z, _, rfl⟩ := List.mem_map.1 h
  rfl
theorem qv6_ (w : World) (lv : Value) (lx : List (Int × Int × Int × Int)) (ht1 : @Ax.TabsOK Go.Proofs.YtdjkjpmcmpihgaaDoor.classParts.tabs w.heap.size w) (lh : @RowsV (nestOf w) _ (@rw_uuuu (nestOf w)) w lv lx) (lu : ∀ x ∈ lx, @uq_uuuu (nestOf w) x) : Calls Tryd.prog 4 #[lv] w fun e w' => e = .returned (.bool true) ∧ Go.RowKit.Below w.heap.size w w' := by
  letI : Args := { toNest := nestOf w, A := lx, bA := (winAt lv (lx.map fun _ => 0)).1, dA := (winAt lv (lx.map fun _ => 0)).2, cA := capOf lv, hA := @RowsV.len (nestOf w) _ _ _ _ _ lh, uA := lu }
  have ht : Ax.TabsOK w.heap.size w := by
    refine ⟨fun g l h => ht1.1 g l h, fun j b d l hj hz w' hk i u hi => ?_⟩
    rcases Nat.lt_or_ge j 64 with hlt | hge
    · have hj : winL j = some (b, d, l) := by rw [← wins_low j hlt]; exact hj
      clear hlt
      match j with
      | 0 =>
        have hq := Option.some.inj (show some ((winAt lv (lx.map fun _ => 0)).1, (winAt lv (lx.map fun _ => 0)).2, rows rw_uuuu lx) = some (b, d, l) from hj)
        obtain ⟨rfl, hq2⟩ := Prod.mk.inj hq
        obtain ⟨rfl, rfl⟩ := Prod.mk.inj hq2
        obtain ⟨u, h1, h2⟩ := lh.win w' hk i u hi
        exact ⟨u, h1, fun σ => h2.vr wins_nest wins_even σ⟩
      | (k + 1) => exact nomatch (show (none : Option (Nat × Nat × List Value)) = some (b, d, l) from hj)
    · have hj : (nestOf w).nest (j - 64) = some (b, d, l) := by
        have := wins_high j hge
        rw [hj] at this
        exact this.symm
      rw [nest_raw (wins_hz j hge hz)] at hj
      obtain ⟨u', h1, rfl, h2⟩ := nestOf_cells hj hk i u hi
      exact ⟨_, h1, fun σ => qrf_ h2 σ⟩
  obtain ⟨n, h⟩ := qv5_ 
  have hg := qng_ n  true h
  have hl := law_ok (P := Tryd.prog) (f := 4) (args := qim_ ) (args' := [lv]) (k := 0) (B := .nil) hg (w := w) (n0 := ⟨⟨w.heap.size, fun _ => False⟩, fun _ => False⟩) (σ := Ren.nil) (.cons (lh.vr (j := 0) rfl rfl _) .nil) (hr_start w ht)
  exact hl.mono fun e w' ⟨h1, σ', h2⟩ => ⟨h1, h2.below⟩
end Go.Proofs.YtdjkjpmcmpihgaaDoor.classParts
