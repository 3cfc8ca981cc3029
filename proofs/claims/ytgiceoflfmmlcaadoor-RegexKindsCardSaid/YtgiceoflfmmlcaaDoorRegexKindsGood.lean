/-
  viewportlaw02.RegexKinds gives true whatever its arguments are, and leaves what was there. No condition.
-/
import Derived.Test.YtgiceoflfmmlcaaDoorRkxPure
import Derived.Test.YtgiceoflfmmlcaaDoorNestArg
set_option linter.unusedSimpArgs false
set_option linter.unusedVariables false
set_option linter.unusedSectionVars false
set_option linter.unnecessarySimpa false
namespace Go.Proofs.YtgiceoflfmmlcaaDoor.regexKinds
open Go Go.Proofs.YtgiceoflfmmlcaaDoor Ax Go.Proofs.YtgiceoflfmmlcaaDoor.rkx02
theorem iv_fl {l : List Int} : ∀ {v : Value}, v ∈ iv l → flat v = true := fun h => by
  obtain ⟨z, _, rfl⟩ := List.mem_map.1 h
  rfl
theorem qq6_ (w : World) (av : Value) (ax : List (Int × Int × Int × Int × Int × @NL (nestOf w))) (bv : Value) (bx : List (Int × Int × Int × Int × Int × @NL (nestOf w))) (s : ByteArray) (ht1 : @Ax.TabsOK Go.Proofs.YtgiceoflfmmlcaaDoor.regexKinds.tabs w.heap.size w) (ah : @RowsV (nestOf w) _ (@rw_iuuuuL (nestOf w)) w av ax) (bh : @RowsV (nestOf w) _ (@rw_iuuuuL (nestOf w)) w bv bx) (_ : s.size ≤ maxLen) : Calls Tryd.prog 3 #[av, bv, .string s] w fun e w' => e = .returned (.bool true) ∧ Go.RowKit.Below w.heap.size w w' := by
  letI : Args := { toNest := nestOf w, A := ax, bA := (winAt av (ax.map fun _ => 0)).1, dA := (winAt av (ax.map fun _ => 0)).2, cA := capOf av, hA := @RowsV.len (nestOf w) _ _ _ _ _ ah, B := bx, bB := (winAt bv (bx.map fun _ => 0)).1, dB := (winAt bv (bx.map fun _ => 0)).2, cB := capOf bv, hB := @RowsV.len (nestOf w) _ _ _ _ _ bh }
  have ht : Ax.TabsOK w.heap.size w := by
    refine ⟨fun g l h => ht1.1 g l h, fun j b d l hj hz w' hk i u hi => ?_⟩
    rcases Nat.lt_or_ge j 64 with hlt | hge
    · have hj : winL j = some (b, d, l) := by rw [← wins_low j hlt]; exact hj
      clear hlt
      match j with
      | 0 =>
        have hq := Option.some.inj (show some ((winAt av (ax.map fun _ => 0)).1, (winAt av (ax.map fun _ => 0)).2, rows rw_iuuuuL ax) = some (b, d, l) from hj)
        obtain ⟨rfl, hq2⟩ := Prod.mk.inj hq
        obtain ⟨rfl, rfl⟩ := Prod.mk.inj hq2
        obtain ⟨u, h1, h2⟩ := ah.win w' hk i u hi
        exact ⟨u, h1, fun σ => h2.vr qcs_ wins_even σ⟩
      | 1 =>
        have hq := Option.some.inj (show some ((winAt bv (bx.map fun _ => 0)).1, (winAt bv (bx.map fun _ => 0)).2, rows rw_iuuuuL bx) = some (b, d, l) from hj)
        obtain ⟨rfl, hq2⟩ := Prod.mk.inj hq
        obtain ⟨rfl, rfl⟩ := Prod.mk.inj hq2
        obtain ⟨u, h1, h2⟩ := bh.win w' hk i u hi
        exact ⟨u, h1, fun σ => h2.vr qcs_ wins_even σ⟩
      | (k + 2) => exact nomatch (show (none : Option (Nat × Nat × List Value)) = some (b, d, l) from hj)
    · have hj : (nestOf w).nest (j - 64) = some (b, d, l) := by
        have := wins_high j hge
        rw [hj] at this
        exact this.symm
      rw [nest_raw (wins_hz j hge hz)] at hj
      obtain ⟨u', h1, rfl, h2⟩ := nestOf_cells hj hk i u hi
      exact ⟨_, h1, fun σ => qku_ h2 σ⟩
  obtain ⟨n, h⟩ := qq5_ s
  have hg := qh8_ n s () h
  have hl := law_ok (P := Tryd.prog) (f := 3) (args := qga_ s) (args' := [av, bv, .string s]) (k := 0) (B := .nil) hg (w := w) (n0 := ⟨⟨w.heap.size, fun _ => False⟩, fun _ => False⟩) (σ := Ren.nil) (.cons (ah.vr (j := 0) rfl rfl _) (.cons (bh.vr (j := 1) rfl rfl _) (.cons (.string s) .nil))) (hr_start w ht)
  exact hl.mono fun e w' ⟨h1, σ', h2⟩ => ⟨h1, h2.below⟩
end Go.Proofs.YtgiceoflfmmlcaaDoor.regexKinds
