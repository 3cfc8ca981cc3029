/-
  viewportlaw03.NfaSets gives true whatever its arguments are, and leaves what was there. No condition.
-/
import Derived.Test.YtkdeabcaijfdfaaNssPure
import Derived.Test.YtkdeabcaijfdfaaNestArg
set_option linter.unusedSimpArgs false
set_option linter.unusedVariables false
set_option linter.unusedSectionVars false
set_option linter.unnecessarySimpa false
namespace Go.Proofs.Ytkdeabcaijfdfaa.nfaSets
open Go Go.Proofs.Ytkdeabcaijfdfaa Ax Go.Proofs.Ytkdeabcaijfdfaa.nss03
theorem iv_fl {l : List Int} : ∀ {v : Value}, v ∈ iv l → flat v = true := fun h => by
  obtain ⟨z, _, rfl⟩ := List.mem_map.1 h
  rfl
theorem walk_NfaSets (w : World) (nv0 : Value) (nx0 : List (Int × Int × Int × Int)) (nv1 : Value) (nx1 : List (@NL (nestOf w))) (nv2 : Value) (nx2 : List Int) (av : Value) (ax : List Int) (dv : Value) (dx : List Int) (c : Int) (nh0 : @RowsV (nestOf w) _ (@rw_uuuu (nestOf w)) w nv0 nx0) (nh1 : @RowsV (nestOf w) _ (@rw_L (nestOf w)) w nv1 nx1) (nh2 : IntsV w nv2 nx2) (nb2 : nx2.length ≤ 140737488355328) (ah : IntsV w av ax) (ab : ax.length ≤ 140737488355328) (dh : IntsV w dv dx) (db : dx.length ≤ 140737488355328) (wf8 : (Lit.int .u8 c).wf = true) : Calls Try.prog 3 #[.agg #[nv0, nv1, nv2], av, dv, .int .u8 c] w fun e w' => e = .returned (.bool true) ∧ Go.RowKit.Below w.heap.size w w' := by
  obtain ⟨ny2, -, nc2⟩ := CR.ints nh2 nb2
  obtain ⟨ay, -, ac⟩ := CR.ints ah ab
  obtain ⟨dy, -, dc⟩ := CR.ints dh db
  letI : Args := { toNest := nestOf w, A := nx0, bA := (winAt nv0 (nx0.map fun _ => 0)).1, dA := (winAt nv0 (nx0.map fun _ => 0)).2, cA := capOf nv0, hA := @RowsV.len (nestOf w) _ _ _ _ _ nh0, B := nx1, bB := (winAt nv1 (nx1.map fun _ => 0)).1, dB := (winAt nv1 (nx1.map fun _ => 0)).2, cB := capOf nv1, hB := @RowsV.len (nestOf w) _ _ _ _ _ nh1 }
  have ht : Ax.TabsOK w.heap.size w := by
    refine ⟨fun g l h => (nomatch (show (none : Option (List Value)) = some l from h)), fun j b d l hj hz w' hk i u hi => ?_⟩
    rcases Nat.lt_or_ge j 64 with hlt | hge
    · have hj : winL j = some (b, d, l) := by rw [← wins_low j hlt]; exact hj
      clear hlt
      match j with
      | 0 =>
        have hq := Option.some.inj (show some ((winAt nv0 (nx0.map fun _ => 0)).1, (winAt nv0 (nx0.map fun _ => 0)).2, rows rw_uuuu nx0) = some (b, d, l) from hj)
        obtain ⟨rfl, hq2⟩ := Prod.mk.inj hq
        obtain ⟨rfl, rfl⟩ := Prod.mk.inj hq2
        obtain ⟨u, h1, h2⟩ := nh0.win w' hk i u hi
        exact ⟨u, h1, fun σ => h2.vr wins_nest wins_even σ⟩
      | 1 =>
        have hq := Option.some.inj (show some ((winAt nv1 (nx1.map fun _ => 0)).1, (winAt nv1 (nx1.map fun _ => 0)).2, rows rw_L nx1) = some (b, d, l) from hj)
        obtain ⟨rfl, hq2⟩ := Prod.mk.inj hq
        obtain ⟨rfl, rfl⟩ := Prod.mk.inj hq2
        obtain ⟨u, h1, h2⟩ := nh1.win w' hk i u hi
        exact ⟨u, h1, fun σ => h2.vr wins_nest wins_even σ⟩
      | (k + 2) => exact nomatch (show (none : Option (Nat × Nat × List Value)) = some (b, d, l) from hj)
    · have hj : (nestOf w).nest (j - 64) = some (b, d, l) := by
        have := wins_high j hge
        rw [hj] at this
        exact this.symm
      rw [nest_raw (wins_hz j hge hz)] at hj
      obtain ⟨u', h1, rfl, h2⟩ := nestOf_cells hj hk i u hi
      exact ⟨_, h1, fun σ => flat_vr h2 σ⟩
  obtain ⟨n, h⟩ := nfaSets_true ny2 ay dy c wf8
  have hg := m_viewportlaw03NfaSets_ok n ny2 ay dy c () h
  have hl := law_ok (P := Try.prog) (f := 3) (args := A_viewportlaw03NfaSets ny2 ay dy c) (args' := [.agg #[nv0, nv1, nv2], av, dv, .int .u8 c]) (k := 0) (B := .nil) hg (w := w) (n0 := ⟨⟨w.heap.size, fun _ => False⟩, fun _ => False⟩) (σ := Ren.nil) (.cons (VRs.agg (.cons (nh0.vr (j := 0) rfl rfl _) (.cons (nh1.vr (j := 1) rfl rfl _) (.cons (nc2.vr wins_nest wins_even _) .nil)))) (.cons (ac.vr wins_nest wins_even _) (.cons (dc.vr wins_nest wins_even _) (.cons (.int .u8 c) .nil)))) (hr_start w ht)
  exact hl.mono fun e w' ⟨h1, σ', h2⟩ => ⟨h1, h2.below⟩
end Go.Proofs.Ytkdeabcaijfdfaa.nfaSets
