/-
  viewport/viewportlaw02.RegexKinds: whatever comes in, it returns true, and each argument reads as it read before: where the listed tables lie as the program's text lays them; and that they lie so.
-/
import Derived.Test.YtgiceoflfmmlcaaDoorRows
import Derived.Test.YtgiceoflfmmlcaaDoorCards
import Derived.Test.YtgiceoflfmmlcaaDoorTie
import Derived.Test.YtgiceoflfmmlcaaDoorRegexKindsGood
import Derived.Test.YtgiceoflfmmlcaaDoorTabsOkRegexKinds
import Derived.WalkKit
import Derived.ProofKit
import Derived.OpenShut
import Derived.ShutString
import Derived.ChangeOld
import Derived.Below
import Derived.LaidMore
import Derived.SevenTiedAt
import Derived.Stop.Joined
import Derived.Lib.SmallJoins
set_option linter.unusedSimpArgs false
set_option linter.unusedVariables false
namespace Go.Proofs.YtgiceoflfmmlcaaDoor.regexKinds
open Go.ChangeShapes Go.WideShapes Go.ChangeAt Go.RowKit Go.Joins
open Go.ChangeMaps (open_string shut_string)

theorem own : ownKnob Tryd.prog.godebug = none := by kernel_rfl
theorem laidOut : laidOutB Tryd.prog = true := by kernel_rfl

theorem door_met (os : Os) (args : Array Value) : laidMetH Tryd.prog Rows.regexKindsRow.laid ((World.doorLaid Tryd.prog 400 os).forCall (fun _ _ => 0) ⟨#[], args, []⟩).memory :=
  laidMetH_of_parts3 (fuel := 8) (laidMet_of_run' 8 (by kernel_rfl) (by kernel_rfl)) (by kernel_rfl) (by kernel_rfl)

set_option maxRecDepth 100000 in
theorem lifted (os : Os) (started : os.Started) (H : Type) (enc : TypeId × Value → H) :
    ReturnsInHanded {} Tryd.checked os 3 .any (fun w args => (Rows.regexKindsSpec.pre enc Tryd.prog Tryd.f3 [] false w args ∧ laidMetH Tryd.prog Rows.regexKindsRow.laid w) ∧ sizedMet enc Tryd.prog Tryd.f3 (OpenSpec.ofChange Rows.regexKindsSpec) false w args)
      (Rows.regexKindsSpec.post enc Tryd.prog Tryd.f3 false true false false) := by
  refine returnsInHanded_of_change_and (C := Tryd.checked) (X := fun w _ => laidMetH Tryd.prog Rows.regexKindsRow.laid w) (fun _ _ _ hh h => h.of_heap hh) own started (by kernel_rfl) Tryd.func3
    (ChangeSpec.witness_shaped (enc := enc) (C := Tryd.checked) (os := os) (X := fun w _ => laidMetH Tryd.prog Rows.regexKindsRow.laid w) false (World.doorLaid Tryd.prog 400 os) #[.slice none 0 0, .slice none 0 0, .string .empty] 8 rfl (World.shaped_of_RefB (by kernel_rfl) (by kernel_rfl)) (by kernel_rfl) (by kernel_rfl) (by kernel_rfl) (door_met os _)) ?_
  intro W base args ds gs before hval0 hW _ hsz hL _
  have hW' := hW
  obtain ⟨p, q, hA0, hV, rfl, hfz, hnd⟩ := hW
  have hA : DataW.TrodAll enc Tryd.prog W 0 (fun _ => true) true Tryd.f3.params.toList args.toList ds p := hA0
  have hval : ∀ (j : Nat) t v, Tryd.f3.params[j]? = some t → args[j]? = some v → Value.okWide Tryd.prog W .any base t v := hval0
  rw [Tryd.params3] at hA hval
  obtain ⟨v0, vs0, d0, ds0, p0, q0, hargs, rfl, rfl, h0, r0⟩ := trodAll_cons hA
  obtain ⟨v1, vs1, d1, ds1, p1, q1, rfl, rfl, rfl, h1, r1⟩ := trodAll_cons r0
  obtain ⟨v2, vs2, d2, ds2, p2, q2, rfl, rfl, rfl, h2, r2⟩ := trodAll_cons r1
  obtain ⟨rfl, rfl, rfl⟩ := trodAll_nil r2
  obtain rfl : args = #[v0, v1, v2] := by cases args; simp_all
  obtain ⟨rfl, rfl⟩ := trodVars_none hV
  have k0 := h0
  have lt0 : ∀ x ∈ p0, x.block < W.heap.size := by obtain ⟨m, hm⟩ := k0; exact DataW.trod_lt m _ _ _ hm
  obtain ⟨sa0, sl0, sc0, rfl⟩ := Go.WideShapes.okWide_slice Tryd.underlying23 (hval 0 23 v0 rfl rfl)
  obtain ⟨sf0, hs0⟩ := h0
  obtain ⟨ax, w0⟩ := @Ax.openRowsN _ _ _ _ _ (Ax.nestOf W) _ _ (@Go.Proofs.YtgiceoflfmmlcaaDoor.rkx02.rw_iuuuuL (Ax.nestOf W)) _ (@Go.Proofs.YtgiceoflfmmlcaaDoor.rkx02.rwf_iuuuuL (Ax.nestOf W)) Go.Proofs.YtgiceoflfmmlcaaDoor.rkx02.ks_iuuuuL Go.Proofs.YtgiceoflfmmlcaaDoor.rkx02.dec_ok_iuuuuL _ _ _ 9 _ _ (by decide) Tryd.underlying23 (by kernel_rfl) (by kernel_rfl) hs0 (Ax.wt_of hsz (j := 0) rfl rfl)
  have k1 := h1
  have lt1 : ∀ x ∈ p1, x.block < W.heap.size := by obtain ⟨m, hm⟩ := k1; exact DataW.trod_lt m _ _ _ hm
  obtain ⟨sa1, sl1, sc1, rfl⟩ := Go.WideShapes.okWide_slice Tryd.underlying23 (hval 1 23 v1 rfl rfl)
  obtain ⟨sf1, hs1⟩ := h1
  obtain ⟨bx, w1⟩ := @Ax.openRowsN _ _ _ _ _ (Ax.nestOf W) _ _ (@Go.Proofs.YtgiceoflfmmlcaaDoor.rkx02.rw_iuuuuL (Ax.nestOf W)) _ (@Go.Proofs.YtgiceoflfmmlcaaDoor.rkx02.rwf_iuuuuL (Ax.nestOf W)) Go.Proofs.YtgiceoflfmmlcaaDoor.rkx02.ks_iuuuuL Go.Proofs.YtgiceoflfmmlcaaDoor.rkx02.dec_ok_iuuuuL _ _ _ 9 _ _ (by decide) Tryd.underlying23 (by kernel_rfl) (by kernel_rfl) hs1 (Ax.wt_of hsz (j := 1) rfl rfl)
  have k2 := h2
  have lt2 : ∀ x ∈ p2, x.block < W.heap.size := by obtain ⟨m, hm⟩ := k2; exact DataW.trod_lt m _ _ _ hm
  obtain ⟨s, rfl, rfl, rfl, w2⟩ := open_string Tryd.underlying9 (hval 2 9 v2 rfl rfl) h2
  clear hA0 hval0
  refine (qq6_ W (.slice sa0 sl0 sc0) ax (.slice sa1 sl1 sc1) bx s (tabs_ok hL) w0 w1 w2).mono fun e W' ⟨he, bel⟩ => ?_
  subst he
  exact ⟨_, rfl, _, _, _, [], _, [], hW', trodAll_mk1 (shut_bool Tryd.underlying4 _), (trodAll_cons_mk (Below.trod laidOut (by kernel_rfl) (of_decide_eq_true (by kernel_rfl)) k0 bel lt0) (trodAll_cons_mk (Below.trod laidOut (by kernel_rfl) (of_decide_eq_true (by kernel_rfl)) k1 bel lt1) (trodAll_cons_mk (Below.trod laidOut (by kernel_rfl) (of_decide_eq_true (by kernel_rfl)) k2 bel lt2) trodAll_mk0))), rfl, bel.frame _, fun h => by cases h⟩

theorem holds : Rows.RegexKindsSaid :=
  OpenClaim.holds_of_wide 3 Tryd.f3 rfl rfl rfl rfl rfl rfl rfl ⟨rfl, rfl, rfl, rfl, rfl⟩ rfl rfl rfl rfl rfl (by kernel_rfl) Tryd.func3 (by kernel_rfl)
    (of_decide_eq_true (by kernel_rfl)) (by unfold Func.isWrapper; first | (rw [if_pos (by decide +kernel)]; kernel_rfl) | (rw [if_neg (by decide +kernel)]; exact ⟨rfl, rfl⟩))
    (fun os started H enc _ => lifted os started H enc)
theorem ws23 : Tryd.prog.wantsStandIn 23 = false := by kernel_rfl
theorem ws9 : Tryd.prog.wantsStandIn 9 = false := by kernel_rfl
theorem proved : Rows.RegexKindsCardSaid :=
  Claim7.holds_tied_plain_at .later [] [.data] true (true, "de2f4c43189b8aafb4bf9205ac795582e1b62486b01f10efdf6d6cb8c5224538") false
    holds (fun _ h => by cases h) (by kernel_rfl) (fun _ h => by cases h) regexKinds_row_tie rfl ⟨rfl, rfl⟩ (by kernel_rfl) rfl
    (fun f fn hf hfn => by
      obtain rfl : f = 3 := Option.some.inj ((show Tryd.prog.funcNamed "viewport/viewportlaw02.RegexKinds" = some 3 by kernel_rfl).symm.trans hf) |>.symm
      obtain rfl : fn = Tryd.f3 := (Option.some.inj (Tryd.func3.symm.trans hfn)).symm
      exact ⟨by kernel_rfl, fun j t ht => by
        rw [Tryd.params3] at ht
        match j, ht with
        | 0, ht => obtain rfl := Option.some.inj ht; exact ws23
        | 1, ht => obtain rfl := Option.some.inj ht; exact ws23
        | 2, ht => obtain rfl := Option.some.inj ht; exact ws9
        | n + 3, ht => simp at ht⟩)
    (by kernel_rfl)
#print axioms proved
end Go.Proofs.YtgiceoflfmmlcaaDoor.regexKinds
