/-
  viewportlaw25.TargetUp: whatever comes in, it returns true, and each argument reads as it read before. No condition.
-/
import Derived.Test.YtkmebhpbfgffbaaGreatRows
import Derived.Test.YtkmebhpbfgffbaaGreatTargetUpGood
import Derived.WalkKit
import Derived.ProofKit
import Derived.OpenShut
import Derived.ShutString
import Derived.ChangeOld
import Derived.Below
import Derived.Lib.SmallJoins
set_option linter.unusedSimpArgs false
set_option linter.unusedVariables false
namespace Go.Proofs.YtkmebhpbfgffbaaGreat.targetUp
open Go.ChangeShapes Go.WideShapes Go.ChangeAt Go.RowKit Go.Joins
open Go.ChangeMaps (open_string shut_string)

theorem own : ownKnob Tryz.prog.godebug = none := by kernel_rfl
theorem laidOut : laidOutB Tryz.prog = true := by kernel_rfl

set_option maxRecDepth 100000 in
theorem lifted (os : Os) (started : os.Started) (H : Type) (enc : TypeId × Value → H) :
    ReturnsInHanded {} Tryz.checked os 4 .any (Rows.targetUpSpec.pre6 enc Tryz.prog Tryz.f4 Rows.targetUpRow.domain false) (Rows.targetUpSpec.post enc Tryz.prog Tryz.f4 false true false false) := by
  refine returnsInHanded_of_change (C := Tryz.checked) own started (by kernel_rfl) Tryz.func4
    (ChangeSpec.witness6 (enc := enc) (C := Tryz.checked) false ⟨#[], #[.slice none 0 0, .agg #[.int .i64 0, .int .i64 0, .int .i64 0, .int .i64 0, .int .i64 0]], []⟩ 8 (by kernel_rfl) (by kernel_rfl) (by kernel_rfl) (by kernel_rfl)) ?_
  intro W base args ds gs before hval0 hW hcnd _
  have hval : ∀ (j : Nat) t v, Tryz.f4.params[j]? = some t → args[j]? = some v → Value.okWide Tryz.prog W .any base t v := hval0
  have hW' := hW
  obtain ⟨p, q, hA0, hV, rfl, hfz, hnd⟩ := hW
  have hA : DataW.TrodAll enc Tryz.prog W 0 (fun _ => true) true Tryz.f4.params.toList args.toList ds p := hA0
  rw [Tryz.params4] at hA hval
  obtain ⟨v0, vs0, d0, ds0, p0, q0, hargs, rfl, rfl, h0, r0⟩ := trodAll_cons hA
  obtain ⟨v1, vs1, d1, ds1, p1, q1, rfl, rfl, rfl, h1, r1⟩ := trodAll_cons r0
  obtain ⟨rfl, rfl, rfl⟩ := trodAll_nil r1
  obtain rfl : args = #[v0, v1] := by cases args; simp_all
  obtain ⟨rfl, rfl⟩ := trodVars_none hV
  have k0 := h0
  have lt0 : ∀ x ∈ p0, x.block < W.heap.size := by obtain ⟨m, hm⟩ := k0; exact DataW.trod_lt m _ _ _ hm
  obtain ⟨sa0, sl0, sc0, rfl⟩ := Go.WideShapes.okWide_slice Tryz.underlying22 (hval 0 22 v0 rfl rfl)
  obtain ⟨sf0, hs0⟩ := h0
  obtain ⟨lx, w0⟩ := @Ax.openRowsN _ _ _ _ _ (Ax.nestOf W) _ _ (@Go.Proofs.YtkmebhpbfgffbaaGreat.tguw.rw_iiiiiiLu (Ax.nestOf W)) _ (@Go.Proofs.YtkmebhpbfgffbaaGreat.tguw.rwf_iiiiiiLu (Ax.nestOf W)) Go.Proofs.YtkmebhpbfgffbaaGreat.tguw.ks_iiiiiiLu Go.Proofs.YtkmebhpbfgffbaaGreat.tguw.dec_ok_iiiiiiLu _ _ _ 9 _ _ (by decide) Tryz.underlying22 (by kernel_rfl) (by kernel_rfl) hs0
  have k1 := h1
  have lt1 : ∀ x ∈ p1, x.block < W.heap.size := by obtain ⟨m, hm⟩ := k1; exact DataW.trod_lt m _ _ _ hm
  obtain ⟨⟨ca1⟩, rfl, -⟩ := Go.WideShapes.okWide_struct Tryz.underlying26 (hval 1 26 v1 rfl rfl)
  obtain ⟨sf1, hs1⟩ := h1
  have hl1 : Ax.okL W [.i, .i, .i, .i, .i] ca1 := Ax.fits_trod 9 26 _ (by kernel_rfl) _ _ _ hs1
  cases hl1 with
  | cons hh0 hl1 =>
  obtain ⟨j0, rfl⟩ := hh0
  cases hl1 with
  | cons hh1 hl1 =>
  obtain ⟨j1, rfl⟩ := hh1
  cases hl1 with
  | cons hh2 hl1 =>
  obtain ⟨j2, rfl⟩ := hh2
  cases hl1 with
  | cons hh3 hl1 =>
  obtain ⟨j3, rfl⟩ := hh3
  cases hl1 with
  | cons hh4 hl1 =>
  obtain ⟨j4, rfl⟩ := hh4
  cases hl1
  clear hA0 hval0
  refine (walk_TargetUp W (.slice sa0 sl0 sc0) lx j0 j1 j2 j3 j4 w0).mono fun e W' ⟨he, bel⟩ => ?_
  subst he
  exact ⟨_, rfl, _, _, _, [], _, [], hW', trodAll_mk1 (shut_bool Tryz.underlying4 _), (trodAll_cons_mk (Below.trod laidOut (by kernel_rfl) (of_decide_eq_true (by kernel_rfl)) k0 bel lt0) (trodAll_cons_mk (Below.trod laidOut (by kernel_rfl) (of_decide_eq_true (by kernel_rfl)) k1 bel lt1) trodAll_mk0)), rfl, bel.frame _, fun h => by cases h⟩

theorem proved : Rows.TargetUpSaid :=
  OpenClaim.holds_of_wide 4 Tryz.f4 rfl rfl rfl rfl rfl rfl rfl ⟨rfl, rfl, rfl, rfl, rfl⟩ rfl rfl rfl rfl rfl (by kernel_rfl) Tryz.func4 (by kernel_rfl)
    (of_decide_eq_true (by kernel_rfl)) (by unfold Func.isWrapper; first | (rw [if_pos (by decide +kernel)]; kernel_rfl) | (rw [if_neg (by decide +kernel)]; exact ⟨rfl, rfl⟩))
    (fun os started H enc _ => lifted os started H enc)
#print axioms proved
end Go.Proofs.YtkmebhpbfgffbaaGreat.targetUp
