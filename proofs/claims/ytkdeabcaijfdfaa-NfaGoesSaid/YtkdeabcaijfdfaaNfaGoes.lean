/-
  viewportlaw03.NfaGoes: whatever comes in, it returns true, and each argument reads as it read before. No condition.
-/
import Derived.Test.YtkdeabcaijfdfaaRows
import Derived.Test.YtkdeabcaijfdfaaNfaGoesGood
import Derived.WalkKit
import Derived.ProofKit
import Derived.OpenShut
import Derived.ShutString
import Derived.ChangeOld
import Derived.Below
import Derived.Lib.SmallJoins
set_option linter.unusedSimpArgs false
set_option linter.unusedVariables false
namespace Go.Proofs.Ytkdeabcaijfdfaa.nfaGoes
open Go.ChangeShapes Go.WideShapes Go.ChangeAt Go.RowKit Go.Joins
open Go.ChangeMaps (open_string shut_string)

theorem own : ownKnob Try.prog.godebug = none := by kernel_rfl
theorem laidOut : laidOutB Try.prog = true := by kernel_rfl
theorem cells26 : Try.prog.cellsOf 26 = 3 := by kernel_rfl

set_option maxRecDepth 100000 in
theorem lifted (os : Os) (started : os.Started) (H : Type) (enc : TypeId × Value → H) :
    ReturnsInHanded {} Try.checked os 4 .any (Rows.nfaGoesSpec.pre6 enc Try.prog Try.f4 Rows.nfaGoesRow.domain false) (Rows.nfaGoesSpec.post enc Try.prog Try.f4 false true false false) := by
  refine returnsInHanded_of_change_sized (C := Try.checked) own started (by kernel_rfl) Try.func4
    (ChangeSpec.witness6 (enc := enc) (C := Try.checked) false ⟨#[], #[.agg #[.slice none 0 0, .slice none 0 0, .slice none 0 0], .string .empty], []⟩ 8 (by kernel_rfl) (by kernel_rfl) (by kernel_rfl) (by kernel_rfl)) ?_
  intro W base args ds gs before hval0 hW hcnd hsz _
  have hval : ∀ (j : Nat) t v, Try.f4.params[j]? = some t → args[j]? = some v → Value.okWide Try.prog W .any base t v := hval0
  have hW' := hW
  obtain ⟨p, q, hA0, hV, rfl, hfz, hnd⟩ := hW
  have hA : DataW.TrodAll enc Try.prog W 0 (fun _ => true) true Try.f4.params.toList args.toList ds p := hA0
  rw [Try.params4] at hA hval
  obtain ⟨v0, vs0, d0, ds0, p0, q0, hargs, rfl, rfl, h0, r0⟩ := trodAll_cons hA
  obtain ⟨v1, vs1, d1, ds1, p1, q1, rfl, rfl, rfl, h1, r1⟩ := trodAll_cons r0
  obtain ⟨rfl, rfl, rfl⟩ := trodAll_nil r1
  obtain rfl : args = #[v0, v1] := by cases args; simp_all
  obtain ⟨rfl, rfl⟩ := trodVars_none hV
  have k0 := h0
  have lt0 : ∀ x ∈ p0, x.block < W.heap.size := by obtain ⟨m, hm⟩ := k0; exact DataW.trod_lt m _ _ _ hm
  obtain ⟨c0_0, c0_1, c0_2, y0_0, y0_1, y0_2, m0, rfl, rfl, rfl, hy0_0, hy0_1, hy0_2⟩ := open_agg3 Try.underlying26 (by kernel_rfl) cells26 (hval 0 26 v0 rfl rfl) h0
  obtain ⟨xs0_0, w0_0⟩ := @Ax.openRowsN _ _ _ _ _ (Ax.nestOf W) _ _ (@Go.Proofs.Ytkdeabcaijfdfaa.nfg03.rw_uuuu (Ax.nestOf W)) _ (@Go.Proofs.Ytkdeabcaijfdfaa.nfg03.rwf_uuuu (Ax.nestOf W)) Go.Proofs.Ytkdeabcaijfdfaa.nfg03.ks_uuuu Go.Proofs.Ytkdeabcaijfdfaa.nfg03.dec_ok_uuuu _ _ _ 9 _ _ (by decide) Try.underlying22 (by kernel_rfl) (by kernel_rfl) hy0_0 (Ax.wt_part (Ax.wt_of hsz (j := 0) rfl rfl) Try.underlying26 (j := 0) rfl rfl)
  obtain ⟨xs0_1, w0_1⟩ := @Ax.openRowsN _ _ _ _ _ (Ax.nestOf W) _ _ (@Go.Proofs.Ytkdeabcaijfdfaa.nfg03.rw_L (Ax.nestOf W)) _ (@Go.Proofs.Ytkdeabcaijfdfaa.nfg03.rwf_L (Ax.nestOf W)) Go.Proofs.Ytkdeabcaijfdfaa.nfg03.ks_L Go.Proofs.Ytkdeabcaijfdfaa.nfg03.dec_ok_L _ _ _ 9 _ _ (by decide) Try.underlying23 (by kernel_rfl) (by kernel_rfl) hy0_1 (Ax.wt_part (Ax.wt_of hsz (j := 0) rfl rfl) Try.underlying26 (j := 1) rfl rfl)
  obtain ⟨xs0_2, w0_2, wb0_2⟩ := Ax.openIntsB Try.underlying24 Try.underlying3 (by kernel_rfl) (of_decide_eq_true (by kernel_rfl)) hy0_2 (Ax.wt_part (Ax.wt_of hsz (j := 0) rfl rfl) Try.underlying26 (j := 2) rfl rfl)
  have k1 := h1
  have lt1 : ∀ x ∈ p1, x.block < W.heap.size := by obtain ⟨m, hm⟩ := k1; exact DataW.trod_lt m _ _ _ hm
  obtain ⟨s, rfl, rfl, rfl, w1⟩ := open_string Try.underlying9 (hval 1 9 v1 rfl rfl) h1
  clear hA0 hval0
  refine (walk_NfaGoes W c0_0 xs0_0 c0_1 xs0_1 c0_2 xs0_2 s w0_0 w0_1 w0_2 wb0_2 w1).mono fun e W' ⟨he, bel⟩ => ?_
  subst he
  exact ⟨_, rfl, _, _, _, [], _, [], hW', trodAll_mk1 (shut_bool Try.underlying4 _), (trodAll_cons_mk (Below.trod laidOut (by kernel_rfl) (of_decide_eq_true (by kernel_rfl)) k0 bel lt0) (trodAll_cons_mk (Below.trod laidOut (by kernel_rfl) (of_decide_eq_true (by kernel_rfl)) k1 bel lt1) trodAll_mk0)), rfl, bel.frame _, fun h => by cases h⟩

theorem proved : Rows.NfaGoesSaid :=
  OpenClaim.holds_of_wide 4 Try.f4 rfl rfl rfl rfl rfl rfl rfl ⟨rfl, rfl, rfl, rfl, rfl⟩ rfl rfl rfl rfl rfl (by kernel_rfl) Try.func4 (by kernel_rfl)
    (of_decide_eq_true (by kernel_rfl)) (by unfold Func.isWrapper; first | (rw [if_pos (by decide +kernel)]; kernel_rfl) | (rw [if_neg (by decide +kernel)]; exact ⟨rfl, rfl⟩))
    (fun os started H enc _ => lifted os started H enc)
#print axioms proved
end Go.Proofs.Ytkdeabcaijfdfaa.nfaGoes
