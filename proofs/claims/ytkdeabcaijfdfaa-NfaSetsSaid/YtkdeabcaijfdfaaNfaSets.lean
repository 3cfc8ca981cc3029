/-
  viewportlaw03.NfaSets: whatever comes in, it returns true, and each argument reads as it read before. No condition.
-/
import Derived.Test.YtkdeabcaijfdfaaRows
import Derived.Test.YtkdeabcaijfdfaaNfaSetsGood
import Derived.WalkKit
import Derived.ProofKit
import Derived.OpenShut
import Derived.ShutString
import Derived.ChangeOld
import Derived.Below
import Derived.Lib.SmallJoins
set_option linter.unusedSimpArgs false
set_option linter.unusedVariables false
namespace Go.Proofs.Ytkdeabcaijfdfaa.nfaSets
open Go.ChangeShapes Go.WideShapes Go.ChangeAt Go.RowKit Go.Joins
open Go.ChangeMaps (open_string shut_string)

theorem own : ownKnob Try.prog.godebug = none := by kernel_rfl
theorem laidOut : laidOutB Try.prog = true := by kernel_rfl
theorem cells26 : Try.prog.cellsOf 26 = 3 := by kernel_rfl

set_option maxRecDepth 100000 in
theorem lifted (os : Os) (started : os.Started) (H : Type) (enc : TypeId × Value → H) :
    ReturnsInHanded {} Try.checked os 3 .any (Rows.nfaSetsSpec.pre6 enc Try.prog Try.f3 Rows.nfaSetsRow.domain false) (Rows.nfaSetsSpec.post enc Try.prog Try.f3 false true false false) := by
  refine returnsInHanded_of_change_sized (C := Try.checked) own started (by kernel_rfl) Try.func3
    (ChangeSpec.witness6 (enc := enc) (C := Try.checked) false ⟨#[], #[.agg #[.slice none 0 0, .slice none 0 0, .slice none 0 0], .slice none 0 0, .slice none 0 0, .int .u8 0], []⟩ 8 (by kernel_rfl) (by kernel_rfl) (by kernel_rfl) (by kernel_rfl)) ?_
  intro W base args ds gs before hval0 hW hcnd hsz _
  have hval : ∀ (j : Nat) t v, Try.f3.params[j]? = some t → args[j]? = some v → Value.okWide Try.prog W .any base t v := hval0
  have hW' := hW
  obtain ⟨p, q, hA0, hV, rfl, hfz, hnd⟩ := hW
  have hA : DataW.TrodAll enc Try.prog W 0 (fun _ => true) true Try.f3.params.toList args.toList ds p := hA0
  rw [Try.params3] at hA hval
  obtain ⟨v0, vs0, d0, ds0, p0, q0, hargs, rfl, rfl, h0, r0⟩ := trodAll_cons hA
  obtain ⟨v1, vs1, d1, ds1, p1, q1, rfl, rfl, rfl, h1, r1⟩ := trodAll_cons r0
  obtain ⟨v2, vs2, d2, ds2, p2, q2, rfl, rfl, rfl, h2, r2⟩ := trodAll_cons r1
  obtain ⟨v3, vs3, d3, ds3, p3, q3, rfl, rfl, rfl, h3, r3⟩ := trodAll_cons r2
  obtain ⟨rfl, rfl, rfl⟩ := trodAll_nil r3
  obtain rfl : args = #[v0, v1, v2, v3] := by cases args; simp_all
  obtain ⟨rfl, rfl⟩ := trodVars_none hV
  have k0 := h0
  have lt0 : ∀ x ∈ p0, x.block < W.heap.size := by obtain ⟨m, hm⟩ := k0; exact DataW.trod_lt m _ _ _ hm
  obtain ⟨c0_0, c0_1, c0_2, y0_0, y0_1, y0_2, m0, rfl, rfl, rfl, hy0_0, hy0_1, hy0_2⟩ := open_agg3 Try.underlying26 (by kernel_rfl) cells26 (hval 0 26 v0 rfl rfl) h0
  obtain ⟨xs0_0, w0_0⟩ := @Ax.openRowsN _ _ _ _ _ (Ax.nestOf W) _ _ (@Go.Proofs.Ytkdeabcaijfdfaa.nss03.rw_uuuu (Ax.nestOf W)) _ (@Go.Proofs.Ytkdeabcaijfdfaa.nss03.rwf_uuuu (Ax.nestOf W)) Go.Proofs.Ytkdeabcaijfdfaa.nss03.ks_uuuu Go.Proofs.Ytkdeabcaijfdfaa.nss03.dec_ok_uuuu _ _ _ 9 _ _ (by decide) Try.underlying22 (by kernel_rfl) (by kernel_rfl) hy0_0 (Ax.wt_part (Ax.wt_of hsz (j := 0) rfl rfl) Try.underlying26 (j := 0) rfl rfl)
  obtain ⟨xs0_1, w0_1⟩ := @Ax.openRowsN _ _ _ _ _ (Ax.nestOf W) _ _ (@Go.Proofs.Ytkdeabcaijfdfaa.nss03.rw_L (Ax.nestOf W)) _ (@Go.Proofs.Ytkdeabcaijfdfaa.nss03.rwf_L (Ax.nestOf W)) Go.Proofs.Ytkdeabcaijfdfaa.nss03.ks_L Go.Proofs.Ytkdeabcaijfdfaa.nss03.dec_ok_L _ _ _ 9 _ _ (by decide) Try.underlying23 (by kernel_rfl) (by kernel_rfl) hy0_1 (Ax.wt_part (Ax.wt_of hsz (j := 0) rfl rfl) Try.underlying26 (j := 1) rfl rfl)
  obtain ⟨xs0_2, w0_2, wb0_2⟩ := Ax.openIntsB Try.underlying24 Try.underlying3 (by kernel_rfl) (of_decide_eq_true (by kernel_rfl)) hy0_2 (Ax.wt_part (Ax.wt_of hsz (j := 0) rfl rfl) Try.underlying26 (j := 2) rfl rfl)
  have k1 := h1
  have lt1 : ∀ x ∈ p1, x.block < W.heap.size := by obtain ⟨m, hm⟩ := k1; exact DataW.trod_lt m _ _ _ hm
  obtain ⟨sa1, sl1, sc1, rfl⟩ := Go.WideShapes.okWide_slice Try.underlying24 (hval 1 24 v1 rfl rfl)
  obtain ⟨sf1, hs1⟩ := h1
  obtain ⟨ax, w1, wb1⟩ := Ax.openIntsB Try.underlying24 Try.underlying3 (by kernel_rfl) (of_decide_eq_true (by kernel_rfl)) hs1 (Ax.wt_of hsz (j := 1) rfl rfl)
  have k2 := h2
  have lt2 : ∀ x ∈ p2, x.block < W.heap.size := by obtain ⟨m, hm⟩ := k2; exact DataW.trod_lt m _ _ _ hm
  obtain ⟨sa2, sl2, sc2, rfl⟩ := Go.WideShapes.okWide_slice Try.underlying24 (hval 2 24 v2 rfl rfl)
  obtain ⟨sf2, hs2⟩ := h2
  obtain ⟨dx, w2, wb2⟩ := Ax.openIntsB Try.underlying24 Try.underlying3 (by kernel_rfl) (of_decide_eq_true (by kernel_rfl)) hs2 (Ax.wt_of hsz (j := 2) rfl rfl)
  have k3 := h3
  have lt3 : ∀ x ∈ p3, x.block < W.heap.size := by obtain ⟨m, hm⟩ := k3; exact DataW.trod_lt m _ _ _ hm
  obtain ⟨c, rfl, rfl, rfl, w3⟩ := open_int Try.underlying5 (hval 3 5 v3 rfl rfl) h3
  clear hA0 hval0
  refine (walk_NfaSets W c0_0 xs0_0 c0_1 xs0_1 c0_2 xs0_2 (.slice sa1 sl1 sc1) ax (.slice sa2 sl2 sc2) dx c w0_0 w0_1 w0_2 wb0_2 w1 wb1 w2 wb2 w3).mono fun e W' ⟨he, bel⟩ => ?_
  subst he
  exact ⟨_, rfl, _, _, _, [], _, [], hW', trodAll_mk1 (shut_bool Try.underlying4 _), (trodAll_cons_mk (Below.trod laidOut (by kernel_rfl) (of_decide_eq_true (by kernel_rfl)) k0 bel lt0) (trodAll_cons_mk (Below.trod laidOut (by kernel_rfl) (of_decide_eq_true (by kernel_rfl)) k1 bel lt1) (trodAll_cons_mk (Below.trod laidOut (by kernel_rfl) (of_decide_eq_true (by kernel_rfl)) k2 bel lt2) (trodAll_cons_mk (Below.trod laidOut (by kernel_rfl) (of_decide_eq_true (by kernel_rfl)) k3 bel lt3) trodAll_mk0)))), rfl, bel.frame _, fun h => by cases h⟩

theorem proved : Rows.NfaSetsSaid :=
  OpenClaim.holds_of_wide 3 Try.f3 rfl rfl rfl rfl rfl rfl rfl ⟨rfl, rfl, rfl, rfl, rfl⟩ rfl rfl rfl rfl rfl (by kernel_rfl) Try.func3 (by kernel_rfl)
    (of_decide_eq_true (by kernel_rfl)) (by unfold Func.isWrapper; first | (rw [if_pos (by decide +kernel)]; kernel_rfl) | (rw [if_neg (by decide +kernel)]; exact ⟨rfl, rfl⟩))
    (fun os started H enc _ => lifted os started H enc)
#print axioms proved
end Go.Proofs.Ytkdeabcaijfdfaa.nfaSets
