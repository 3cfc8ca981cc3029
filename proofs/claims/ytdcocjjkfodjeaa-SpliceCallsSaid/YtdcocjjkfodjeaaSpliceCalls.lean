/-
  viewportlaw20.SpliceCalls: whatever comes in, it returns true, and each argument reads as it read before. No condition.
-/
import Derived.Test.YtdcocjjkfodjeaaRows
import Derived.Test.YtdcocjjkfodjeaaSpliceCallsGood
import Derived.WalkKit
import Derived.ProofKit
import Derived.OpenShut
import Derived.ShutString
import Derived.ChangeOld
import Derived.Below
import Derived.Lib.SmallJoins
set_option linter.unusedSimpArgs false
set_option linter.unusedVariables false
namespace Go.Proofs.Ytdcocjjkfodjeaa.spliceCalls
open Go.ChangeShapes Go.WideShapes Go.ChangeAt Go.RowKit Go.Joins
open Go.ChangeMaps (open_string shut_string)

theorem own:ownKnob Try.prog.godebug=none:=by kernel_rfl
theorem q0j_:laidOutB Try.prog=true:=by kernel_rfl

set_option maxRecDepth 100000 in
theorem lifted (os:Os)(started:os.Started)(H:Type)(enc:TypeId×Value→H) :
    ReturnsInHanded {} Try.checked os 3 .any (Rows.spliceCallsSpec.pre6 enc Try.prog Try.f3 Rows.spliceCallsRow.domain false) (Rows.spliceCallsSpec.post enc Try.prog Try.f3 false true false false):=by
  refine returnsInHanded_of_change_sized (C:=Try.checked) own started (by kernel_rfl) Try.func3
    (ChangeSpec.witness6 (enc:=enc) (C:=Try.checked) false ⟨#[],#[.slice none 0 0,.slice none 0 0,.int .i64 0,.slice none 0 0,.int .i64 0,.int .i64 0],[]⟩ 8 (by kernel_rfl) (by kernel_rfl) (by kernel_rfl) (by kernel_rfl)) ?_
  intro W base args ds gs before hval0 hW hcnd hsz _
  have hval:∀ (j:Nat) t v,Try.f3.params[j]?=some t→args[j]?=some v→Value.okWide Try.prog W .any base t v:=hval0
  have hW':=hW
  obtain⟨p,q,hA0,hV,rfl,hfz,hnd⟩:=hW
  have hA:DataW.TrodAll enc Try.prog W 0 (fun _=>true) true Try.f3.params.toList args.toList ds p:=hA0
  rw[Try.params3] at hA hval
  obtain⟨v0,vs0,d0,ds0,p0,q0,hargs,rfl,rfl,h0,r0⟩:=trodAll_cons hA
  obtain⟨v1,vs1,d1,ds1,p1,q1,rfl,rfl,rfl,h1,r1⟩:=trodAll_cons r0
  obtain⟨v2,vs2,d2,ds2,p2,q2,rfl,rfl,rfl,h2,r2⟩:=trodAll_cons r1
  obtain⟨v3,vs3,d3,ds3,p3,q3,rfl,rfl,rfl,h3,r3⟩:=trodAll_cons r2
  obtain⟨v4,vs4,d4,ds4,p4,q4,rfl,rfl,rfl,h4,r4⟩:=trodAll_cons r3
  obtain⟨v5,vs5,d5,ds5,p5,q5,rfl,rfl,rfl,h5,r5⟩:=trodAll_cons r4
  obtain⟨rfl,rfl,rfl⟩:=trodAll_nil r5
  obtain rfl:args=#[v0,v1,v2,v3,v4,v5]:=by cases args; simp_all
  obtain⟨rfl,rfl⟩:=trodVars_none hV
  have k0:=h0
  have lt0:∀ x∈p0,x.block<W.heap.size:=by obtain⟨m,hm⟩:=k0; exact DataW.trod_lt m _ _ _ hm
  obtain⟨sa0,sl0,sc0,rfl⟩:=Go.WideShapes.okWide_slice Try.underlying22 (hval 0 22 v0 rfl rfl)
  obtain⟨sf0,hs0⟩:=h0
  obtain⟨lx,w0,u0⟩:=@Ax.openRowsU _ _ _ _ _ (Ax.nestOf W) _ _ (@Go.Proofs.Ytdcocjjkfodjeaa.spc20.rw_iiiiiiLu (Ax.nestOf W)) (@Go.Proofs.Ytdcocjjkfodjeaa.spc20.uq_iiiiiiLu (Ax.nestOf W)) _ (@Go.Proofs.Ytdcocjjkfodjeaa.spc20.rwf_iiiiiiLu (Ax.nestOf W)) Go.Proofs.Ytdcocjjkfodjeaa.spc20.ks_iiiiiiLu Go.Proofs.Ytdcocjjkfodjeaa.spc20.dec_ok_iiiiiiLu _ _ _ 9 _ _ (by decide) Try.underlying22 (by kernel_rfl) (by kernel_rfl) hs0 (Ax.wt_of hsz (j:=0) rfl rfl)
  have k1:=h1
  have lt1:∀ x∈p1,x.block<W.heap.size:=by obtain⟨m,hm⟩:=k1; exact DataW.trod_lt m _ _ _ hm
  obtain⟨sa1,sl1,sc1,rfl⟩:=Go.WideShapes.okWide_slice Try.underlying22 (hval 1 22 v1 rfl rfl)
  obtain⟨sf1,hs1⟩:=h1
  obtain⟨ox,w1,u1⟩:=@Ax.openRowsU _ _ _ _ _ (Ax.nestOf W) _ _ (@Go.Proofs.Ytdcocjjkfodjeaa.spc20.rw_iiiiiiLu (Ax.nestOf W)) (@Go.Proofs.Ytdcocjjkfodjeaa.spc20.uq_iiiiiiLu (Ax.nestOf W)) _ (@Go.Proofs.Ytdcocjjkfodjeaa.spc20.rwf_iiiiiiLu (Ax.nestOf W)) Go.Proofs.Ytdcocjjkfodjeaa.spc20.ks_iiiiiiLu Go.Proofs.Ytdcocjjkfodjeaa.spc20.dec_ok_iiiiiiLu _ _ _ 9 _ _ (by decide) Try.underlying22 (by kernel_rfl) (by kernel_rfl) hs1 (Ax.wt_of hsz (j:=1) rfl rfl)
  have k2:=h2
  have lt2:∀ x∈p2,x.block<W.heap.size:=by obtain⟨m,hm⟩:=k2; exact DataW.trod_lt m _ _ _ hm
  obtain⟨i,rfl,rfl,rfl,w2⟩:=open_int Try.underlying3 (hval 2 3 v2 rfl rfl) h2
  have k3:=h3
  have lt3:∀ x∈p3,x.block<W.heap.size:=by obtain⟨m,hm⟩:=k3; exact DataW.trod_lt m _ _ _ hm
  obtain⟨sa3,sl3,sc3,rfl⟩:=Go.WideShapes.okWide_slice Try.underlying23 (hval 3 23 v3 rfl rfl)
  obtain⟨sf3,hs3⟩:=h3
  obtain⟨jobsx,w3⟩:=@Ax.openRowsN _ _ _ _ _ (Ax.nestOf W) _ _ (@Go.Proofs.Ytdcocjjkfodjeaa.spc20.rw_iiiii (Ax.nestOf W)) _ (@Go.Proofs.Ytdcocjjkfodjeaa.spc20.rwf_iiiii (Ax.nestOf W)) Go.Proofs.Ytdcocjjkfodjeaa.spc20.ks_iiiii Go.Proofs.Ytdcocjjkfodjeaa.spc20.dec_ok_iiiii _ _ _ 9 _ _ (by decide) Try.underlying23 (by kernel_rfl) (by kernel_rfl) hs3 (Ax.wt_of hsz (j:=3) rfl rfl)
  have k4:=h4
  have lt4:∀ x∈p4,x.block<W.heap.size:=by obtain⟨m,hm⟩:=k4; exact DataW.trod_lt m _ _ _ hm
  obtain⟨src,rfl,rfl,rfl,w4⟩:=open_int Try.underlying3 (hval 4 3 v4 rfl rfl) h4
  have k5:=h5
  have lt5:∀ x∈p5,x.block<W.heap.size:=by obtain⟨m,hm⟩:=k5; exact DataW.trod_lt m _ _ _ hm
  obtain⟨dst,rfl,rfl,rfl,w5⟩:=open_int Try.underlying3 (hval 5 3 v5 rfl rfl) h5
  clear hA0 hval0
  refine (qy9_ W (.slice sa0 sl0 sc0) lx (.slice sa1 sl1 sc1) ox i (.slice sa3 sl3 sc3) jobsx src dst w0 u0 w1 u1 w2 w3 w4 w5).mono fun e W' ⟨he,bel⟩=>?_
  subst he
  exact⟨_,rfl,_,_,_,[],_,[],hW',trodAll_mk1 (shut_bool Try.underlying4 _),(trodAll_cons_mk (Below.trod q0j_ (by kernel_rfl) (of_decide_eq_true (by kernel_rfl)) k0 bel lt0) (trodAll_cons_mk (Below.trod q0j_ (by kernel_rfl) (of_decide_eq_true (by kernel_rfl)) k1 bel lt1) (trodAll_cons_mk (Below.trod q0j_ (by kernel_rfl) (of_decide_eq_true (by kernel_rfl)) k2 bel lt2) (trodAll_cons_mk (Below.trod q0j_ (by kernel_rfl) (of_decide_eq_true (by kernel_rfl)) k3 bel lt3) (trodAll_cons_mk (Below.trod q0j_ (by kernel_rfl) (of_decide_eq_true (by kernel_rfl)) k4 bel lt4) (trodAll_cons_mk (Below.trod q0j_ (by kernel_rfl) (of_decide_eq_true (by kernel_rfl)) k5 bel lt5) trodAll_mk0)))))),rfl,bel.frame _,fun h=>by cases h⟩

theorem proved:Rows.SpliceCallsSaid:=
  OpenClaim.holds_of_wide 3 Try.f3 rfl rfl rfl rfl rfl rfl rfl ⟨rfl,rfl,rfl,rfl,rfl⟩ rfl rfl rfl rfl rfl (by kernel_rfl) Try.func3 (by kernel_rfl)
    (of_decide_eq_true (by kernel_rfl)) (by unfold Func.isWrapper; first | (rw[if_pos (by decide +kernel)]; kernel_rfl) | (rw[if_neg (by decide +kernel)]; exact⟨rfl,rfl⟩))
    (fun os started H enc _=>lifted os started H enc)
#print axioms proved
end Go.Proofs.Ytdcocjjkfodjeaa.spliceCalls
