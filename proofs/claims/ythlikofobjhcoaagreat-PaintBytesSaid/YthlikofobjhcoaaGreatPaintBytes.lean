/-
  viewportlaw28.PaintBytes: whatever comes in, it returns true, and each argument reads as it read before. No condition.
-/
import Derived.Test.YthlikofobjhcoaaGreatRows
import Derived.Test.YthlikofobjhcoaaGreatPtbPure
import Derived.Test.YthlikofobjhcoaaGreatNestArg
import Derived.WalkKit
import Derived.ProofKit
import Derived.OpenShut
import Derived.ShutString
import Derived.ChangeOld
import Derived.Below
import Derived.Lib.SmallJoins
set_option linter.unusedSimpArgs false
set_option linter.unusedVariables false
set_option linter.unusedSectionVars false
set_option linter.unnecessarySimpa false
namespace Go.Proofs.YthlikofobjhcoaaGreat.paintBytes
open Go Go.Proofs.YthlikofobjhcoaaGreat Ax Go.Proofs.YthlikofobjhcoaaGreat.ptb28
theorem iv_fl {l:List Int}:∀ {v:Value},v∈iv l→flat v=true:=fun h=>by
  obtain⟨z,_,rfl⟩:=List.mem_map.1 h
  rfl
theorem q0e_ (w:World)(tv:Value)(tx:List (Int×Int×Int×Int×Int×Int×@NL (nestOf w)×Int))(first:Int)(stylesv:Value)(stylesx:List (Int×@NL (nestOf w)×Int×Int))(plc:Int)(th:@RowsV (nestOf w) _ (@rw_iiiiiiLu (nestOf w)) w tv tx)(_:(Lit.int .i64 first).wf=true)(stylesh:@RowsV (nestOf w) _ (@rw_iLii (nestOf w)) w stylesv stylesx)(_:(Lit.int .i64 plc).wf=true):Calls Tryz.prog 3 #[tv,.int .i64 first,stylesv,.int .i64 plc] w fun e w'=>e=.returned (.bool true)∧Go.RowKit.Below w.heap.size w w':=by
  letI:Args:={ toNest:=nestOf w,A:=tx,bA:=(winAt tv (tx.map fun _=>0)).1,dA:=(winAt tv (tx.map fun _=>0)).2,cA:=capOf tv,hA:=@RowsV.len (nestOf w) _ _ _ _ _ th,B:=stylesx,bB:=(winAt stylesv (stylesx.map fun _=>0)).1,dB:=(winAt stylesv (stylesx.map fun _=>0)).2,cB:=capOf stylesv,hB:=@RowsV.len (nestOf w) _ _ _ _ _ stylesh }
  have ht:Ax.TabsOK w.heap.size w:=by
    refine⟨fun g l h=>(nomatch (show (none:Option (List Value))=some l from h)),fun j b d l hj hz w' hk i u hi=>?_⟩
    rcases Nat.lt_or_ge j 64 with hlt | hge
    · have hj:winL j=some (b,d,l):=by rw[←wins_low j hlt]; exact hj
      clear hlt
      match j with
      | 0=>
        have hq:=Option.some.inj (show some ((winAt tv (tx.map fun _=>0)).1,(winAt tv (tx.map fun _=>0)).2,rows rw_iiiiiiLu tx)=some (b,d,l) from hj)
        obtain⟨rfl,hq2⟩:=Prod.mk.inj hq
        obtain⟨rfl,rfl⟩:=Prod.mk.inj hq2
        obtain⟨u,h1,h2⟩:=th.win w' hk i u hi
        exact⟨u,h1,fun σ=>h2.vr qip_ wins_even σ⟩
      | 1=>
        have hq:=Option.some.inj (show some ((winAt stylesv (stylesx.map fun _=>0)).1,(winAt stylesv (stylesx.map fun _=>0)).2,rows rw_iLii stylesx)=some (b,d,l) from hj)
        obtain⟨rfl,hq2⟩:=Prod.mk.inj hq
        obtain⟨rfl,rfl⟩:=Prod.mk.inj hq2
        obtain⟨u,h1,h2⟩:=stylesh.win w' hk i u hi
        exact⟨u,h1,fun σ=>h2.vr qip_ wins_even σ⟩
      | (k+2)=>exact nomatch (show (none:Option (Nat×Nat×List Value))=some (b,d,l) from hj)
    · have hj:(nestOf w).nest (j-64)=some (b,d,l):=by
        have:=wins_high j hge
        rw[hj] at this
        exact this.symm
      rw[nest_raw (wins_hz j hge hz)] at hj
      obtain⟨u',h1,rfl,h2⟩:=nestOf_cells hj hk i u hi
      exact⟨_,h1,fun σ=>qua_ h2 σ⟩
  obtain⟨n,h⟩:=q0d_ first plc
  have hg:=qn0_ n first plc () h
  have hl:=law_ok (P:=Tryz.prog) (f:=3) (args:=qjm_ first plc) (args':=[tv,.int .i64 first,stylesv,.int .i64 plc]) (k:=0) (B:=.nil) hg (w:=w) (n0:=⟨⟨w.heap.size,fun _=>False⟩,fun _=>False⟩) (σ:=Ren.nil) (.cons (th.vr (j:=0) rfl rfl _) (.cons (.int .i64 first) (.cons (stylesh.vr (j:=1) rfl rfl _) (.cons (.int .i64 plc) .nil)))) (hr_start w ht)
  exact hl.mono fun e w' ⟨h1,σ',h2⟩=>⟨h1,h2.below⟩
end Go.Proofs.YthlikofobjhcoaaGreat.paintBytes
namespace Go.Proofs.YthlikofobjhcoaaGreat.paintBytes
open Go.ChangeShapes Go.WideShapes Go.ChangeAt Go.RowKit Go.Joins
open Go.ChangeMaps (open_string shut_string)

theorem own:ownKnob Tryz.prog.godebug=none:=by kernel_rfl
theorem laidOut:laidOutB Tryz.prog=true:=by kernel_rfl

set_option maxRecDepth 100000 in
theorem lifted (os:Os)(started:os.Started)(H:Type)(enc:TypeId×Value→H) :
    ReturnsInHanded {} Tryz.checked os 3 .any (Rows.paintBytesSpec.pre6 enc Tryz.prog Tryz.f3 Rows.paintBytesRow.domain false) (Rows.paintBytesSpec.post enc Tryz.prog Tryz.f3 false true false false):=by
  refine returnsInHanded_of_change_sized (C:=Tryz.checked) own started (by kernel_rfl) Tryz.func3
    (ChangeSpec.witness6 (enc:=enc) (C:=Tryz.checked) false ⟨#[],#[.slice none 0 0,.int .i64 0,.slice none 0 0,.int .i64 0],[]⟩ 8 (by kernel_rfl) (by kernel_rfl) (by kernel_rfl) (by kernel_rfl)) ?_
  intro W base args ds gs before hval0 hW hcnd hsz _
  have hval:∀ (j:Nat) t v,Tryz.f3.params[j]?=some t→args[j]?=some v→Value.okWide Tryz.prog W .any base t v:=hval0
  have hW':=hW
  obtain⟨p,q,hA0,hV,rfl,hfz,hnd⟩:=hW
  have hA:DataW.TrodAll enc Tryz.prog W 0 (fun _=>true) true Tryz.f3.params.toList args.toList ds p:=hA0
  rw[Tryz.params3] at hA hval
  obtain⟨v0,vs0,d0,ds0,p0,q0,hargs,rfl,rfl,h0,r0⟩:=trodAll_cons hA
  obtain⟨v1,vs1,d1,ds1,p1,q1,rfl,rfl,rfl,h1,r1⟩:=trodAll_cons r0
  obtain⟨v2,vs2,d2,ds2,p2,q2,rfl,rfl,rfl,h2,r2⟩:=trodAll_cons r1
  obtain⟨v3,vs3,d3,ds3,p3,q3,rfl,rfl,rfl,h3,r3⟩:=trodAll_cons r2
  obtain⟨rfl,rfl,rfl⟩:=trodAll_nil r3
  obtain rfl:args=#[v0,v1,v2,v3]:=by cases args; simp_all
  obtain⟨rfl,rfl⟩:=trodVars_none hV
  have k0:=h0
  have lt0:∀ x∈p0,x.block<W.heap.size:=by obtain⟨m,hm⟩:=k0; exact DataW.trod_lt m _ _ _ hm
  obtain⟨sa0,sl0,sc0,rfl⟩:=Go.WideShapes.okWide_slice Tryz.underlying22 (hval 0 22 v0 rfl rfl)
  obtain⟨sf0,hs0⟩:=h0
  obtain⟨tx,w0⟩:=@Ax.openRowsN _ _ _ _ _ (Ax.nestOf W) _ _ (@Go.Proofs.YthlikofobjhcoaaGreat.ptb28.rw_iiiiiiLu (Ax.nestOf W)) _ (@Go.Proofs.YthlikofobjhcoaaGreat.ptb28.rwf_iiiiiiLu (Ax.nestOf W)) Go.Proofs.YthlikofobjhcoaaGreat.ptb28.ks_iiiiiiLu Go.Proofs.YthlikofobjhcoaaGreat.ptb28.dec_ok_iiiiiiLu _ _ _ 9 _ _ (by decide) Tryz.underlying22 (by kernel_rfl) (by kernel_rfl) hs0 (Ax.wt_of hsz (j:=0) rfl rfl)
  have k1:=h1
  have lt1:∀ x∈p1,x.block<W.heap.size:=by obtain⟨m,hm⟩:=k1; exact DataW.trod_lt m _ _ _ hm
  obtain⟨first,rfl,rfl,rfl,w1⟩:=open_int Tryz.underlying3 (hval 1 3 v1 rfl rfl) h1
  have k2:=h2
  have lt2:∀ x∈p2,x.block<W.heap.size:=by obtain⟨m,hm⟩:=k2; exact DataW.trod_lt m _ _ _ hm
  obtain⟨sa2,sl2,sc2,rfl⟩:=Go.WideShapes.okWide_slice Tryz.underlying23 (hval 2 23 v2 rfl rfl)
  obtain⟨sf2,hs2⟩:=h2
  obtain⟨stylesx,w2⟩:=@Ax.openRowsN _ _ _ _ _ (Ax.nestOf W) _ _ (@Go.Proofs.YthlikofobjhcoaaGreat.ptb28.rw_iLii (Ax.nestOf W)) _ (@Go.Proofs.YthlikofobjhcoaaGreat.ptb28.rwf_iLii (Ax.nestOf W)) Go.Proofs.YthlikofobjhcoaaGreat.ptb28.ks_iLii Go.Proofs.YthlikofobjhcoaaGreat.ptb28.dec_ok_iLii _ _ _ 9 _ _ (by decide) Tryz.underlying23 (by kernel_rfl) (by kernel_rfl) hs2 (Ax.wt_of hsz (j:=2) rfl rfl)
  have k3:=h3
  have lt3:∀ x∈p3,x.block<W.heap.size:=by obtain⟨m,hm⟩:=k3; exact DataW.trod_lt m _ _ _ hm
  obtain⟨plc,rfl,rfl,rfl,w3⟩:=open_int Tryz.underlying3 (hval 3 3 v3 rfl rfl) h3
  clear hA0 hval0
  refine (q0e_ W (.slice sa0 sl0 sc0) tx first (.slice sa2 sl2 sc2) stylesx plc w0 w1 w2 w3).mono fun e W' ⟨he,bel⟩=>?_
  subst he
  exact⟨_,rfl,_,_,_,[],_,[],hW',trodAll_mk1 (shut_bool Tryz.underlying4 _),(trodAll_cons_mk (Below.trod laidOut (by kernel_rfl) (of_decide_eq_true (by kernel_rfl)) k0 bel lt0) (trodAll_cons_mk (Below.trod laidOut (by kernel_rfl) (of_decide_eq_true (by kernel_rfl)) k1 bel lt1) (trodAll_cons_mk (Below.trod laidOut (by kernel_rfl) (of_decide_eq_true (by kernel_rfl)) k2 bel lt2) (trodAll_cons_mk (Below.trod laidOut (by kernel_rfl) (of_decide_eq_true (by kernel_rfl)) k3 bel lt3) trodAll_mk0)))),rfl,bel.frame _,fun h=>by cases h⟩

theorem proved:Rows.PaintBytesSaid:=
  OpenClaim.holds_of_wide 3 Tryz.f3 rfl rfl rfl rfl rfl rfl rfl ⟨rfl,rfl,rfl,rfl,rfl⟩ rfl rfl rfl rfl rfl (by kernel_rfl) Tryz.func3 (by kernel_rfl)
    (of_decide_eq_true (by kernel_rfl)) (by unfold Func.isWrapper; first | (rw[if_pos (by decide +kernel)]; kernel_rfl) | (rw[if_neg (by decide +kernel)]; exact⟨rfl,rfl⟩))
    (fun os started H enc _=>lifted os started H enc)
#print axioms proved
end Go.Proofs.YthlikofobjhcoaaGreat.paintBytes
