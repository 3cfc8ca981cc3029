/-
  viewportlaw20.SpliceCalls gives true whatever its arguments are, and leaves what was there. No condition.
-/
import Derived.Test.YtdcocjjkfodjeaaSpcRPure
import Derived.Test.YtdcocjjkfodjeaaNestArg
set_option linter.unusedSimpArgs false
set_option linter.unusedVariables false
set_option linter.unusedSectionVars false
set_option linter.unnecessarySimpa false
namespace Go.Proofs.Ytdcocjjkfodjeaa.spliceCalls
open Go Go.Proofs.Ytdcocjjkfodjeaa Ax Go.Proofs.Ytdcocjjkfodjeaa.spc20
theorem iv_fl {l:List Int}:∀ {v:Value},v∈iv l→flat v=true:=fun h=>by
  obtain⟨z,_,rfl⟩:=List.mem_map.1 h
  rfl
theorem qy9_ (w:World)(lv:Value)(lx:List (Int×Int×Int×Int×Int×Int×@NL (nestOf w)×Int))(ov:Value)(ox:List (Int×Int×Int×Int×Int×Int×@NL (nestOf w)×Int))(i:Int)(jobsv:Value)(jobsx:List (Int×Int×Int×Int×Int))(src dst:Int)(lh:@RowsV (nestOf w) _ (@rw_iiiiiiLu (nestOf w)) w lv lx)(lu:∀ x∈lx,@uq_iiiiiiLu (nestOf w) x)(oh:@RowsV (nestOf w) _ (@rw_iiiiiiLu (nestOf w)) w ov ox)(ou:∀ x∈ox,@uq_iiiiiiLu (nestOf w) x)(_:(Lit.int .i64 i).wf=true)(jobsh:@RowsV (nestOf w) _ (@rw_iiiii (nestOf w)) w jobsv jobsx)(_:(Lit.int .i64 src).wf=true)(_:(Lit.int .i64 dst).wf=true):Calls Try.prog 3 #[lv,ov,.int .i64 i,jobsv,.int .i64 src,.int .i64 dst] w fun e w'=>e=.returned (.bool true)∧Go.RowKit.Below w.heap.size w w':=by
  letI:Args:={ toNest:=nestOf w,A:=lx,bA:=(winAt lv (lx.map fun _=>0)).1,dA:=(winAt lv (lx.map fun _=>0)).2,cA:=capOf lv,hA:=@RowsV.len (nestOf w) _ _ _ _ _ lh,uA:=lu,B:=ox,bB:=(winAt ov (ox.map fun _=>0)).1,dB:=(winAt ov (ox.map fun _=>0)).2,cB:=capOf ov,hB:=@RowsV.len (nestOf w) _ _ _ _ _ oh,uB:=ou,C:=jobsx,bC:=(winAt jobsv (jobsx.map fun _=>0)).1,dC:=(winAt jobsv (jobsx.map fun _=>0)).2,cC:=capOf jobsv,hC:=@RowsV.len (nestOf w) _ _ _ _ _ jobsh }
  have ht:Ax.TabsOK w.heap.size w:=by
    refine⟨fun g l h=>(nomatch (show (none:Option (List Value))=some l from h)),fun j b d l hj hz w' hk i u hi=>?_⟩
    rcases Nat.lt_or_ge j 64 with hlt | hge
    · have hj:winL j=some (b,d,l):=by rw[←wins_low j hlt]; exact hj
      clear hlt
      match j with
      | 0=>
        have hq:=Option.some.inj (show some ((winAt lv (lx.map fun _=>0)).1,(winAt lv (lx.map fun _=>0)).2,rows rw_iiiiiiLu lx)=some (b,d,l) from hj)
        obtain⟨rfl,hq2⟩:=Prod.mk.inj hq
        obtain⟨rfl,rfl⟩:=Prod.mk.inj hq2
        obtain⟨u,h1,h2⟩:=lh.win w' hk i u hi
        exact⟨u,h1,fun σ=>h2.vr ql_ q1e_ σ⟩
      | 1=>
        have hq:=Option.some.inj (show some ((winAt ov (ox.map fun _=>0)).1,(winAt ov (ox.map fun _=>0)).2,rows rw_iiiiiiLu ox)=some (b,d,l) from hj)
        obtain⟨rfl,hq2⟩:=Prod.mk.inj hq
        obtain⟨rfl,rfl⟩:=Prod.mk.inj hq2
        obtain⟨u,h1,h2⟩:=oh.win w' hk i u hi
        exact⟨u,h1,fun σ=>h2.vr ql_ q1e_ σ⟩
      | 2=>
        have hq:=Option.some.inj (show some ((winAt jobsv (jobsx.map fun _=>0)).1,(winAt jobsv (jobsx.map fun _=>0)).2,rows rw_iiiii jobsx)=some (b,d,l) from hj)
        obtain⟨rfl,hq2⟩:=Prod.mk.inj hq
        obtain⟨rfl,rfl⟩:=Prod.mk.inj hq2
        obtain⟨u,h1,h2⟩:=jobsh.win w' hk i u hi
        exact⟨u,h1,fun σ=>h2.vr ql_ q1e_ σ⟩
      | (k+3)=>exact nomatch (show (none:Option (Nat×Nat×List Value))=some (b,d,l) from hj)
    · have hj:(nestOf w).nest (j-64)=some (b,d,l):=by
        have:=wins_high j hge
        rw[hj] at this
        exact this.symm
      rw[nest_raw (wins_hz j hge hz)] at hj
      obtain⟨u',h1,rfl,h2⟩:=nestOf_cells hj hk i u hi
      exact⟨_,h1,fun σ=>qty_ h2 σ⟩
  obtain⟨n,h⟩:=qy8_ i src dst
  have hg:=qmb_ n i src dst () h
  have hl:=law_ok (P:=Try.prog) (f:=3) (args:=qh9_ i src dst) (args':=[lv,ov,.int .i64 i,jobsv,.int .i64 src,.int .i64 dst]) (k:=0) (B:=.nil) hg (w:=w) (n0:=⟨⟨w.heap.size,fun _=>False⟩,fun _=>False⟩) (σ:=Ren.nil) (.cons (lh.vr (j:=0) rfl rfl _) (.cons (oh.vr (j:=1) rfl rfl _) (.cons (.int .i64 i) (.cons (jobsh.vr (j:=2) rfl rfl _) (.cons (.int .i64 src) (.cons (.int .i64 dst) .nil)))))) (hr_start w ht)
  exact hl.mono fun e w' ⟨h1,σ',h2⟩=>⟨h1,h2.below⟩
end Go.Proofs.Ytdcocjjkfodjeaa.spliceCalls
