/-
  viewportlaw19.MarksWhole gives true whatever its arguments are, and leaves what was there. No condition.
-/
import Derived.Test.YtleifgniphogeaaGreatDoorMwhPure
import Derived.Test.YtleifgniphogeaaGreatDoorNestArg
set_option linter.unusedSimpArgs false
set_option linter.unusedVariables false
set_option linter.unusedSectionVars false
set_option linter.unnecessarySimpa false
namespace Go.Proofs.YtleifgniphogeaaGreatDoor.marksWhole
open Go Go.Proofs.YtleifgniphogeaaGreatDoor Ax Go.Proofs.YtleifgniphogeaaGreatDoor.mwh19
theorem iv_fl {l:List Int}:∀ {v:Value},v∈iv l→flat v=true:=fun h=>by
  obtain⟨z,_,rfl⟩:=List.mem_map.1 h
  rfl
theorem qt8_ (w:World)(lv:Value)(lx:List (Int×Int×Int×Int×Int×Int×@NL (nestOf w)×Int))(i met:Int)(lh:@RowsV (nestOf w) _ (@rw_iiiiiiLu (nestOf w)) w lv lx)(_:(Lit.int .i64 i).wf=true)(_:(Lit.int .u64 met).wf=true):Calls Tryz.prog 3 #[lv,.int .i64 i,.int .u64 met] w fun e w'=>e=.returned (.bool true)∧Go.RowKit.Below w.heap.size w w':=by
  letI:Args:={ toNest:=nestOf w,A:=lx,bA:=(winAt lv (lx.map fun _=>0)).1,dA:=(winAt lv (lx.map fun _=>0)).2,cA:=capOf lv,hA:=@RowsV.len (nestOf w) _ _ _ _ _ lh }
  have ht:Ax.TabsOK w.heap.size w:=by
    refine⟨fun g l h=>(nomatch (show (none:Option (List Value))=some l from h)),fun j b d l hj hz w' hk i u hi=>?_⟩
    rcases Nat.lt_or_ge j 64 with hlt | hge
    · have hj:winL j=some (b,d,l):=by rw[←wins_low j hlt]; exact hj
      clear hlt
      match j with
      | 0=>
        have hq:=Option.some.inj (show some ((winAt lv (lx.map fun _=>0)).1,(winAt lv (lx.map fun _=>0)).2,rows rw_iiiiiiLu lx)=some (b,d,l) from hj)
        obtain⟨rfl,hq2⟩:=Prod.mk.inj hq
        obtain⟨rfl,rfl⟩:=Prod.mk.inj hq2
        obtain⟨u,h1,h2⟩:=lh.win w' hk i u hi
        exact⟨u,h1,fun σ=>h2.vr qob_ wins_even σ⟩
      | (k+1)=>exact nomatch (show (none:Option (Nat×Nat×List Value))=some (b,d,l) from hj)
    · have hj:(nestOf w).nest (j-64)=some (b,d,l):=by
        have:=wins_high j hge
        rw[hj] at this
        exact this.symm
      rw[nest_raw (wins_hz j hge hz)] at hj
      obtain⟨u',h1,rfl,h2⟩:=nestOf_cells hj hk i u hi
      exact⟨_,h1,fun σ=>qky_ h2 σ⟩
  obtain⟨n,h⟩:=qt7_ i met
  have hg:=qkt_ n i met () h
  have hl:=law_ok (P:=Tryz.prog) (f:=3) (args:=qej_ i met) (args':=[lv,.int .i64 i,.int .u64 met]) (k:=0) (B:=.nil) hg (w:=w) (n0:=⟨⟨w.heap.size,fun _=>False⟩,fun _=>False⟩) (σ:=Ren.nil) (.cons (lh.vr (j:=0) rfl rfl _) (.cons (.int .i64 i) (.cons (.int .u64 met) .nil))) (hr_start w ht)
  exact hl.mono fun e w' ⟨h1,σ',h2⟩=>⟨h1,h2.below⟩
end Go.Proofs.YtleifgniphogeaaGreatDoor.marksWhole
