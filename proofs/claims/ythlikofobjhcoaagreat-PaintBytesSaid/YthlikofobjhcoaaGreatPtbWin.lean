/-
 Arguments that are slices of ints, as windows. No condition.
-/
import Derived.Test.YthlikofobjhcoaaGreatSxG
import Derived.Test.YthlikofobjhcoaaGreatTabs0
import Derived.Test.YthlikofobjhcoaaGreatProg
import Derived.Test.YthlikofobjhcoaaGreatBits
import Derived.Test.YthlikofobjhcoaaGreatNestArg
import Derived.KernelRfl
set_option linter.unusedSimpArgs false
set_option linter.unusedVariables false
set_option linter.unusedSectionVars false
set_option linter.unnecessarySimpa false
namespace Go.Proofs.YthlikofobjhcoaaGreat.ptb28
open Go Go.Proofs.YthlikofobjhcoaaGreat Ax
noncomputable abbrev P:Program:=Tryz.prog
theorem hm:P.follows .mixedOrders=true:=by kernel_rfl
def rw_iLii [Nest](x:Int×NL×Int×Int):List Value:=[Value.int .i64 (x.1),nlV (x.2.1),Value.int .i64 (x.2.2.1),Value.int .i64 (x.2.2.2)]
theorem rwf_iLii [Nest]:RowF rw_iLii 4:=⟨fun _=>rfl,fun a v h=>by
 simp only[rw_iLii,List.mem_cons,List.not_mem_nil,or_false] at h
 rcases h with rfl | rfl | rfl | rfl<;>rfl,fun _=>rfl⟩
def ks_iLii:List LK:=[.i,.L,.i,.i]
theorem dec_ok_iLii {w:World}(cs:List Value)(h:okL w ks_iLii cs):∃ a,@CRs (nestOf w) w (@rw_iLii (nestOf w) a) cs:=by
 letI:Nest:=nestOf w
 match cs,h with
 | _,.cons h0 (.cons h1 (.cons h2 (.cons h3 .nil)))=>
  obtain⟨x0,rfl⟩:=h0
  obtain⟨xs1,h1,hb1,hq1⟩:=h1
  obtain⟨x1,hl1,hx1⟩:=CR.ints h1 hb1
  obtain⟨x2,rfl⟩:=h2
  obtain⟨x3,rfl⟩:=h3
  exact⟨(x0,x1,x2,x3),(.cons (.inl ⟨rfl,rfl⟩) (.cons hx1 (.cons (.inl ⟨rfl,rfl⟩) (.cons (.inl ⟨rfl,rfl⟩) .nil))))⟩
def rw_iiiiiiLu [Nest](x:Int×Int×Int×Int×Int×Int×NL×Int):List Value:=[Value.int .i64 (x.1),Value.int .i64 (x.2.1),Value.int .i64 (x.2.2.1),Value.int .i64 (x.2.2.2.1),Value.int .i64 (x.2.2.2.2.1),Value.int .i64 (x.2.2.2.2.2.1),nlV (x.2.2.2.2.2.2.1),Value.int .u64 (x.2.2.2.2.2.2.2)]
theorem rwf_iiiiiiLu [Nest]:RowF rw_iiiiiiLu 8:=⟨fun _=>rfl,fun a v h=>by
 simp only[rw_iiiiiiLu,List.mem_cons,List.not_mem_nil,or_false] at h
 rcases h with rfl | rfl | rfl | rfl | rfl | rfl | rfl | rfl<;>rfl,fun _=>rfl⟩
def ks_iiiiiiLu:List LK:=[.i,.i,.i,.i,.i,.i,.L,.u]
theorem dec_ok_iiiiiiLu {w:World}(cs:List Value)(h:okL w ks_iiiiiiLu cs):∃ a,@CRs (nestOf w) w (@rw_iiiiiiLu (nestOf w) a) cs:=by
 letI:Nest:=nestOf w
 match cs,h with
 | _,.cons h0 (.cons h1 (.cons h2 (.cons h3 (.cons h4 (.cons h5 (.cons h6 (.cons h7 .nil)))))))=>
  obtain⟨x0,rfl⟩:=h0
  obtain⟨x1,rfl⟩:=h1
  obtain⟨x2,rfl⟩:=h2
  obtain⟨x3,rfl⟩:=h3
  obtain⟨x4,rfl⟩:=h4
  obtain⟨x5,rfl⟩:=h5
  obtain⟨xs6,h6,hb6,hq6⟩:=h6
  obtain⟨x6,hl6,hx6⟩:=CR.ints h6 hb6
  obtain⟨x7,rfl,-⟩:=h7
  exact⟨(x0,x1,x2,x3,x4,x5,x6,x7),(.cons (.inl ⟨rfl,rfl⟩) (.cons (.inl ⟨rfl,rfl⟩) (.cons (.inl ⟨rfl,rfl⟩) (.cons (.inl ⟨rfl,rfl⟩) (.cons (.inl ⟨rfl,rfl⟩) (.cons (.inl ⟨rfl,rfl⟩) (.cons hx6 (.cons (.inl ⟨rfl,rfl⟩) .nil))))))))⟩
class Args extends Nest where
 A:List (Int×Int×Int×Int×Int×Int×NL×Int)
 bA:Nat
 dA:Nat
 cA:Nat
 hA:A.length≤9223372036854775807
 B:List (Int×NL×Int×Int)
 bB:Nat
 dB:Nat
 cB:Nat
 hB:B.length≤9223372036854775807
noncomputable def winL [Args](j:Nat):Option (Nat×Nat×List Value):=match j with
  | 0=>some (Args.bA,Args.dA,rows rw_iiiiiiLu Args.A)
  | 1=>some (Args.bB,Args.dB,rows rw_iLii Args.B)
  | _=>none
noncomputable instance wins [Args]:Ax.Tabs:={ tab:=fun _=>none,win:=fun j=>cond (Nat.blt j 64) (winL j) (Nest.nest (Nat.sub j 64)),frz:=fun j=>cond (Nat.blt j 64) false (Nat.beq (Nat.mod (Nat.sub j 64) 2) 1) }
theorem wins_even [Args](k:Nat)(h:k % 2=0):Ax.Tabs.frz (Nat.add k 64)=false:=by
 show cond (Nat.blt (Nat.add k 64) 64) false (Nat.beq (Nat.mod (Nat.sub (Nat.add k 64) 64) 2) 1)=_
 rw[show Nat.blt (Nat.add k 64) 64=false from blt_no (by show ¬ k+64<64; omega),show Nat.sub (Nat.add k 64) 64=k from (by show k+64-64=k; omega),show Nat.mod k 2=0 from h]
 rfl
theorem qsp_ [Args](k:Nat)(h:k % 2=1):Ax.Tabs.frz (Nat.add k 64)=true:=by
 show cond (Nat.blt (Nat.add k 64) 64) false (Nat.beq (Nat.mod (Nat.sub (Nat.add k 64) 64) 2) 1)=_
 rw[show Nat.blt (Nat.add k 64) 64=false from blt_no (by show ¬ k+64<64; omega),show Nat.sub (Nat.add k 64) 64=k from (by show k+64-64=k; omega),show Nat.mod k 2=1 from h]
 rfl
theorem wins_hz [Args](j:Nat)(h:64≤j)(hz:Ax.Tabs.frz j=false):(j-64) % 2=0:=by
 have hz:cond (Nat.blt j 64) false (Nat.beq (Nat.mod (Nat.sub j 64) 2) 1)=false:=hz
 rw[blt_no (by omega)] at hz
 have hz:Nat.beq ((j-64) % 2) 1=false:=hz
 rcases Nat.mod_two_eq_zero_or_one (j-64) with e | e
 ·exact e
 ·rw[e] at hz; cases hz
theorem qip_ [Args](k:Nat)(y:Nat×Nat×List Value)(h:Nest.nest k=some y):Ax.Tabs.win (Nat.add k 64)=some y:=by
 show cond (Nat.blt (Nat.add k 64) 64) (winL (Nat.add k 64)) (Nest.nest (Nat.sub (Nat.add k 64) 64))=_
 rw[show Nat.blt (Nat.add k 64) 64=false from blt_no (by show ¬ k+64<64; omega),show Nat.sub (Nat.add k 64) 64=k from (by show k+64-64=k; omega)]
 exact h
theorem wins_low [Args](j:Nat)(h:j<64):Ax.Tabs.win j=winL j:=by
 show cond (Nat.blt j 64) (winL j) (Nest.nest (Nat.sub j 64))=_
 rw[blt_yes h]
 rfl
theorem wins_high [Args](j:Nat)(h:64≤j):Ax.Tabs.win j=Nest.nest (j-64):=by
 show cond (Nat.blt j 64) (winL j) (Nest.nest (Nat.sub j 64))=_
 rw[blt_no (by omega)]
 rfl
theorem ldN [Args]{P:Program}{t:TypeId}{i:Nat}(x:NL)(ha:aggB P t=some false)(h:i<x.l.length):loadG P t (.pointer (some ⟨Nat.add x.num 64,Nat.add x.off i,some 1⟩)) Ax.h0=some (.int .i64 (x.l.getD i 0),Ax.h0):=by
 rcases x.ok with e | ⟨b,d,R,e,h2⟩
 ·rw[e] at h; exact absurd h (Nat.not_lt_zero _)
 ·unfold loadG
  rw[show qzz_ (.pointer (some ⟨Nat.add x.num 64,Nat.add x.off i,some 1⟩))=none from rfl,oc_none]
  unfold loadW
  rw[show winOf (.pointer (some ⟨Nat.add x.num 64,Nat.add x.off i,some 1⟩))=some (Nat.add x.num 64,Nat.add x.off i) from rfl,oc_some,qip_ _ _ e,oc_some,ha,oc_some,sel_false]
  have h3:(iv x.l)[i]?=some (.int .i64 (x.l.getD i 0)):=by simp[iv,h]
  show oc (R[Nat.add x.off i]?) none _=_
  rw[show R[Nat.add x.off i]?=_ from (q0f_ h2).2 i _ h3,oc_some]
noncomputable def frzR [Args]{α:Type}{f:α→List Value}(hf:∀ a,okVs (f a)=true)(l:List α)(h:l.length≤9223372036854775807):WL f:=⟨Nat.add (2*codL (rows f l)+1) 64,0,Nat.add big l.length,l,.inr ⟨0,0,_,qip_ _ _ (q1v_ (q1u_ hf l)),qwx_ _ _ _ rfl fun j _=>by rw[Nat.zero_add]⟩,h⟩
noncomputable def wA [Args]:WL rw_iiiiiiLu:=⟨0,0,Args.cA,Args.A,.inr ⟨Args.bA,Args.dA,_,rfl,qwx_ _ _ _ rfl fun j _=>by rw[Nat.zero_add]⟩,Args.hA⟩
noncomputable def wB [Args]:WL rw_iLii:=⟨1,0,Args.cB,Args.B,.inr ⟨Args.bB,Args.dB,_,rfl,qwx_ _ _ _ rfl fun j _=>by rw[Nat.zero_add]⟩,Args.hB⟩
theorem oB {α β:Type}{x:Option α}{f:α→Option β}{b:β}(h:x.bind f=some b):∃ a,x=some a∧f a=some b:=Option.bind_eq_some_iff.1 h
theorem gd {α:Type}{C:Prop}[Decidable C]{x:Option α}{r:α}(h:(if C then x else none)=some r):C∧x=some r:=by
  by_cases c:C
  · rw[if_pos c] at h; exact⟨c,h⟩
  · rw[if_neg c] at h; cases h
end Go.Proofs.YthlikofobjhcoaaGreat.ptb28
