/-
 An argument that is a slice of ints, opened as a window. Own work, plain lemmas. No condition.
-/
import Derived.Test.YthlikofobjhcoaaGreatSxG
import Derived.WalkKit
import Derived.ChangeSlices
import Derived.ChangeShapes
import Derived.Below
noncomputable section
namespace Go.Proofs.YthlikofobjhcoaaGreat.Ax
open Go Go.ChangeShapes Go.WideShapes
def IntsV (w:World)(v:Value)(xs:List Int):Prop:=
 ∃ a cap,v=.slice a xs.length cap∧cap≤maxLen∧xs.length≤cap∧(xs=[]∨∃ b off,a=some ⟨b,off,none⟩∧∀ j,j<xs.length→w.cell? ⟨b,off+j,none⟩=some (.int .i64 (xs.getD j 0)))
theorem openIntsT {H:Type}{enc:TypeId×Value→H}{P:Program}{w:World}{held:Bool}{t e:TypeId}{m:Nat}{v:Value}{x:DataW H×List MemPlace}(ht:P.underlying t=some (.slice e))(he:P.underlying e=some (.int .i64))(hc:P.cellsOf e=1)
  (h:DataW.trod enc P w 0 (fun _=>true) held m t [v]=some x):∃ xs,IntsV w v xs∧∀ n∈xs,(Lit.int .i64 n).wf=true:=by
 rcases open_ints ht he hc h with⟨hcs,-⟩ | ⟨a,len,cap,zs,hcs,-,hl,hm,hz,-,hcell,hwz⟩
 ·obtain rfl:v=.slice none 0 0:=by simpa using hcs
  exact⟨[],⟨none,0,rfl,Nat.zero_le _,Nat.zero_le _,.inl rfl⟩,fun n h=>nomatch h⟩
 ·obtain rfl:v=.slice (some a) len cap:=by simpa using hcs
  simp only[if_true] at hz
  have e1:(zs.take len).length=len:=by rw[List.length_take]; omega
  refine⟨zs.take len,⟨some a,cap,by rw[e1],hm,by rw[e1]; omega,?_⟩,fun n h=>hwz n (List.mem_of_mem_take h)⟩
  by_cases hlen:len=0
  ·exact .inl (by simp[hlen])
  obtain⟨b,off,spot⟩:=a
  have hspot:spot=none:=by simpa [Addr.add] using World.cell?_spot (hcell 0 (by omega))
  subst hspot
  refine .inr ⟨b,off,rfl,fun j hj=>?_⟩
  rw[e1] at hj
  have ha:(⟨b,off,none⟩:Addr).add j=⟨b,off+j,none⟩:=by
   unfold Addr.add
   split
   ·rename_i h; subst h; rfl
   ·rfl
  rw[←ha,hcell j (by omega)]
  simp[List.getD_eq_getElem?_getD,hj]
def winAt (v:Value)(xs:List Int):Nat×Nat:=
 match v,xs with
 | .slice (some a) _ _,_::_=>(a.block,a.off)
 | _,_=>(0,0)
def capOf (v:Value):Nat:=
 match v with
 | .slice _ _ k=>k
 | _=>0
theorem IntsV.win {w:World}{v:Value}{xs:List Int}(h:IntsV w v xs)(w':World)(hk:(winAt v xs).1<w.heap.size→w'.heap[(winAt v xs).1]?=w.heap[(winAt v xs).1]?)(i:Nat)(u:Value)(hi:(iv xs)[i]?=some u) :
  w'.cell? ⟨(winAt v xs).1,(winAt v xs).2+i,none⟩=some u:=by
 obtain⟨a,cap,rfl,hc,hl,h⟩:=h
 have hi':i<xs.length∧u=.int .i64 (xs.getD i 0):=by
  simp only[iv,List.getElem?_map,Option.map_eq_some_iff] at hi
  obtain⟨z,hz,rfl⟩:=hi
  have hlt:i<xs.length:=by
   rcases Nat.lt_or_ge i xs.length with h | h
   ·exact h
   ·rw[List.getElem?_eq_none h] at hz; cases hz
  exact⟨hlt,by rw[List.getD_eq_getElem?_getD,hz]; rfl⟩
 obtain⟨hlt,rfl⟩:=hi'
 rcases h with rfl | ⟨b,off,rfl,hx⟩
 ·exact absurd hlt (Nat.not_lt_zero _)
 ·cases xs with
  | nil=>exact absurd hlt (Nat.not_lt_zero _)
  | cons z l=>
   have hx:=hx i hlt
   have hb:b<w.heap.size:=World.block_lt_of_cell? w _ hx
   have hk:=hk hb
   show w'.cell? ⟨b,off+i,none⟩=_
   have hk:w'.heap[b]?=w.heap[b]?:=hk
   rw[←hx]
   simp only[World.cell?,hk]
theorem IntsV.len {w:World}{v:Value}{xs:List Int}(h:IntsV w v xs):xs.length≤9223372036854775807:=by
 obtain⟨a,cap,rfl,hc,hl,-⟩:=h
 exact Nat.le_trans (Nat.le_trans hl hc) (by decide)
theorem IntsV.vr {T:Tabs}{w:World}{v:Value}{xs:List Int}(h:IntsV w v xs){j:Nat}(hj:Tabs.win j=some ((winAt v xs).1,(winAt v xs).2,iv xs))(hz:Tabs.frz j=false)(σ:Ren):VR σ (.slice (some ⟨j,0,some 1⟩) xs.length (capOf v)) v:=by
 obtain⟨a,cap,rfl,hc,hl,h⟩:=h
 have hb:cap<big:=Nat.lt_of_le_of_lt hc (by decide)
 rcases h with rfl | ⟨b,off,rfl,hx⟩
 ·exact .win0 j 0 cap a hb
 ·cases xs with
  | nil=>exact .win0 j 0 cap _ hb
  | cons z l=>
   have:=VR.winS (σ:=σ) 0 (z::l).length cap (.arg hj hz) hb hl
   exact this
end Go.Proofs.YthlikofobjhcoaaGreat.Ax
