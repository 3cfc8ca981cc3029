/-
 Told runs: maps from numbers. Own work, plain lemmas. No condition.
-/
import Derived.Test.YtleifgniphogeaaGreatDoorSxG
set_option linter.unusedSimpArgs false
set_option linter.unusedVariables false
set_option linter.unnecessarySimpa false
set_option linter.deprecated false
set_option linter.unusedSectionVars false
/-! Told runs: maps from numbers. Own work, plain lemmas. -/
namespace Go.Proofs.YtleifgniphogeaaGreatDoor.Ax
open Go.RowKit
def mputL {α:Type}(k:Int)(v:α):List (Int×α)→List (Int×α)
 | []=>[(k,v)]
 | p::l=>if p.1=k then (k,v)::l else p::mputL k v l
def mgetL {α:Type}(k:Int):List (Int×α)→Option α
 | []=>none
 | p::l=>if p.1=k then some p.2 else mgetL k l
theorem mputL_mem {α:Type}{k x:Int}{v:α}:∀ {l:List (Int×α)},x∈(mputL k v l).map Prod.fst→x=k∨x∈l.map Prod.fst
 | [],h=>by simpa [mputL] using h
 | p::l,h=>by
  unfold mputL at h
  split at h
  ·rename_i e
   simp only[List.map_cons,List.mem_cons] at h ⊢
   rcases h with h | h
   ·exact .inl h
   ·exact .inr (.inr h)
  ·simp only[List.map_cons,List.mem_cons] at h ⊢
   rcases h with h | h
   ·exact .inr (.inl h)
   ·rcases mputL_mem h with h | h
    ·exact .inl h
    ·exact .inr (.inr h)
theorem quy_ {α:Type}{k:Int}{v:α}:∀ {l:List (Int×α)},(l.map Prod.fst).Nodup→((mputL k v l).map Prod.fst).Nodup
 | [],_=>by simp[mputL]
 | p::l,h=>by
  unfold mputL
  simp only[List.map_cons,List.nodup_cons] at h
  split
  ·rename_i e
   simp only[List.map_cons,List.nodup_cons]
   exact⟨e ▸ h.1,h.2⟩
  ·rename_i e
   simp only[List.map_cons,List.nodup_cons]
   refine⟨fun hm=>?_,quy_ h.2⟩
   rcases mputL_mem hm with hm | hm
   ·exact e hm
   ·exact h.1 hm
structure MapI (α:Type) where
 l:List (Int×α)
 nd:(l.map Prod.fst).Nodup
def mNil {α:Type}:MapI α:=⟨[],.nil⟩
def mPut {α:Type}(M:MapI α)(k:Int)(v:α):MapI α:=⟨mputL k v M.l,quy_ M.nd⟩
def mGet {α:Type}(M:MapI α)(k:Int):Option α:=mgetL k M.l
def mGetI (M:MapI Int)(k:Int):Int:=(mGet M k).getD 0
def mLen {α:Type}(M:MapI α):Nat:=M.l.length
variable [Tabs]
def mEsL {α:Type}(f:α→Value):Nat→List (Int×α)→List MapEntry
 | _,[]=>[]
 | i,p::l=>⟨.int .i64 p.1,f p.2,i⟩ :: mEsL f (i+1) l
def mEs {α:Type}(f:α→Value)(M:MapI α):List MapEntry:=mEsL f 0 M.l
theorem mEsL_len {α:Type}(f:α→Value):∀ (i:Nat) (l:List (Int×α)),(mEsL f i l).length=l.length
 | _,[]=>rfl
 | i,_::l=>congrArg (· + 1) (mEsL_len f (i+1) l)
theorem mLen_ok {α:Type}(f:α→Value)(M:MapI α):(Value.int .i64 (.ofNat (mEs f M).length))=Value.int .i64 ((mLen M:Nat):Int):=by
 show Value.int .i64 (.ofNat (mEsL f 0 M.l).length)=_
 rw[mEsL_len]
 rfl
abbrev mvI (x:Int):Value:=.int .i64 x
def mpos {α:Type}(k:Int):Nat→List (Int×α)→Option (Nat×α)
 | _,[]=>none
 | j,p::l=>if p.1=k then some (j,p.2) else mpos k (j+1) l
theorem mpos_cons {α:Type}(k:Int)(j:Nat)(p:Int×α)(l:List (Int×α)):mpos k j (p::l)=if p.1=k then some (j,p.2) else mpos k (j+1) l:=rfl
theorem mpos_get {α:Type}{k:Int}:∀ {j:Nat} {l:List (Int×α)},(mpos k j l).map (·.2)=mgetL k l
 | j,[]=>rfl
 | j,p::l=>by
  unfold mpos mgetL
  split
  ·rfl
  ·exact mpos_get
theorem mpos_none {α:Type}{k:Int}:∀ {j:Nat} {l:List (Int×α)},k ∉ l.map Prod.fst→mpos k j l=none
 | j,[],_=>rfl
 | j,p::l,h=>by
  simp only[List.map_cons,List.mem_cons,not_or] at h
  unfold mpos
  rw[if_neg (fun e=>h.1 e.symm)]
  exact mpos_none h.2
theorem qv9_ {α:Type}(f:α→Value){k:Int}:∀ {l:List (Int×α)} (i j:Nat),(l.map Prod.fst).Nodup→findU (.int .i64) (.int .i64 k) (mEsL f i l) j=some ((mpos k j l).map fun p=>(p.1,f p.2))
 | [],i,j,_=>rfl
 | p::l,i,j,h=>by
  simp only[List.map_cons,List.nodup_cons] at h
  show findU _ _ (⟨.int .i64 p.1,f p.2,i⟩ :: mEsL f (i+1) l) j=_
  rw[findU_cons,qv9_ f (i+1) (j+1) h.2]
  have hs:Instr.sameNow (.int .i64) (.int .i64 k) (.int .i64 p.1)=some (k == p.1):=by
   unfold Instr.sameNow
   simp
  show oc (Instr.sameNow (.int .i64) (.int .i64 k) (.int .i64 p.1)) none _=_
  rw[hs,oc_some,oc_some,mpos_cons]
  by_cases e:p.1=k
  ·rw[if_pos e,show (k == p.1)=true by simp[e],sel_true,mpos_none (e ▸ h.1)]
   rfl
  ·rw[if_neg e,show (k == p.1)=false by simp; exact fun h=>e h.symm,sel_false]
theorem mlookI {P:Program}{e:TypeId}(hz:zeroV P e=some (.int .i64 0))(M:MapI Int)(k:Int):∀ H:AH,oc (findU (.int .i64) (.int .i64 k) (mEs mvI M) 0) none (fun r=>quf_ P e false H r)=some (.int .i64 (mGetI M k),H):=fun H=>by
 show oc (findU (.int .i64) (.int .i64 k) (mEsL mvI 0 M.l) 0) none _=_
 rw[qv9_ mvI 0 0 M.nd,oc_some]
 have h:(mpos k 0 M.l).map (·.2)=mGet M k:=mpos_get
 unfold mGetI
 rw[←h]
 cases mpos k 0 M.l with
 | none=>
  show oc (zeroV P e) none _=_
  rw[hz,oc_some]; rfl
 | some p=>rfl
theorem mEsL_put {α:Type}(f:α→Value)(k:Int)(v:α):∀ (l:List (Int×α)) (i j:Nat),mEsL f i (mputL k v l)=match mpos k j l with
  | none=>mEsL f i l ++ [⟨.int .i64 k,f v,i+l.length⟩]
  | some p=>(mEsL f i l).modify (p.1-j) fun e=>{ e with key:=.int .i64 k,val:=f v }
 | [],i,j=>rfl
 | p::l,i,j=>by
  have hj:∀ {j:Nat} {l:List (Int×α)} {q:Nat×α},mpos k j l=some q→j≤q.1:=by
   intro j l
   induction l generalizing j with
   | nil=>intro q h; cases h
   | cons a l ih=>
    intro q h
    unfold mpos at h
    split at h
    ·obtain rfl:=oI h; exact Nat.le_refl _
    ·have:=ih h; omega
  have ih:=mEsL_put f k v l (i+1) (j+1)
  unfold mputL mpos
  by_cases e:p.1=k
  ·rw[if_pos e,if_pos e]
   simp[mEsL]
  ·rw[if_neg e,if_neg e]
   show ⟨.int .i64 p.1,f p.2,i⟩ :: mEsL f (i+1) (mputL k v l)=_
   rw[ih]
   cases h:mpos k (j+1) l with
   | none=>
    show _=(⟨.int .i64 p.1,f p.2,i⟩ :: mEsL f (i+1) l)++_
    simp only[List.length_cons,List.cons_append,show i+1+l.length=i+(l.length+1) by omega]
   | some q=>
    have:=hj h
    show _=(⟨.int .i64 p.1,f p.2,i⟩ :: mEsL f (i+1) l).modify (q.1-j) _
    rw[show q.1-j=(q.1-(j+1))+1 by omega,List.modify_succ_cons]
theorem qtk_ {α:Type}{k:Int}{v:α}:∀ {l:List (Int×α)} {j:Nat},(mputL k v l).length=match mpos k j l with
  | none=>l.length+1
  | some _=>l.length
 | [],j=>rfl
 | p::l,j=>by
  unfold mputL mpos
  by_cases e:p.1=k
  ·rw[if_pos e,if_pos e]; rfl
  ·rw[if_neg e,if_neg e,List.length_cons,qtk_ (l:=l) (j:=j+1)]
   cases mpos k (j+1) l<;>rfl
theorem mput_ok {α:Type}(f:α→Value)(M:MapI α)(k:Int)(v:α):oc (findU (.int .i64) (.int .i64 k) (mEs f M) 0) none (fun r=>some (updEs (mEs f M,mLen M) (.int .i64 k) (f v) r))=some (.map (mEs f (mPut M k v)) (mLen (mPut M k v))):=by
 show oc (findU (.int .i64) (.int .i64 k) (mEsL f 0 M.l) 0) none _=_
 rw[qv9_ f 0 0 M.nd,oc_some]
 show some (updEs (mEsL f 0 M.l,M.l.length) _ _ _)=some (.map (mEsL f 0 (mputL k v M.l)) (mputL k v M.l).length)
 rw[mEsL_put f k v M.l 0 0,qtk_ (l:=M.l) (j:=0)]
 cases mpos k 0 M.l with
 | none=>
  show some (ABlk.map _ _)=_
  rw[Nat.zero_add]
 | some p=>rfl
theorem mflat {α:Type}(f:α→Value)(hf:∀ x,plain (f x)=true)(M:MapI α)(c:Nat):FlatB (.map (mEs f M) c):=by
 show ∀ e∈mEsL f 0 M.l,_
 have:∀ (l:List (Int×α)) (i:Nat),∀ e∈mEsL f i l,plain e.val=true:=by
  intro l
  induction l with
  | nil=>intro i e h; cases h
  | cons a l ih=>
   intro i e h
   rcases List.mem_cons.1 h with rfl | h
   ·exact hf _
   ·exact ih _ e h
 exact this _ _
end Go.Proofs.YtleifgniphogeaaGreatDoor.Ax
namespace Go.Proofs.YtleifgniphogeaaGreatDoor.Ax
open Go.RowKit
variable [Tabs]
theorem HR.less {n0:Bs}{σ:Ren}{H:AH}{w:World}(hr:HR n0 σ H w){t:Tr ABlk}(ht:∀ b x,t.get b=some x→H.blocks.get b=some x):HR n0 σ ⟨t,H.next,H.low⟩ w:=
 ⟨hr.base,fun b x h=>hr.blk b x (ht b x h),fun b₁ b₂ x₁ x₂ c d₁ m₁ d₂ m₂ h1 h2=>hr.inj b₁ b₂ x₁ x₂ c d₁ m₁ d₂ m₂ (ht _ _ h1) (ht _ _ h2),hr.dom,hr.img,hr.hol,hr.frz⟩
theorem CallGo.less {P:Program}{n0:Bs}{σ:Ren}{w:World}{v:Value}{H':AH}{args':Array Value}{g:FuncId}(h:CallGo P n0 σ w v H' args' (.func g)){t:Tr ABlk}(ht:∀ b x,t.get b=some x→H'.blocks.get b=some x):CallGo P n0 σ w v ⟨t,H'.next,H'.low⟩ args' (.func g):=by
 refine⟨h.1,fun n=>CallsIn.mono (h.2 n) ?_⟩
 rintro e w' ⟨v',σ',rfl,q1,q2,q3⟩
 exact⟨v',σ',rfl,q1,q2.less ht,q3⟩
end Go.Proofs.YtleifgniphogeaaGreatDoor.Ax
