/-
 Values and blocks under other numbers. Own work, plain lemmas.
-/
import Derived.Test.YtleifgniphogeaaGreatDoorAx5
import Derived.Maps.RangeRun
import Derived.RecoverIn
set_option linter.unusedSimpArgs false
set_option linter.unusedVariables false
set_option linter.unnecessarySimpa false
set_option linter.deprecated false
set_option linter.unusedSectionVars false
/-! Values and blocks under other numbers. Own work, plain lemmas. -/
namespace Go.Proofs.YtleifgniphogeaaGreatDoor.Ax
open Go.RowKit
variable [Tabs]
noncomputable def mapO {α β:Type}(f:α→Option β)(l:List α):Option (List β):=
 @List.rec α (fun _=>Option (List β)) (some []) (fun a _ ih=>oc (f a) none fun x=>oc ih none fun r=>some (x::r)) l
theorem qvw_ {α β:Type}(f:α→Option β)(a:α)(l:List α):mapO f (a::l)=oc (f a) none fun x=>oc (mapO f l) none fun r=>some (x::r):=rfl
structure Kap where
 f:Nat→Option Nat
 φ:Nat→Option Nat
 ν:Bool
 μ:Nat→Bool
instance:CoeFun Kap (fun _=>Nat→Option Nat):=⟨Kap.f⟩
instance:Coe (Nat→Option Nat) Kap:=⟨fun f=>⟨f,fun _=>none,false,fun _=>false⟩⟩
structure RenOK (κ:Kap) (σ σ':Ren):Prop where
 f:∀ b b',κ b=some b'→∀ t,σ b=some t→σ' b'=some t
 z:∀ j c d,σ.z j c d→σ'.z j c d
 φ:∀ b j,κ.φ b=some j→Tabs.frz j=true∧∀ c d m,σ b=some (c,d,m)→σ'.z j c d
theorem RenOK.plain {f:Nat→Option Nat}{σ σ':Ren}(h:∀ b b',f b=some b'→∀ t,σ b=some t→σ' b'=some t)(hz:∀ j c d,σ.z j c d→σ'.z j c d):RenOK f σ σ':=⟨h,hz,fun b j hj=>by cases hj⟩
instance {κ:Kap} {σ σ':Ren}:CoeFun (RenOK κ σ σ') (fun _=>∀ b b',κ b=some b'→∀ t,σ b=some t→σ' b'=some t):=⟨RenOK.f⟩
theorem WinAt.zmono {σ σ':Ren}(h:∀ j c d,σ.z j c d→σ'.z j c d){j b d:Nat}(hw:WinAt σ j b d):WinAt σ' j b d:=by
 cases hw with
 | arg h1 hz=>exact .arg h1 hz
 | frz hz h1=>exact .frz hz (h _ _ _ h1)
noncomputable def renA (κ:Kap)(a:Addr):Option Addr:=oc a.spot (oc (κ a.block) none fun b=>some ⟨b,a.off,none⟩) fun _=>some a
noncomputable def frzA (κ:Kap)(a:Addr):Option Nat:=oc a.spot (κ.φ a.block) fun _=>none
noncomputable def frzS (j o n:Nat):Option Value:=some (.slice (some ⟨j,o,some 1⟩) n (Nat.add big n))
noncomputable def renFn (κ:Kap)(f:Fn):Option Fn:=
 match f with
 | .func g=>some (.func g)
 | .method s=>some (.method s)
 | .yield l=>oc (κ l) none fun b=>some (.yield b)
 | _=>none
def nil0:Value:=.slice (some ⟨64,0,some 1⟩) 0 0
noncomputable def nilE (f:Value→Option Value)(v:Value):Option Value:=
 match v with
 | .slice none 0 0=>some nil0
 | v=>f v
noncomputable def renN (κ:Kap)(f:Value→Option Value)(v:Value):Option Value:=
 match v with
 | .bool b=>some (.bool b)
 | .int k n=>some (.int k n)
 | .string s=>some (.string s)
 | .pointer a=>oc a (some (.pointer none)) fun a=>oc (renA κ a) none fun a=>some (.pointer (some a))
 | .slice a n k=>oc a (some (.slice none n k)) fun a=>oc (frzA κ a) (oc (renA κ a) none fun a=>some (.slice (some a) n k)) fun j=>frzS j a.off n
 | .map r=>oc r (some (.map none)) fun b=>oc (κ b) none fun b=>some (.map (some b))
 | .chan r=>oc r (some (.chan none)) fun _=>none
 | .float k n=>some (.float k n)
 | .nilFunc=>some .nilFunc
 | .nilIface=>some .nilIface
 | .iface t v=>oc (f v) none fun u=>some (.iface t u)
 | .agg x=>oc (mapO (@Bool.rec (fun _=>Value→Option Value) f (nilE f) κ.ν) x.toList) none fun l=>some (.agg ⟨l⟩)
 | .tuple x=>oc (mapO f x.toList) none fun l=>some (.tuple ⟨l⟩)
 | .func g x y=>oc (renFn κ g) none fun g=>oc (mapO f x.toList) none fun l=>oc (mapO f y.toList) none fun k=>some (.func g ⟨l⟩ ⟨k⟩)
 | _=>none
noncomputable def renV (κ:Kap)(n:Nat):Value→Option Value:=@Nat.rec (fun _=>Value→Option Value) (fun _=>none) (fun _ ih=>renN κ ih) n
theorem qq6_ {σ σ':Ren}{f:Value→Option Value}(hf:∀ v u v',f v=some u→VR σ v v'→VR σ' u v'):∀ {l k l':List Value},mapO f l=some k→VRs σ l l'→VRs σ' k l'
 | [],k,l',h,hl=>by obtain rfl:=oI h; cases hl; exact .nil
 | v::l,k,l',h,hl=>by
  rw[qvw_] at h
  obtain⟨x,hx,h⟩:=oS h
  obtain⟨r,hr,h⟩:=oS h
  obtain rfl:=oI h
  cases hl with
  | cons h1 h2=>exact .cons (hf _ _ _ hx h1) (qq6_ hf hr h2)
theorem renFn_r {κ:Kap}{σ σ':Ren}(hκ:RenOK κ σ σ'){f g f':Fn}(h:renFn κ f=some g)(hf:FnR σ f f'):FnR σ' g f':=by
 cases hf with
 | func f=>obtain rfl:=oI h; exact .func f
 | method s=>obtain rfl:=oI h; exact .method s
 | yield hl=>
  obtain⟨b,hb,h⟩:=oS h
  obtain rfl:=oI h
  exact .yield (hκ _ _ hb _ hl)
theorem qlw_ {κ:Kap}{σ σ':Ren}(hκ:RenOK κ σ σ'):∀ (n:Nat) (v u v':Value),renV κ n v=some u→VR σ v v'→VR σ' u v':=by
 intro n
 induction n with
 | zero=>intro v u v' h; cases h
 | succ n ih=>
  intro v u v' h hv
  have h:renN κ (renV κ n) v=some u:=h
  cases hv with
  | bool b=>obtain rfl:=oI h; exact .bool b
  | int k m=>obtain rfl:=oI h; exact .int k m
  | float k m=>obtain rfl:=oI h; exact .float k m
  | string s=>obtain rfl:=oI h; exact .string s
  | ptr0=>obtain rfl:=oI h; exact .ptr0
  | any w=>obtain rfl:=oI h; exact .any _
  | zeros n=>cases h
  | glob g o=>obtain rfl:=oI h; exact .glob g o
  | win o hj=>obtain rfl:=oI h; exact .win o (hj.zmono hκ.z)
  | winS o m k hj hk hn=>obtain rfl:=oI h; exact .winS o m k (hj.zmono hκ.z) hk hn
  | winU o m k kk hj hn hk=>obtain rfl:=oI h; exact .winU o m k kk (hj.zmono hκ.z) hn hk
  | winU0 j o k kk a hk=>obtain rfl:=oI h; exact .winU0 j o k kk a hk
  | win0 j o k a hk=>obtain rfl:=oI h; exact .win0 j o k a hk
  | ptr o hb=>
   obtain⟨a,ha,h⟩:=oS h
   obtain rfl:=oI h
   obtain⟨b',hb',ha⟩:=oS ha
   obtain rfl:=oI ha
   exact .ptr o (hκ _ _ hb' _ hb)
  | slice0 m k=>obtain rfl:=oI h; exact .slice0 m k
  | @slice b c d mm o m k hb hk hn9=>
   have h:oc (frzA κ ⟨b,o,none⟩) (oc (renA κ ⟨b,o,none⟩) none fun a=>some (.slice (some a) m k)) (fun j=>frzS j o m)=some u:=h
   cases hφ:κ.φ b with
   | none=>
    rw[show frzA κ ⟨b,o,none⟩=none from hφ,oc_none] at h
    obtain⟨a,ha,h⟩:=oS h
    obtain rfl:=oI h
    obtain⟨b',hb',ha⟩:=oS ha
    obtain rfl:=oI ha
    exact .slice o m k (hκ _ _ hb' _ hb) hk hn9
   | some j=>
    rw[show frzA κ ⟨b,o,none⟩=some j from hφ,oc_some] at h
    obtain⟨hz,hc⟩:=hκ.φ b j hφ
    obtain rfl:=oI h
    exact .winU o m k _ (.frz hz (hc _ _ _ hb)) hn9 (Nat.le_refl _)
  | @sliceU b c d mm o o' m k' es hb hk ho hd hm he=>
   have h:oc (frzA κ ⟨b,o,none⟩) (oc (renA κ ⟨b,o,none⟩) none fun a=>some (.slice (some a) m (big+es))) (fun j=>frzS j o m)=some u:=h
   cases hφ:κ.φ b with
   | none=>
    rw[show frzA κ ⟨b,o,none⟩=none from hφ,oc_none] at h
    obtain⟨a,ha,h⟩:=oS h
    obtain rfl:=oI h
    obtain⟨b',hb',ha⟩:=oS ha
    obtain rfl:=oI ha
    exact .sliceU o o' m k' es (hκ _ _ hb' _ hb) hk ho hd hm he
   | some j=>
    rw[show frzA κ ⟨b,o,none⟩=some j from hφ,oc_some] at h
    obtain⟨hz,hc⟩:=hκ.φ b j hφ
    obtain rfl:=oI h
    rcases ho with rfl | rfl
    ·exact .winU0 _ _ _ _ _ (Nat.le_add_right _ _)
    ·exact .winU o m k' _ (.frz hz (hc _ _ _ hb)) hk (Nat.le_refl _)
  | @sliceL b c d mm o m k' es lb hb hk hl hm he=>
   have h:oc (frzA κ ⟨b,o,none⟩) (oc (renA κ ⟨b,o,none⟩) none fun a=>some (.slice (some a) m (bigL es lb))) (fun j=>frzS j o m)=some u:=h
   cases hφ:κ.φ b with
   | none=>
    rw[show frzA κ ⟨b,o,none⟩=none from hφ,oc_none] at h
    obtain⟨a,ha,h⟩:=oS h
    obtain rfl:=oI h
    obtain⟨b',hb',ha⟩:=oS ha
    obtain rfl:=oI ha
    exact .sliceL o m k' es lb (hκ _ _ hb' _ hb) hk hl hm he
   | some j=>
    rw[show frzA κ ⟨b,o,none⟩=some j from hφ,oc_some] at h
    obtain⟨hz,hc⟩:=hκ.φ b j hφ
    obtain rfl:=oI h
    exact .winU o m k' _ (.frz hz (hc _ _ _ hb)) hk (Nat.le_refl _)
  | map0=>obtain rfl:=oI h; exact .map0
  | map hb=>
   obtain⟨b',hb',h⟩:=oS h
   obtain rfl:=oI h
   exact .map (hκ _ _ hb' _ hb)
  | func hf hx hxs hy hys=>
   obtain⟨g,hg,h⟩:=oS h
   obtain⟨l,hl,h⟩:=oS h
   obtain⟨k,hk,h⟩:=oS h
   obtain rfl:=oI h
   exact VRs.func (renFn_r hκ hg hf) (qq6_ ih hl (VRs.arr hx hxs)) (qq6_ ih hk (VRs.arr hy hys))
  | nilFunc=>obtain rfl:=oI h; exact .nilFunc
  | iface t hv=>
   obtain⟨x,hx,h⟩:=oS h
   obtain rfl:=oI h
   exact .iface t (ih _ _ _ hx hv)
  | nilIface=>obtain rfl:=oI h; exact .nilIface
  | agg hx hxs=>
   obtain⟨l,hl,h⟩:=oS h
   obtain rfl:=oI h
   cases hν:κ.ν with
   | false=>
    rw[hν] at hl
    exact VRs.agg (qq6_ ih hl (VRs.arr hx hxs))
   | true=>
    rw[hν] at hl
    refine VRs.agg (qq6_ (f:=nilE (renV κ n)) (fun v u v' h1 h2=>?_) hl (VRs.arr hx hxs))
    unfold nilE at h1
    split at h1
    ·obtain rfl:=oI h1
     cases h2
     exact .win0 64 0 0 none (by decide)
    ·exact ih v u v' h1 h2
  | tuple hx hxs=>
   obtain⟨l,hl,h⟩:=oS h
   obtain rfl:=oI h
   exact VRs.tuple (qq6_ ih hl (VRs.arr hx hxs))
theorem nilE_vr {σ σ':Ren}{f:Value→Option Value}(hf:∀ v u v',f v=some u→VR σ v v'→VR σ' u v')(b:Bool):∀ v u v',(@Bool.rec (fun _=>Value→Option Value) f (nilE f) b) v=some u→VR σ v v'→VR σ' u v':=by
 cases b with
 | false=>exact hf
 | true=>
  intro v u v' h1 h2
  have h1:nilE f v=some u:=h1
  unfold nilE at h1
  split at h1
  ·obtain rfl:=oI h1
   cases h2
   exact .win0 64 0 0 none (by decide)
  ·exact hf v u v' h1 h2
noncomputable def mapT (f:Value→Option Value)(t:Tr Value):Option (Tr Value):=
 @Tr.rec Value (fun _=>Option (Tr Value)) (some .nil) (fun _ v _ ihl ihr=>oc ihl none fun l=>oc ihr none fun r=>oc v (some (.node l none r)) fun x=>oc (f x) none fun y=>some (.node l (some y) r)) t
theorem mapT_node (f:Value→Option Value)(l:Tr Value)(v:Option Value)(r:Tr Value):mapT f (.node l v r)=oc (mapT f l) none fun l=>oc (mapT f r) none fun r=>oc v (some (.node l none r)) fun x=>oc (f x) none fun y=>some (.node l (some y) r):=rfl
theorem qta_ {f:Value→Option Value}:∀ {t t':Tr Value},mapT f t=some t'→∀ n,(t.get n=none∧t'.get n=none)∨∃ x y,t.get n=some x∧t'.get n=some y∧f x=some y
 | .nil,t',h,n=>by obtain rfl:=oI h; exact .inl ⟨rfl,rfl⟩
 | .node l v r,t',h,n=>by
  rw[mapT_node] at h
  obtain⟨l',hl,h⟩:=oS h
  obtain⟨r',hr,h⟩:=oS h
  have hl':=qta_ hl (n / 2)
  have hr':=qta_ hr (n / 2-1)
  cases v with
  | none=>
   obtain rfl:=oI h
   rw[Tr.get_node,Tr.get_node]
   by_cases h0:n=0
   ·rw[if_pos h0,if_pos h0]; exact .inl ⟨rfl,rfl⟩
   ·rw[if_neg h0,if_neg h0]
    by_cases h1:n % 2=1
    ·rw[if_pos h1,if_pos h1]; exact hl'
    ·rw[if_neg h1,if_neg h1]; exact hr'
  | some x=>
   obtain⟨y,hy,h⟩:=oS h
   obtain rfl:=oI h
   rw[Tr.get_node,Tr.get_node]
   by_cases h0:n=0
   ·rw[if_pos h0,if_pos h0]; exact .inr ⟨x,y,rfl,rfl,hy⟩
   ·rw[if_neg h0,if_neg h0]
    by_cases h1:n % 2=1
    ·rw[if_pos h1,if_pos h1]; exact hl'
    ·rw[if_neg h1,if_neg h1]; exact hr'
def stayV (v:Value):Bool:=
 match v with
 | .slice (some ⟨_,_,some 1⟩) _ _=>true
 | v=>flat v
theorem stay_vr {v v':Value}(h:stayV v=true){σ σ':Ren}(hz:∀ j c d,σ.z j c d→σ'.z j c d)(hv:VR σ v v'):VR σ' v v':=by
 unfold stayV at h
 split at h
 ·rename_i b o n k
  cases hv with
  | winS _ _ _ hj hk hn=>exact .winS _ _ _ (hj.zmono hz) hk hn
  | win0 _ _ _ a hk=>exact .win0 _ _ _ a hk
  | winU _ _ _ _ hj hn hk=>exact .winU _ _ _ _ (hj.zmono hz) hn hk
  | winU0 _ _ _ _ a hk=>exact .winU0 _ _ _ _ a hk
 ·have:=qd8_ h hv
  subst this
  exact qky_ h σ'
def FlatC (c:Tr Value):Prop:=∀ i v,c.get i=some v→stayV v=true
def FlatB (x:ABlk):Prop:=
 match x with
 | .cells c _=>FlatC c
 | .map es _=>∀ e∈es,plain e.val=true
 | _=>False
theorem plain_stay {v v':Value}(h:plain v=true){σ σ':Ren}(hv:VR σ v v'):VR σ' v v':=by
 have e:=qj9_ h hv
 subst e
 unfold plain at h
 split at h
 ·exact VRs.agg (qgz_ h σ')
 ·exact qky_ h σ'
theorem MRs.stay {σ σ':Ren}{l l':List MapEntry}(h:MRs σ l l'):(∀ e∈l,plain e.val=true)→MRs σ' l l':=by
 induction h with
 | nil=>exact fun _=>.nil
 | cons hk hv _ ih=>exact fun hp=>.cons hk (plain_stay (hp _ (List.mem_cons_self ..)) hv) (ih fun e he=>hp e (List.mem_cons_of_mem _ he))
noncomputable def renE (κ:Kap)(e:MapEntry):Option MapEntry:=oc (renV κ 9 e.val) none fun v=>some { e with val:=v }
noncomputable def renB (κ:Kap)(fl:Bool)(x:ABlk):Option ABlk:=
 match x with
 | .cells c e=>sel fl (some (.cells c e)) (oc (mapT (@Bool.rec (fun _=>Value→Option Value) (renV κ 9) (nilE (renV κ 9)) (κ.μ e)) c) none fun c=>some (.cells c e))
 | .loop r=>oc (mapT (renV κ 9) r.T) none fun T=>oc (κ r.defers) none fun d=>some (.loop { r with T:=T,defers:=d })
 | .marks b=>some (.marks b)
 | .map es k=>sel fl (some (.map es k)) (oc (mapO (renE κ) es) none fun es=>some (.map es k))
 | .box v e=>oc (renV κ 9 v) none fun v=>some (.box v e)
 | .pair c e=>oc (mapT (renV κ 9) c) none fun c=>some (.pair c e)
 | .zeros _ _=>none
 | .iter b k=>oc (κ b) none fun b=>some (.iter b k)
 | .iterAt b k n=>oc (κ b) none fun b=>some (.iterAt b k n)
theorem mapT_TR {κ:Kap}{σ σ':Ren}(hκ:RenOK κ σ σ'){n N:Nat}{T T':Tr Value}{ts:Array Value}(h:mapT (renV κ n) T=some T')(hT:TR σ N T ts):TR σ' N T' ts:=by
 refine⟨hT.size,fun i=>?_⟩
 have hs:=hT.slot i
 unfold tget at hs ⊢
 rcases qta_ h i with⟨h1,h2⟩ | ⟨x,y,h1,h2,h3⟩
 ·rw[h2,oc_none]
  rw[h1,oc_none] at hs
  generalize ts.getD i undef=v at hs
  cases hs with
  | tuple hx hxs=>exact .tuple hx fun i h=>absurd h (Nat.not_lt_zero _)
 ·rw[h2,oc_some]
  rw[h1,oc_some] at hs
  exact qlw_ hκ _ _ _ _ h3 hs
theorem mapO_MRs {κ:Kap}{σ σ':Ren}(hκ:RenOK κ σ σ'):∀ {l k l':List MapEntry},mapO (renE κ) l=some k→MRs σ l l'→MRs σ' k l'
 | [],k,l',h,hl=>by obtain rfl:=oI h; cases hl; exact .nil
 | v::l,k,l',h,hl=>by
  rw[qvw_] at h
  obtain⟨x,hx,h⟩:=oS h
  obtain⟨r,hr,h⟩:=oS h
  obtain rfl:=oI h
  obtain⟨u,hu,hx⟩:=oS hx
  obtain rfl:=oI hx
  cases hl with
  | cons h1 h3 h4=>exact .cons h1 (qlw_ hκ _ _ _ _ hu h3) (mapO_MRs hκ hr h4)
theorem qtb_ {κ:Kap}{σ σ':Ren}(hκ:RenOK κ σ σ'){fl:Bool}{x y:ABlk}(h:renB κ fl x=some y)(hfl:fl=true→FlatB x){d m:Nat}{o:Option Obj}(hx:BR σ d m o x):BR σ' d m o y:=by
 cases x with
 | cells c e=>
  obtain⟨C,h1,h2,h3⟩:=hx
  rcases qb_ h with⟨hf,h⟩ | ⟨hf,h⟩
  ·obtain rfl:=oI h
   have hF:FlatC c:=hfl hf
   refine⟨C,h1,h2,fun i v hv=>?_⟩
   obtain⟨v',a,b⟩:=h3 i v hv
   exact⟨_,a,stay_vr (hF i _ hv) hκ.z b⟩
  ·obtain⟨c',hc,h⟩:=oS h
   obtain rfl:=oI h
   refine⟨C,h1,h2,fun i v hv=>?_⟩
   rcases qta_ hc i with⟨_,g2⟩ | ⟨u,w,g1,g2,g3⟩
   ·rw[g2] at hv; cases hv
   ·rw[g2] at hv
    obtain rfl:=oI hv
    obtain⟨v',a,b⟩:=h3 i u g1
    exact⟨v',a,nilE_vr (qlw_ hκ 9) _ _ _ _ g3 b⟩
 | loop r=>
  obtain⟨T,hT,h⟩:=oS h
  obtain⟨dd,hd,h⟩:=oS h
  obtain rfl:=oI h
  obtain⟨fn,ts,dc,h1,h2,h3,h4⟩:=hx
  exact⟨fn,ts,dc,h1,mapT_TR hκ hT h2,hκ _ _ hd _ h3,h4⟩
 | marks b=>obtain rfl:=oI h; exact hx
 | map es k=>
  obtain⟨ES,h1,h2,h3,h4⟩:=hx
  obtain⟨⟨L,p1,p2⟩,p3⟩:=h2
  rcases qb_ h with⟨hf,h⟩ | ⟨hf,h⟩
  ·obtain rfl:=oI h
   exact⟨ES,h1,⟨⟨L,p1,p2.stay (hfl hf)⟩,p3⟩,h3,h4⟩
  obtain⟨es',he,h⟩:=oS h
  obtain rfl:=oI h
  exact⟨ES,h1,⟨⟨L,p1,mapO_MRs hκ he p2⟩,p3⟩,h3,h4⟩
 | pair c e=>
  obtain⟨c',hc,h⟩:=oS h
  obtain rfl:=oI h
  obtain⟨C,h1,h2,h3,h4⟩:=hx
  refine⟨C,h1,h2,fun i v hv=>?_,h4⟩
  rcases qta_ hc i with⟨_,g2⟩ | ⟨u,w,g1,g2,g3⟩
  ·rw[g2] at hv; cases hv
  ·rw[g2] at hv
   obtain rfl:=oI hv
   obtain⟨v',a,b⟩:=h3 i u g1
   exact⟨v',a,qlw_ hκ _ _ _ _ g3 b⟩
 | zeros n e=>cases h
 | box v e=>
  obtain⟨u,hu,h⟩:=oS h
  obtain rfl:=oI h
  obtain⟨v',h1,h2,h3⟩:=hx
  exact⟨v',h1,qlw_ hκ _ _ _ _ hu h2,h3⟩
 | iter b k=>
  obtain⟨b',hb,h⟩:=oS h
  obtain rfl:=oI h
  obtain⟨c,h1,h2,h3⟩:=hx
  exact⟨c,h1,hκ _ _ hb _ h2,h3⟩
 | iterAt b k n=>
  obtain⟨b',hb,h⟩:=oS h
  obtain rfl:=oI h
  obtain⟨c,seen,h1,h2,h3⟩:=hx
  exact⟨c,seen,h1,hκ _ _ hb _ h2,h3⟩
noncomputable def renD (κ:Kap)(d:DItem):Option DItem:=
 match d with
 | .mark b=>oc (κ b) none fun b=>some (.mark b)
 | .call g cap=>oc (mapO (renV κ 9) cap) none fun c=>some (.call g c)
theorem mapO_DR {κ:Kap}{σ σ':Ren}(hκ:RenOK κ σ σ'):∀ {l k:List DItem} {ds:List Deferred},mapO (renD κ) l=some k→DR σ l ds→DR σ' k ds
 | [],k,ds,h,hl=>by obtain rfl:=oI h; cases hl; exact .nil
 | v::l,k,ds,h,hl=>by
  rw[qvw_] at h
  obtain⟨x,hx,h⟩:=oS h
  obtain⟨r,hr,h⟩:=oS h
  obtain rfl:=oI h
  cases hl with
  | cons h1 h2=>
   obtain⟨b,hb,hx⟩:=oS hx
   obtain rfl:=oI hx
   exact .cons (hκ _ _ hb _ h1) (mapO_DR hκ hr h2)
  | call h1 h2=>
   obtain⟨c,hc,hx⟩:=oS hx
   obtain rfl:=oI hx
   exact .call (qq6_ (fun v u v' a b=>qlw_ hκ _ _ _ _ a b) hc h1) (mapO_DR hκ hr h2)
end Go.Proofs.YtleifgniphogeaaGreatDoor.Ax
namespace Go.Proofs.YtleifgniphogeaaGreatDoor.Ax
open Go.RowKit
variable [Tabs]
noncomputable def kapN (num b:Nat):Option Nat:=sel (Nat.blt b num) (some b) none
noncomputable def sameU (num:Nat)(T:Tr Value):List Value→Nat→Bool
 | [],_=>true
 | v::l,i=>(isAny v||oc (renV (kapN num) 9 (tget T i)) false fun u=>veq u v)&&sameU num T l (Nat.succ i)
noncomputable def subU (num:Nat)(t:Tr ABlk):List LBlk→Bool
 | []=>true
 | b::l=>(Nat.blt b.num num&&oc (t.get b.num) false fun x=>oc (renB (kapN num) false x) false fun y=>b.blk.sub y)&&subU num t l
def cutR (num:Nat)(σ:Ren):Ren:=⟨fun b=>if b<num then σ b else none,σ.z⟩
theorem cutR_ok (num:Nat)(σ:Ren):RenOK (kapN num) σ (cutR num σ):=RenOK.plain (fun b b' h t ht=>by
 obtain⟨h1,h2⟩:=sel_none h
 obtain rfl:=oI h2
 show (if b<num then σ b else none)=some t
 rw[if_pos (qdm_ h1)]; exact ht) fun _ _ _ h=>h
theorem qoa_ {num:Nat}{σ:Ren}{b:Nat}{t:Nat×Nat×Nat}(h:cutR num σ b=some t):b<num∧σ b=some t:=by
 have h:(if b<num then σ b else none)=some t:=h
 by_cases hb:b<num
 ·rw[if_pos hb] at h; exact⟨hb,h⟩
 ·rw[if_neg hb] at h; cases h
theorem sameU_get {num:Nat}{T:Tr Value}:∀ {l:List Value} {i:Nat},sameU num T l i=true→∀ j v,l[j]?=some v→isAny v=true∨renV (kapN num) 9 (tget T (i+j))=some v
 | [],i,_,j,v,hj=>by simp at hj
 | u::l,i,h,j,v,hj=>by
  simp only[sameU,bA,Bool.or_eq_true] at h
  cases j with
  | zero=>
   simp at hj
   subst hj
   rcases h.1 with h1 | h1
   ·exact .inl h1
   ·cases hr:renV (kapN num) 9 (tget T i) with
    | none=>rw[hr] at h1; cases h1
    | some w=>rw[hr,oc_some] at h1; exact .inr (congrArg some (qqk_ h1))
  | succ j=>
   have:=sameU_get h.2 j v (by simpa using hj)
   rwa [show i+1+j=i+(j+1) from by omega] at this
theorem sameU_TR {σ:Ren}{num N:Nat}{T:Tr Value}{ts:Array Value}(hT:TR σ N T ts){l:List Value}(hl:l.length=N)(h:sameU num T l 0=true):TR (cutR num σ) N (layT l) ts:=by
 refine⟨hT.size,fun i=>?_⟩
 unfold tget
 rw[qdc_]
 by_cases hi:i<l.length
 ·rw[List.getElem?_eq_getElem hi,oc_some]
  rcases sameU_get h i l[i] (by simp[hi]) with h1 | h1
  ·rw[isAny_eq h1]; exact .any _
  ·rw[Nat.zero_add] at h1
   exact qlw_ (cutR_ok num σ) _ _ _ _ h1 (hT.slot i)
 ·rw[List.getElem?_eq_none (Nat.le_of_not_lt hi),oc_none]
  have:ts.getD i undef=undef:=by
   rw[Array.getD_eq_getD_getElem?,Array.getElem?_eq_none (by rw[hT.size]; omega)]; rfl
  rw[this]
  exact qj7_ _
theorem subU_get {num:Nat}{t:Tr ABlk}:∀ {l:List LBlk},subU num t l=true→∀ b∈l,b.num<num∧∃ x y,t.get b.num=some x∧renB (kapN num) false x=some y∧b.blk.sub y=true
 | [],_,b,hb=>by cases hb
 | a::l,h,b,hb=>by
  simp only[subU,bA] at h
  rcases List.mem_cons.1 hb with rfl | hb
  ·refine⟨qdm_ h.1.1,?_⟩
   have h1:=h.1.2
   cases hx:t.get b.num with
   | none=>rw[hx] at h1; cases h1
   | some x=>
    rw[hx,oc_some] at h1
    cases hy:renB (kapN num) false x with
    | none=>rw[hy] at h1; cases h1
    | some y=>rw[hy,oc_some] at h1; exact⟨x,y,rfl,hy,h1⟩
  ·exact subU_get h.2 b hb
theorem weak_hr {n:Base}{X:Nat→Prop}{σ:Ren}{H:AH}{w:World}{num:Nat}{B:List LBlk}(hr:HR ⟨n,X⟩ σ H w)(hX:∀ b,X b→b<num)(h:subU num H.blocks B=true)(low:Nat):HR ⟨n,X⟩ (cutR num σ) ⟨layO .nil B,num,low⟩ w:=by
 have get:∀ {b x},(layO .nil B).get b=some x→b<num∧∃ z,H.blocks.get b=some z∧∀ {d m o},BR σ d m o z→BR (cutR num σ) d m o x:=by
  intro b x hx
  rcases qnk_ hx with⟨c,hc,rfl,rfl⟩ | h0
  ·obtain⟨h1,z,y,h2,h3,h4⟩:=subU_get h c hc
   exact⟨h1,z,h2,fun q=>LB.sub_br h4 (qtb_ (cutR_ok num σ) h3 (fun e=>by cases e) q)⟩
  ·rw[Tr.get_nil] at h0; cases h0
 refine⟨hr.base,fun b x hx=>?_,fun b₁ b₂ x₁ x₂ c d₁ m₁ d₂ m₂ h1 h2 s1 s2=>?_,fun b t ht=>(qoa_ ht).1,fun b c d m hb=>hr.img b c d m (qoa_ hb).2,fun b hb=>⟨hX b hb,?_⟩,fun j c d h=>⟨(hr.frz j c d h).1,(hr.frz j c d h).2.1,fun b t ht=>(hr.frz j c d h).2.2.1 b t (qoa_ ht).2,(hr.frz j c d h).2.2.2⟩⟩
 ·obtain⟨hb,z,hz,hB⟩:=get hx
  obtain⟨c,d,m,q1,q2,q3⟩:=hr.blk b z hz
  exact⟨c,d,m,by show (if b<num then σ b else none)=_; rw[if_pos hb]; exact q1,q2,hB q3⟩
 ·obtain⟨_,z₁,hz₁,_⟩:=get h1
  obtain⟨_,z₂,hz₂,_⟩:=get h2
  exact hr.inj b₁ b₂ z₁ z₂ c d₁ m₁ d₂ m₂ hz₁ hz₂ (qoa_ s1).2 (qoa_ s2).2
 ·show (if b<num then σ b else none)=_
  rw[if_pos (hX b hb)]; exact (hr.hol b hb).2
theorem qvx_ {n0:Bs}{σ σ':Ren}{w w':World}{low num:Nat}(st:Step n0 σ w low σ' w')(hd:∀ b t,σ b=some t→b<num):Step n0 σ w low (cutR num σ') w':=
 ⟨⟨fun b t h=>by show (if b<num then σ' b else none)=_; rw[if_pos (hd b t h)]; exact st.ext b t h,st.ext.z⟩,st.below,fun c hc hb=>let ⟨h1,h2⟩:=st.keep c hc hb; ⟨h1,fun b d m h=>h2 b d m (qoa_ h).2⟩,fun c hc hb j d h=>st.kz c hc hb j d h⟩
structure USh where
 id0:Nat
 ops0:Array Oper
 ok:Nat
 j:Nat
 i:Nat
 id1:Nat
 ops1:Array Oper
 rest:Option Code
def shapeC (c:Code):Option (Nat×Array Oper×Option Code):=
 match c with
 | .region id ops false=>some (id,ops,none)
 | .seq (.region id ops false) r=>some (id,ops,some r)
 | _=>none
def shapeU (b:Code):Option USh:=
 match b with
 | .seq (.region id0 ops0 false) (.seq (.cond (.tmp ok) .skip (.exit j)) (.block i c))=>(match shapeC c with
  | some r=>some ⟨id0,ops0,ok,j,i,r.1,r.2.1,r.2.2⟩
  | none=>none)
 | _=>none
def USh.inner (s:USh):Code:=
 match s.rest with
 | none=>.region s.id1 s.ops1 false
 | some r=>.seq (.region s.id1 s.ops1 false) r
def USh.code (s:USh):Code:=.seq (.region s.id0 s.ops0 false) (.seq (.cond (.tmp s.ok) .skip (.exit s.j)) (.block s.i s.inner))
theorem shapeC_eq {c:Code}{r:Nat×Array Oper×Option Code}(h:shapeC c=some r):c=(match r.2.2 with
  | none=>.region r.1 r.2.1 false
  | some x=>.seq (.region r.1 r.2.1 false) x):=by
 unfold shapeC at h
 split at h
 ·obtain rfl:=oI h; rfl
 ·obtain rfl:=oI h; rfl
 ·cases h
theorem shapeU_eq {b:Code}{s:USh}(h:shapeU b=some s):b=s.code:=by
 unfold shapeU at h
 split at h
 ·split at h
  ·rename_i c r hr
   obtain rfl:=oI h
   rw[shapeC_eq hr]
   rfl
  ·cases h
 ·cases h
def nextOp (o:Oper):Option (Nat×Nat):=
 match o.op with
 | .next (.tmp it) false=>(match o.dst,o.guard with
  | some d,none=>some (it,d)
  | _,_=>none)
 | _=>none
def entryOp (o:Oper):Option (Nat×Nat):=
 match o.op with
 | .entry (.tmp it)=>(match o.dst,o.guard with
  | some d,none=>some (it,d)
  | _,_=>none)
 | _=>none
theorem nextOp_eq {o:Oper}{q:Nat×Nat}(h:nextOp o=some q):o.op=.next (.tmp q.1) false∧o.dst=some q.2∧o.guard=none:=by
 unfold nextOp at h
 split at h
 ·rename_i it ho
  split at h
  ·rename_i d h1 h2
   obtain rfl:=oI h
   exact⟨ho,h1,h2⟩
  ·cases h
 ·cases h
theorem entryOp_eq {o:Oper}{q:Nat×Nat}(h:entryOp o=some q):o.op=.entry (.tmp q.1)∧o.dst=some q.2∧o.guard=none:=by
 unfold entryOp at h
 split at h
 ·rename_i it ho
  split at h
  ·rename_i d h1 h2
   obtain rfl:=oI h
   exact⟨ho,h1,h2⟩
  ·cases h
 ·cases h
def heads {α:Type}(l:List α):Option (α×List α):=
 match l with
 | []=>none
 | a::l=>some (a,l)
theorem heads_eq {α:Type}{l:List α}{q:α×List α}(h:heads l=some q):l=q.1::q.2:=by
 cases l with
 | nil=>cases h
 | cons a l=>obtain rfl:=oI h; rfl
def isAt (ib:Nat)(v:Value):Bool:=
 match v with
 | .pointer (some ⟨b,0,none⟩)=>Nat.beq b ib
 | _=>false
theorem isAt_eq {ib:Nat}{v:Value}(h:isAt ib v=true):v=.pointer (some ⟨ib,0,none⟩):=by
 unfold isAt at h
 split at h
 ·rw[nB h]
 ·cases h
noncomputable def headU (P:Program)(call:CallT)(N ib:Nat)(s:USh)(b:Bool)(x:Value)(T:Tr Value)(H:AH):Option (Tr Value×AH):=
 sel (qkc_ N s.ops0.toList&&qkc_ N s.ops1.toList) (oc (heads s.ops0.toList) none fun q=>oc (nextOp q.1) none fun r=>sel (isAt ib (tget T r.1)) (oc (qog_ P call s.ops0.toList q.2 (T.set r.2 x) H) none fun y=>sel (boolIs (tget y.1 s.ok) b) (some y) none) none) none
noncomputable def bodyU (P:Program)(call:CallT)(ib:Nat)(s:USh)(x:Value)(T:Tr Value)(H:AH):Option (Tr Value×AH):=
 oc (heads s.ops1.toList) none fun q=>oc (entryOp q.1) none fun r=>sel (isAt ib (tget T r.1)) (qog_ P call s.ops1.toList q.2 (T.set r.2 x) H) none
def blockU (i:Nat)(x:Ex×XSt):Ex×XSt:=
 match x.1 with
 | .exit j=>(match Nat.beq j i with
  | true=>(.normal,x.2)
  | false=>x)
 | _=>x
noncomputable def roundU (rd:RegT)(P:Program)(ql:List (Nat×Nat))(call:CallT)(lo:LoT)(N ib:Nat)(s:USh)(p:List Bool)(k v:Value)(T:Tr Value)(H:AH):XRes:=
 oc (headU P call N ib s true (.tuple #[.bool true,k,v]) T H) none fun y=>oc (bodyU P call ib s (.tuple #[k,v]) y.1 y.2) none fun z=>
  oc s.rest (some (.normal,(z.1,[],z.2))) fun c=>oc (exec2 rd P ql call lo none N fuel c (true::false::true::true::false::p) (z.1,[],z.2)) none fun x=>some (blockU s.i x)
theorem wp_val {P:Program}{F:Fence}{n:Nat}{w w':World}{o:Oper}{a:Act}{v':Value}{K:Act→World→Prop}{Q:Exit→Act→World→Prop}(hF:WideF F)(hd:∀ c,o.op ≠ .defer c)
  (he:(execOp a.eval o).run P w=.ok (.value v') w') (hK:K (a.put o.dst v') w'):o.wpIn F n P a w K Q:=by
 refine⟨fun f _=>hF.fn f,?_⟩
 rw[Oper.semAt_eq F.round a.eval o hd,he]
 exact hK
theorem qvy_ {P:Program}{F:Fence}{n N:Nat}{n0:Bs}{call:CallT}(hcall:qju_ P n0.n.n call)(hF:WideF F){id:Nat}{ops:Array Oper}(hall:qkc_ N ops.toList=true){o:Oper}{l:List Oper}(hops:ops.toList=o::l)(hg:o.guard=none)(hd:∀ c,o.op ≠ .defer c)
  {dst:Nat} (hdst:o.dst=some dst) (hN:dst<N) {x x':Value} {T T':Tr Value} {H H':AH} {σ:Ren} {w w1:World} {a:Act} (he:(execOp a.eval o).run P w=.ok (.value x') w1) (hx:VR σ x x') (h:qog_ P call ops.toList l (T.set dst x) H=some (T',H')) (hT:TR σ N T a.tmps) (hr:HR n0 σ H w1)
  {Q:Exit→Act→World→Prop} (hQ:∀ a' w',At n0 N σ w1 T' H' a.defers a' w'→Q .normal a' w'):(Code.region id ops false).wpIn F n P Q a w:=by
 refine wpIn_region ?_
 have hsz:ops.size=l.length+1:=by have:=congrArg List.length hops; simpa using this
 have hget:ops[0]?=some o:=by rw[←Array.getElem?_toList,hops]; rfl
 rw[hsz,List.range_eq_range',List.range'_succ]
 simp only[wpOpsIn,hget]
 have hw:Region.wanted o (yielded ops a.tmps)=true:=by unfold Region.wanted; rw[hg]
 rw[if_pos hw]
 refine wp_val hF hd he ?_
 refine execOps_ok hcall hF hall l 1 (by rw[hops]; rfl) h ?_ hr ?_
 ·rw[hdst]
  exact hT.set hx hN
 ·intro a' w' hat
  refine hQ a' w' ?_
  obtain⟨σ',q1,q2,q3,q4⟩:=hat
  exact⟨σ',q1,by rw[q2,Act.put_defers'],q3,q4⟩
theorem HR.asideQ {n:Nat}{Q X:Nat→Prop}{σ:Ren}{H:AH}{w w':World}(hr:HR ⟨⟨n,Q⟩,X⟩ σ H w){c:Nat}(hc:Q c)(hn:n≤c)(hz:∀ j d,¬ σ.z j c d)(hsz:w'.heap.size=w.heap.size)(hk:∀ k,k ≠ c→w'.heap[k]?=w.heap[k]?):HR ⟨⟨n,Q⟩,X⟩ σ H w':=by
 refine⟨⟨by rw[hsz]; exact hr.base.1,fun k hk'=>by rw[hsz]; exact hr.base.2.1 k hk',hr.base.2.2.calm fun k hkn=>hk k (by have:k<n:=hkn; omega)⟩,fun b x hb=>?_,hr.inj,hr.dom,fun b c' d m hb=>by rw[hsz]; exact hr.img b c' d m hb,hr.hol,fun j c' d h=>⟨(hr.frz j c' d h).1,by rw[hsz]; exact (hr.frz j c' d h).2.1,(hr.frz j c' d h).2.2.1,by
  obtain⟨y,h1,h2⟩:=(hr.frz j c' d h).2.2.2
  refine⟨y,h1,fun i v hv=>?_⟩
  obtain⟨v',a,b⟩:=h2 i v hv
  refine⟨v',?_,b⟩
  have e:w'.heap[c']?=w.heap[c']?:=hk c' fun e=>hz j d (e ▸ h)
  rw[←a]
  simp[World.cell?,e]⟩⟩
 obtain⟨k,d,m,h1,h2,h3⟩:=hr.blk b x hb
 refine⟨k,d,m,h1,h2,?_⟩
 rw[hk k (fun e=>h2.2 (e ▸ hc))]; exact h3
theorem Step.aside {n:Nat}{Q X:Nat→Prop}{σ σ':Ren}{w w1 w2:World}{low:Nat}(st:Step ⟨⟨n,Q⟩,X⟩ σ w low σ' w1){ib c d m:Nat}(hs:σ ib=some (c,d,m))(hq:¬ Q c)(hn:n≤c)(hl:low≤ib)(hb:Below n w1 w2)(hk:∀ k,k ≠ c→w2.heap[k]?=w1.heap[k]?):Step ⟨⟨n,Q⟩,X⟩ σ w low σ' w2:=
 ⟨st.ext,st.below.trans hb,fun k hkw hkl=>by
  obtain⟨h1,h2⟩:=st.keep k hkw hkl
  refine⟨?_,h2⟩
  rw[hk k ?_]
  ·exact h1
  ·rintro rfl
   rcases hkl with h | h
   ·exact hq h
   ·exact absurd (h ib d m hs) (Nat.not_lt.2 hl),fun c hc hb j d h=>st.kz c hc hb j d h⟩
theorem qtc_ (w:World)(c:Nat)(o:Obj)(k:Nat)(hk:k ≠ c):(Go.ChangeMaps.setBlock w c o).heap[k]?=w.heap[k]?:=by
 simp[Go.ChangeMaps.setBlock,Array.getElem?_setIfInBounds_ne (fun e=>hk e.symm)]
theorem setBlock_self (w:World)(c:Nat)(o:Obj)(hc:c<w.heap.size):(Go.ChangeMaps.setBlock w c o).heap[c]?=some o:=by
 simp[Go.ChangeMaps.setBlock,hc]
theorem qq7_ (w:World)(c:Nat)(o:Obj):(Go.ChangeMaps.setBlock w c o).heap.size=w.heap.size:=by simp[Go.ChangeMaps.setBlock]
theorem qvz_ {n:Nat}(w:World)(c:Nat)(o:Obj)(hc:n≤c):Below n w (Go.ChangeMaps.setBlock w c o):=
 ⟨rfl,rfl,rfl,by rw[qq7_]; exact Nat.le_refl _,fun k hk=>qtc_ w c o k (by omega)⟩
structure UL where
 f:FuncId
 path:List Bool
 slot:Nat
 T:List Value
 ib:Nat
 mb:Nat
 clock:Nat
 es:List MapEntry
 B:List LBlk
 num:Nat
 ex:Ex
 T':List Value
 Bo:List LBlk
 low:Nat
 next:Nat
 st:List (Nat×List Value×List LBlk)
def UL.entry (u:UL):LEntry:=⟨u.f,u.path,u.slot,u.T,[],⟨u.ib,.iter u.mb u.clock⟩ :: ⟨u.mb,.map u.es u.clock⟩ :: u.B,u.num,u.ex,u.T',⟨u.mb,.map u.es u.clock⟩ :: u.Bo,u.next,u.low⟩
noncomputable def findM (m:Nat)(l:List (Nat×List Value×List LBlk)):Option (List Value×List LBlk):=@List.rec (Nat×List Value×List LBlk) (fun _=>Option (List Value×List LBlk)) none (fun a _ ih=>sel (Nat.beq a.1 m) (some a.2) ih) l
theorem findM_mem {m:Nat}{l:List (Nat×List Value×List LBlk)}{q:List Value×List LBlk}(h:findM m l=some q):(m,q)∈l:=by
 induction l with
 | nil=>cases h
 | cons a l ih=>
  have h:sel (Nat.beq a.1 m) (some a.2) (findM m l)=some q:=h
  rcases qb_ h with⟨h1,h2⟩ | ⟨_,h2⟩
  ·obtain rfl:=nB h1
   obtain rfl:=oI h2
   exact List.mem_cons_self ..
  ·exact List.mem_cons_of_mem _ (ih h2)
noncomputable def goodE (u:UL)(mask:Nat)(e:Ex)(T:Tr Value)(H:AH):Bool:=
 match e with
 | .normal=>oc (findM mask u.st) false fun q=>sameU u.num T q.1 0&&subU u.num H.blocks q.2
 | e=>sameEx e u.ex&&(sameU u.next T u.T' 0&&subU u.next H.blocks u.Bo)
noncomputable def goodU (u:UL)(mask:Nat)(x:Ex×XSt):Bool:=nilD x.2.2.1&&(Nat.ble u.low x.2.2.2.low&&goodE u mask x.1 x.2.1 x.2.2.2)
noncomputable def stepsU (R:Value→Value→Tr Value→AH→XRes)(u:UL)(q:Nat×List Value×List LBlk):List MapEntry→Nat→Bool
 | [],_=>true
 | e::l,i=>sel (Nat.testBit q.1 i) true (oc (R e.key e.val (layT q.2.1) ⟨layO .nil q.2.2,u.num,u.num⟩) false (goodU u (Nat.lor q.1 (Nat.shiftLeft 1 i))))&&stepsU R u q l (Nat.succ i)
def fullU (mask:Nat):Nat→Bool
 | 0=>true
 | i+1=>Nat.testBit mask i&&fullU mask i
noncomputable def lastU (D:Tr Value→AH→Option (Tr Value×AH))(j:Nat)(u:UL)(q:Nat×List Value×List LBlk):Bool:=
 sel (fullU q.1 u.es.length) (oc (D (layT q.2.1) ⟨layO .nil q.2.2,u.num,u.num⟩) false fun y=>goodU u 0 (.exit j,(y.1,[],y.2))) true
noncomputable def allU (R:Value→Value→Tr Value→AH→XRes)(D:Tr Value→AH→Option (Tr Value×AH))(it j N:Nat)(u:UL):List (Nat×List Value×List LBlk)→Bool
 | []=>true
 | q::l=>(isAt u.ib (tget (layT q.2.1) it)&&(Nat.beq q.2.1.length N&&(stepsU R u q u.es 0&&lastU D j u q)))&&allU R D it j N u l
def keysU:List MapEntry→Bool
 | []=>true
 | e::l=>flat e.key&&keysU l
def noNum (b:Nat):List LBlk→Bool
 | []=>true
 | x::l=>!(Nat.beq x.num b)&&noNum b l
def loopCode (c:Code):Option Code:=
 match c with
 | .loop b=>some b
 | _=>none
noncomputable def chkU (P:Program)(ql:List (Nat×Nat))(K:List SK)(l:List Entry)(m:List LEntry)(u:UL):Bool:=
 oc (P.funcs[u.f]?) false fun fd=>oc fd.body false fun body=>oc (qlu_ body u.path) false fun c=>oc (loopCode c) false fun b=>oc (shapeU b) false fun s=>oc (heads s.ops0.toList) false fun q0=>oc (nextOp q0.1) false fun r0=>
  (Nat.beq u.T.length fd.ntmps&&Nat.beq u.T'.length fd.ntmps)&&((Nat.ble u.low u.ib&&(Nat.blt u.ib u.num&&(Nat.blt u.mb u.num&&(Nat.ble u.low u.num&&Nat.ble u.num u.next))))&&((keysU u.es&&(noNum u.ib u.B&&noNum u.mb u.B)) &&
   (oc (findM 0 u.st) false (fun q=>sameU u.num (layT u.T) q.1 0&&subU u.num (layO .nil u.B) q.2) &&
    allU (roundU (qq4_ P) P ql (callR P ql K l m) (loF (layLs m) u.f) fd.ntmps u.ib s u.path) (headU P (callR P ql K l m) fd.ntmps u.ib s false (.tuple #[.bool false])) r0.1 s.j fd.ntmps u u.st)))
end Go.Proofs.YtleifgniphogeaaGreatDoor.Ax
namespace Go.Proofs.YtleifgniphogeaaGreatDoor.Ax
open Go.RowKit
variable [Tabs]
theorem exec_next {o:Oper}{x:Operand}{ρ:Operand→Value}{b:Bool}(h:o.op=.next x b):execOp ρ o=(do pure (.value (←Instr.next (ρ x) b o.type))):=by
 obtain⟨dst,op,ty,pos,after,guard⟩:=o
 simp only at h
 subst h
 rfl
theorem exec_entry {o:Oper}{x:Operand}{ρ:Operand→Value}(h:o.op=.entry x):execOp ρ o=(do pure (.value (←Instr.entry (ρ x)))):=by
 obtain⟨dst,op,ty,pos,after,guard⟩:=o
 simp only at h
 subst h
 rfl
theorem sub_iter {b n:Nat}{x:ABlk}(h:(LB.iter b n).sub x=true):x=.iter b n:=by
 cases x with
 | iter b' n'=>
  simp only[LB.sub,bA] at h
  rw[nB h.1,nB h.2]
 | _=>cases h
theorem layO_same {t:Tr ABlk}:∀ {l:List LBlk} {n:Nat} {x:ABlk},(layO t l).get n=some x→(layO .nil l).get n=some x∨(t.get n=some x∧∀ c∈l,c.num ≠ n)
 | [],n,x,h=>.inr ⟨h,fun c hc=>by cases hc⟩
 | b::l,n,x,h=>by
  rw[layO,Tr.get_set] at h
  rw[layO,Tr.get_set]
  by_cases hn:n=b.num
  ·rw[if_pos hn] at h ⊢; exact .inl h
  ·rw[if_neg hn] at h ⊢
   rcases layO_same h with h | ⟨h,hc⟩
   ·exact .inl h
   ·refine .inr ⟨h,fun c hcm=>?_⟩
    rcases List.mem_cons.1 hcm with rfl | hcm
    ·exact fun e=>hn e.symm
    ·exact hc c hcm
theorem Ren.eq_of {σ:Ren}{b c c' d d' m m':Nat}(h:σ b=some (c,d,m))(h':σ b=some (c',d',m')):c=c'∧d=d'∧m=m':=by
 rw[h] at h'
 injection h' with s1
 injection s1 with a1 s1
 injection s1 with a2 a3
 exact⟨a1,a2,a3⟩
def restU (mask n:Nat):Nat:=((List.range n).filter fun i=>!mask.testBit i).length
theorem filter_lt {α:Type}{p q:α→Bool}:∀ {l:List α},(∀ x∈l,q x=true→p x=true)→(∃ x∈l,p x=true∧q x=false)→(l.filter q).length<(l.filter p).length
 | [],_,h=>by obtain⟨x,hx,_⟩:=h; cases hx
 | a::l,hi,⟨x,hx,hp,hq⟩=>by
  have le:∀ {k:List α},(∀ x∈k,q x=true→p x=true)→(k.filter q).length≤(k.filter p).length:=fun {k} hk=>by
   induction k with
   | nil=>simp
   | cons b k ih=>
    have:=ih fun x hx=>hk x (List.mem_cons_of_mem _ hx)
    simp only[List.filter_cons]
    by_cases hb:q b=true
    ·rw[if_pos hb,if_pos (hk b (List.mem_cons_self ..) hb)]; simp; omega
    ·rw[if_neg hb]
     split
     ·simp; omega
     ·exact this
  have hl:∀ x∈l,q x=true→p x=true:=fun x hx=>hi x (List.mem_cons_of_mem _ hx)
  simp only[List.filter_cons]
  rcases List.mem_cons.1 hx with rfl | hx
  ·rw[if_neg (by rw[hq]; simp),if_pos hp]
   have:=le hl
   simp; omega
  ·have ih:=filter_lt hl ⟨x,hx,hp,hq⟩
   by_cases hb:q a=true
   ·rw[if_pos hb,if_pos (hi a (List.mem_cons_self ..) hb)]; simp; omega
   ·rw[if_neg hb]
    split
    ·simp; omega
    ·exact ih
theorem bit_set (mask i k:Nat):(Nat.lor mask (Nat.shiftLeft 1 i)).testBit k=(mask.testBit k||decide (i=k)):=by
 have:(mask ||| (1 <<< i)).testBit k=(mask.testBit k||decide (i=k)):=by
  rw[Nat.testBit_or,Nat.one_shiftLeft,Nat.testBit_two_pow]
 exact this
theorem restU_lt {mask n i:Nat}(hi:i<n)(hb:mask.testBit i=false):restU (Nat.lor mask (Nat.shiftLeft 1 i)) n<restU mask n:=by
 refine filter_lt (fun x hx h=>?_) ⟨i,by simpa using hi,by simp[hb],?_⟩
 ·rw[bit_set] at h
  simp at h ⊢
  exact h.1
 ·rw[bit_set]; simp
theorem fullU_of {mask:Nat}:∀ {n:Nat},(∀ i,i<n→mask.testBit i=true)→fullU mask n=true
 | 0,_=>rfl
 | n+1,h=>by
  simp only[fullU,bA]
  exact⟨h n (Nat.lt_succ_self n),fullU_of fun i hi=>h i (Nat.lt_succ_of_lt hi)⟩
theorem allU_mem {R:Value→Value→Tr Value→AH→XRes}{D:Tr Value→AH→Option (Tr Value×AH)}{it j N:Nat}{u:UL}:∀ {l:List (Nat×List Value×List LBlk)},allU R D it j N u l=true→∀ q∈l,isAt u.ib (tget (layT q.2.1) it)=true∧q.2.1.length=N∧stepsU R u q u.es 0=true∧lastU D j u q=true
 | [],_,q,hq=>by cases hq
 | a::l,h,q,hq=>by
  simp only[allU,bA] at h
  rcases List.mem_cons.1 hq with rfl | hq
  ·exact⟨h.1.1,nB h.1.2.1,h.1.2.2⟩
  ·exact allU_mem h.2 q hq
theorem stepsU_at {R:Value→Value→Tr Value→AH→XRes}{u:UL}{q:Nat×List Value×List LBlk}:∀ {l:List MapEntry} {i k:Nat} {e:MapEntry},stepsU R u q l i=true→l[k]?=some e→q.1.testBit (i+k)=false→∃ x,R e.key e.val (layT q.2.1) ⟨layO .nil q.2.2,u.num,u.num⟩=some x∧goodU u (Nat.lor q.1 (Nat.shiftLeft 1 (i+k))) x=true
 | [],i,k,e,_,hk,_=>by simp at hk
 | a::l,i,k,e,h,hk,hb=>by
  simp only[stepsU,bA] at h
  cases k with
  | zero=>
   simp at hk
   subst hk
   rw[Nat.add_zero] at hb ⊢
   have h1:=h.1
   rw[hb,sel_false] at h1
   cases hx:R a.key a.val (layT q.2.1) ⟨layO .nil q.2.2,u.num,u.num⟩ with
   | none=>rw[hx] at h1; cases h1
   | some x=>rw[hx,oc_some] at h1; exact⟨x,rfl,h1⟩
  | succ k=>
   have:=stepsU_at (e:=e) h.2 (by simpa using hk) (by rwa [show i.succ+k=i+(k+1) from by omega])
   rwa [show i.succ+k=i+(k+1) from by omega] at this
theorem addMap {n:Nat}{Q Q' X:Nat→Prop}{σ:Ren}{Bo:List LBlk}{num lo lo':Nat}{w:World}(hr:HR ⟨⟨n,Q'⟩,X⟩ σ ⟨layO .nil Bo,num,lo⟩ w)(hQ:∀ c,Q c→Q' c){mb cm clock:Nat}{es:List MapEntry}(hs:σ mb=some (cm,0,0))(hm:Q' cm)(hn:n≤cm)(hnq:¬ Q cm)(hB:BR σ 0 0 (w.heap[cm]?) (.map es clock)) :
  HR ⟨⟨n,Q⟩,X⟩ σ ⟨layO .nil (⟨mb,.map es clock⟩ :: Bo),num,lo'⟩ w:=by
 have get:∀ {b x},(layO .nil (⟨mb,.map es clock⟩ :: Bo)).get b=some x→(b=mb∧x=.map es clock)∨(b ≠ mb∧(layO .nil Bo).get b=some x):=by
  intro b x hx
  rw[layO,Tr.get_set] at hx
  by_cases hb:b=mb
  ·rw[if_pos hb] at hx; exact .inl ⟨hb,(oI hx).symm⟩
  ·rw[if_neg hb] at hx; exact .inr ⟨hb,hx⟩
 refine⟨⟨hr.base.1,fun c hc=>hr.base.2.1 c (hQ c hc),hr.base.2.2⟩,fun b x hx=>?_,fun b₁ b₂ x₁ x₂ c d₁ m₁ d₂ m₂ h1 h2 s1 s2=>?_,hr.dom,hr.img,hr.hol,hr.frz⟩
 ·rcases get hx with⟨rfl,rfl⟩ | ⟨_,hx⟩
  ·exact⟨cm,0,0,hs,⟨hn,hnq⟩,hB⟩
  ·obtain⟨c,d,m,q1,q2,q3⟩:=hr.blk b x hx
   exact⟨c,d,m,q1,⟨q2.1,fun h=>q2.2 (hQ c h)⟩,q3⟩
 ·have other:∀ {b x c d m},(layO .nil Bo).get b=some x→σ b=some (c,d,m)→c ≠ cm:=by
   intro b x c d m hx hsb e
   obtain⟨c',d',m',q1,q2,_⟩:=hr.blk b x hx
   obtain⟨rfl,_,_⟩:=Ren.eq_of hsb q1
   exact q2.2 (e ▸ hm)
  rcases get h1 with⟨e1,_⟩ | ⟨_,g1⟩
  ·rcases get h2 with⟨e2,_⟩ | ⟨_,g2⟩
   ·rw[e1,e2]
   ·subst e1
    exact absurd (Ren.eq_of s1 hs).1 (fun e=>other g2 s2 e)
  ·rcases get h2 with⟨e2,_⟩ | ⟨_,g2⟩
   ·subst e2
    exact absurd (Ren.eq_of s2 hs).1 (fun e=>other g1 s1 e)
   ·exact hr.inj b₁ b₂ x₁ x₂ c d₁ m₁ d₂ m₂ g1 g2 s1 s2
structure AtU (n:Nat) (Q Q' X:Nat→Prop) (σ:Ren) (w:World) (u:UL) (N:Nat) (L ES:List MapEntry) (ci cm mask:Nat) (T:List Value) (B:List LBlk) (a':Act) (w':World) (σ':Ren) (seen:Array Nat):Prop where
 tr:TR σ' N (layT T) a'.tmps
 df:a'.defers=[]
 hr:HR ⟨⟨n,Q'⟩,X⟩ σ' ⟨layO .nil B,u.num,u.num⟩ w'
 st:Step ⟨⟨n,Q⟩,X⟩ σ w u.low σ' w'
 it:w'.heap[ci]?=some (.mapIter (some cm) u.clock seen u.clock)
 mp:w'.heap[cm]?=some (.map ⟨ES⟩ u.clock)
 bits:∀ i E,L[i]?=some E→(mask.testBit i=true ↔ E.born∈seen)
theorem postU {n:Base}{X:Nat→Prop}{σ σ3:Ren}{w w3:World}{H:AH}{u:UL}{N:Nat}{x:Ex×XSt}{a3:Act}{Q':Nat→Prop}{cm:Nat}
  (hg:(sameEx x.1 u.ex&&(sameU u.next x.2.1 u.T' 0&&subU u.next x.2.2.2.blocks u.Bo))=true) (hlen:u.T'.length=N) (hr:HR ⟨n,X⟩ σ H w) (hnum:H.next=u.num) (hnx:u.num≤u.next) (hQ:∀ c,(n.Q c∨OutQ σ H u.entry.ins c)→Q' c)
  (tr:TR σ3 N x.2.1 a3.tmps) (df:a3.defers=[]) (hr3:HR ⟨⟨n.n,Q'⟩,X⟩ σ3 x.2.2.2 w3) (st:Step ⟨⟨n.n,fun c=>n.Q c∨OutQ σ H u.entry.ins c⟩,X⟩ σ w u.low σ3 w3)
  (hmb:σ u.mb=some (cm,0,0)) (hmq:Q' cm) (hmn:n.n≤cm) (hmnq:¬ (n.Q cm∨OutQ σ H u.entry.ins cm)) (hB:BR σ 0 0 (w.heap[cm]?) (.map u.es u.clock)) (hkm:w3.heap[cm]?=w.heap[cm]?) :
  CodeAt ⟨n,X⟩ N σ w (u.ex,(layT u.entry.T',u.entry.D,outL H u.entry)) (eR x.1) a3 w3:=by
 simp only[bA] at hg
 obtain⟨h1,h2,h3⟩:=hg
 rw[sameEx_eq h1]
 have hX:∀ b,X b→b<u.next:=fun b hb=>Nat.lt_of_lt_of_le (by rw[←hnum]; exact (hr.hol b hb).1) hnx
 have hdom:∀ b t,σ b=some t→b<u.next:=fun b t h=>Nat.lt_of_lt_of_le (by rw[←hnum]; exact hr.dom b t h) hnx
 have g1:=weak_hr hr3 hX h3 0
 have st':=qvx_ st hdom
 have g2:=addMap (lo':=0) g1 hQ (st'.ext _ _ hmb) hmq hmn hmnq (by rw[hkm]; exact hB.mono st'.ext)
 refine⟨rfl,cutR u.next σ3,sameU_TR tr hlen h2,?_,?_,?_⟩
 ·rw[df]; exact .nil
 ·refine out_hr2g (Q:=n.Q) (ins:=u.entry.ins) (outs:=u.entry.outs) hr g2 st' (Nat.le_refl _) ?_
  intro b y hy
  rcases layO_same hy with h | ⟨h,_⟩
  ·exact .inl ⟨y,h,fun q=>q⟩
  ·exact .inr (qvv_ h)
 ·have q:Step ⟨n,X⟩ σ w u.low (cutR u.next σ3) w3:=st'.setQ (Q:=n.Q) fun c h=>.inl h
  exact q.lower (Nat.min_le_right _ _)
theorem keysU_mem:∀ {l:List MapEntry},keysU l=true→∀ {i:Nat} {e:MapEntry},l[i]?=some e→flat e.key=true
 | [],_,i,e,he=>by simp at he
 | a::l,h,i,e,he=>by
  simp only[keysU,bA] at h
  cases i with
  | zero=>simp at he; subst he; exact h.1
  | succ i=>exact keysU_mem h.2 (by simpa using he)
theorem qv0_ {b:Nat}:∀ {l:List LBlk},noNum b l=true→∀ x∈l,x.num ≠ b
 | [],_,x,hx=>by cases hx
 | a::l,h,x,hx=>by
  simp only[noNum,bA,Bool.not_eq_true'] at h
  rcases List.mem_cons.1 hx with rfl | hx
  ·intro e; rw[e,Nat.beq_refl] at h; cases h.1
  ·exact qv0_ h.2 x hx
theorem insOk_tail {t:Tr ABlk}{b:LBlk}{l:List LBlk}(h:insOk t (b::l)=true):insOk t l=true:=by
 simp only[insOk,bA] at h
 exact h.2
theorem eval_at {σ:Ren}{N:Nat}{T:Tr Value}{a:Act}(hT:TR σ N T a.tmps){ib it c m:Nat}(h:isAt ib (tget T it)=true)(hs:σ ib=some (c,0,m)):a.eval (.tmp it)=.pointer (some ⟨c,0,none⟩):=by
 have hv:=ev_ok (a:=a) hT (x:=.tmp it) rfl
 have e:ev T (.tmp it)=.pointer (some ⟨ib,0,none⟩):=isAt_eq h
 rw[e] at hv
 generalize a.eval (.tmp it)=v at hv
 cases hv with
 | @ptr _ c' d' m' _ hb=>
  obtain⟨rfl,rfl,_⟩:=Ren.eq_of hs hb
  simp
theorem eval_bool {σ:Ren}{N:Nat}{T:Tr Value}{a:Act}(hT:TR σ N T a.tmps){ok:Nat}{b:Bool}(h:boolIs (tget T ok) b=true):a.eval (.tmp ok)=.bool b:=by
 have hv:=ev_ok (a:=a) hT (x:=.tmp ok) rfl
 have e:ev T (.tmp ok)=.bool b:=by
  show tget T ok=_
  unfold boolIs at h
  split at h
  ·rename_i c hc; rw[hc,eq_of_beq h]
  ·cases h
 rw[e] at hv
 generalize a.eval (.tmp ok)=v at hv
 cases hv
 rfl
theorem endU {P:Program}{n:Base}{X:Nat→Prop}{σ σ5:Ren}{w w5:World}{H:AH}{u:UL}{N:Nat}{x:Ex×XSt}{a5:Act}{Q':Nat→Prop}{ci cm i mask:Nat}{L ES:List MapEntry}{seen:Array Nat}{E:MapEntry}{F:Fence}{k r:Nat}{b:Code}
  (ih:∀ (mask:Nat) (T:List Value) (B:List LBlk) (a':Act) (w':World) (σ':Ren) (seen:Array Nat),(mask,T,B)∈u.st→restU mask u.es.length<r→AtU n.n (fun c=>n.Q c∨OutQ σ H u.entry.ins c) Q' X σ w u N L ES ci cm mask T B a' w' σ' seen→Code.roundsIn F k P b (CodeAt ⟨n,X⟩ N σ w (u.ex,(layT u.entry.T',u.entry.D,outL H u.entry))) r a' w')
  (hg:goodU u (Nat.lor mask (Nat.shiftLeft 1 i)) x=true) (hlen:u.T'.length=N) (hlens:∀ q∈u.st,q.2.1.length=N) (hr:HR ⟨n,X⟩ σ H w) (hnum:H.next=u.num) (hnx:u.num≤u.next) (hQ:∀ c,(n.Q c∨OutQ σ H u.entry.ins c)→Q' c)
  (hmb:σ u.mb=some (cm,0,0)) (hmq:Q' cm) (hmn:n.n≤cm) (hmnq:¬ (n.Q cm∨OutQ σ H u.entry.ins cm)) (hB:BR σ 0 0 (w.heap[cm]?) (.map u.es u.clock)) (hobm:w.heap[cm]?=some (.map ⟨ES⟩ u.clock))
  (tr:TR σ5 N x.2.1 a5.tmps) (df:DR σ5 x.2.2.1 a5.defers) (hr5:HR ⟨⟨n.n,Q'⟩,X⟩ σ5 x.2.2.2 w5) (st:Step ⟨⟨n.n,fun c=>n.Q c∨OutQ σ H u.entry.ins c⟩,X⟩ σ w u.low σ5 w5)
  (hit:w5.heap[ci]?=some (.mapIter (some cm) u.clock (seen.push E.born) u.clock)) (hmp:w5.heap[cm]?=some (.map ⟨ES⟩ u.clock))
  (hi:i<u.es.length) (hbit:mask.testBit i=false) (hrest:restU mask u.es.length<r+1) (hLi:L[i]?=some E) (hnod:(L.map (·.born)).Nodup) (bits:∀ i E,L[i]?=some E→(mask.testBit i=true ↔ E.born∈seen)) :
  Exit.then (Code.roundsIn F k P b (CodeAt ⟨n,X⟩ N σ w (u.ex,(layT u.entry.T',u.entry.D,outL H u.entry))) r) (CodeAt ⟨n,X⟩ N σ w (u.ex,(layT u.entry.T',u.entry.D,outL H u.entry))) (eR x.1) a5 w5:=by
 obtain⟨ex,T5,D5,H5⟩:=x
 have hg:(nilD D5&&(Nat.ble u.low H5.low&&goodE u (Nat.lor mask (Nat.shiftLeft 1 i)) ex T5 H5))=true:=hg
 simp only[bA] at hg
 obtain⟨hD,_,hgE⟩:=hg
 have hD5:D5=[]:=by cases D5 with
  | nil=>rfl
  | cons=>cases hD
 subst hD5
 have df0:a5.defers=[]:=by
  have df1:DR σ5 [] a5.defers:=df
  generalize a5.defers=ds at df1
  cases df1; rfl
 have hX:∀ b,X b→b<u.num:=fun b hb=>by rw[←hnum]; exact (hr.hol b hb).1
 have hdom:∀ b t,σ b=some t→b<u.num:=fun b t h=>by rw[←hnum]; exact hr.dom b t h
 have out:ex ≠ .normal→(sameEx ex u.ex&&(sameU u.next T5 u.T' 0&&subU u.next H5.blocks u.Bo))=true→CodeAt ⟨n,X⟩ N σ w (u.ex,(layT u.entry.T',u.entry.D,outL H u.entry)) (eR ex) a5 w5:=fun _ h=>
  postU (x:=(ex,(T5,[],H5))) h hlen hr hnum hnx hQ tr df0 hr5 st hmb hmq hmn hmnq hB (hmp.trans hobm.symm)
 cases ex with
 | ret=>exact out (by simp) hgE
 | exit j=>exact out (by simp) hgE
 | normal=>
  show Code.roundsIn F k P b _ r a5 w5
  have hg:oc (findM (Nat.lor mask (Nat.shiftLeft 1 i)) u.st) false (fun q=>sameU u.num T5 q.1 0&&subU u.num H5.blocks q.2)=true:=hgE
  cases hf:findM (Nat.lor mask (Nat.shiftLeft 1 i)) u.st with
  | none=>rw[hf] at hg; cases hg
  | some q=>
  rw[hf,oc_some] at hg
  simp only[bA] at hg
  have hmem:=findM_mem hf
  refine ih _ q.1 q.2 a5 w5 (cutR u.num σ5) (seen.push E.born) hmem ?_ ⟨?_,df0,?_,qvx_ st hdom,hit,hmp,?_⟩
  ·have:=restU_lt hi hbit; omega
  ·exact sameU_TR tr (hlens _ hmem) hg.1
  ·exact weak_hr hr5 hX hg.2 _
  ·intro i' E' hE'
   rw[bit_set]
   have hb:=bits i' E' hE'
   simp only[Bool.or_eq_true,decide_eq_true_eq,Array.mem_push]
   rw[hb]
   constructor
   ·rintro (h | h)
    ·exact .inl h
    ·subst h
     rw[hLi] at hE'
     exact .inr (by rw[oI hE'])
   ·rintro (h | h)
    ·exact .inl h
    ·refine .inr ?_
     have h1:(L.map (·.born))[i]?=some E.born:=by simp[hLi]
     have h2:(L.map (·.born))[i']?=some E'.born:=by simp[hE']
     exact (List.getElem?_inj (by have:=(List.getElem?_eq_some_iff.1 h1).1; exact this) hnod).1 (by rw[h1,h2,h])
end Go.Proofs.YtleifgniphogeaaGreatDoor.Ax
namespace Go.Proofs.YtleifgniphogeaaGreatDoor.Ax
open Go.RowKit
variable [Tabs]
theorem leftOf_mem {ES:List MapEntry}{seen:Array Nat}{E:MapEntry}(h:E∈(leftOf ⟨ES⟩ seen).toList):E∈ES∧E.born ∉ seen:=by
 unfold leftOf at h
 simpa using h
theorem leftOf_none {ES:List MapEntry}{seen:Array Nat}(h:(leftOf ⟨ES⟩ seen).size=0){E:MapEntry}(hE:E∈ES):E.born∈seen:=by
 by_cases hs:E.born∈seen
 ·exact hs
 ·exfalso
  have:E∈(leftOf ⟨ES⟩ seen).toList:=by unfold leftOf; simpa using ⟨hE,hs⟩
  have e:(leftOf ⟨ES⟩ seen)=#[]:=Array.eq_empty_of_size_eq_zero h
  rw[e] at this; cases this
theorem entry_vr {σ:Ren}{k v v':Value}(hk:flat k=true)(hv:VR σ v v'):VR σ (.tuple #[k,v]) (.tuple #[k,v']):=VRs.tuple (l:=[k,v]) (l':=[k,v']) (.cons (qky_ hk σ) (.cons hv .nil))
theorem next_vr {σ:Ren}{k v v':Value}(hk:flat k=true)(hv:VR σ v v'):VR σ (.tuple #[.bool true,k,v]) (.tuple #[.bool true,k,v']):=VRs.tuple (l:=[.bool true,k,v]) (l':=[.bool true,k,v']) (.cons (.bool true) (.cons (qky_ hk σ) (.cons hv .nil)))
theorem dst_lt {N:Nat}{o:Oper}{l:List Oper}(h:qkc_ N (o::l)=true){d:Nat}(hd:o.dst=some d):d<N:=by
 have h1:=qj4_ h o (List.mem_cons_self ..)
 simp only[operOk,bA,hd,dstOk] at h1
 exact qdm_ h1.2
theorem loopU {P:Program}(hm:P.follows .mixedOrders=true){ql:List (Nat×Nat)}(hq:QuietsOK P ql){K:List SK}(hK:SKsOK P K){l:List Entry}(hl:AllOK P l){m:List LEntry}(hL:AllLOK P m){u:UL}(h:chkU P ql K l m u=true):LOK P u.entry:=by
 obtain⟨M,hM⟩:=hL.all
 refine⟨u.es.length+1,fun fd body b hfd hbody hp=>?_⟩
 unfold chkU at h
 have hp':qlu_ body u.path=some (.loop b):=hp
 have hfd':P.funcs[u.f]?=some fd:=hfd
 rw[hfd',oc_some,hbody,oc_some,hp',oc_some] at h
 replace h:oc (shapeU b) false _=true:=h
 cases hsh:shapeU b with
 | none=>rw[hsh] at h; cases h
 | some s=>
 rw[hsh,oc_some] at h
 cases hq0:heads s.ops0.toList with
 | none=>rw[hq0] at h; cases h
 | some q0=>
 rw[hq0,oc_some] at h
 cases hr0:nextOp q0.1 with
 | none=>rw[hr0] at h; cases h
 | some r0=>
 rw[hr0,oc_some] at h
 simp only[bA] at h
 obtain⟨⟨hn1,hn2⟩,⟨hlo1,hlo2,hlo3,hlo4,hnx⟩,⟨hke,hnb1,hnb2⟩,h0,hall⟩:=h
 obtain rfl:=shapeU_eq hsh
 have hn1:=nB hn1
 have hn2:=nB hn2
 have hlo1:=Nat.le_of_ble_eq_true hlo1
 have hlo4:=Nat.le_of_ble_eq_true hlo4
 have hnx:=Nat.le_of_ble_eq_true hnx
 obtain⟨hop0,hdst0,hgd0⟩:=nextOp_eq hr0
 have hops0:=heads_eq hq0
 refine⟨hn1,fun n X H F k σ w a hins hnum hF hro hT hD hr=>?_⟩
 have hnum:H.next=u.num:=hnum
 have hcall:∀ n0,qju_ P n0 (callR P ql K l m):=fun n0=>qpp_ (qhq_ hm n0) (qe3_ P) hq hK (qs8_ hl) (ql8_ hM) 100000
 obtain⟨xi,hxi,hsi⟩:=qjv_ hins ⟨u.ib,.iter u.mb u.clock⟩ (by simp[UL.entry])
 obtain rfl:=sub_iter hsi
 obtain⟨xm,hxm,hsm⟩:=qjv_ hins ⟨u.mb,.map u.es u.clock⟩ (by simp[UL.entry])
 obtain⟨ci,di,mi,hσi,hni,cm,hobi,hσm,hdi,hmi⟩:=hr.blk _ _ hxi
 subst hdi hmi
 obtain⟨cm',dm,mm,hσm',hnm,hBm0⟩:=hr.blk _ _ hxm
 obtain⟨rfl,rfl,rfl⟩:=Ren.eq_of hσm hσm'
 have hBm:BR σ 0 0 (w.heap[cm]?) (.map u.es u.clock):=LB.sub_br (b:=.map u.es u.clock) hsm hBm0
 obtain⟨ES,hobm,hMR,_,_⟩:=hBm
 have hBm:BR σ 0 0 (w.heap[cm]?) (.map u.es u.clock):=LB.sub_br (b:=.map u.es u.clock) hsm hBm0
 obtain⟨⟨L,hLp,hMR⟩,hnod,hold⟩:=hMR
 have hlenL:L.length=u.es.length:=hMR.len
 have hnodL:(L.map (·.born)).Nodup:=((hLp.map (·.born)).nodup_iff).2 hnod
 have hne:ci ≠ cm:=fun e=>by rw[e,hobm] at hobi; cases hobi
 have hinsB:insOk H.blocks u.B=true:=insOk_tail (insOk_tail hins)
 have hQ:∀ c,(n.Q c∨OutQ σ H u.entry.ins c)→(n.Q c∨OutQ σ H u.B c):=fun c hc=>hc.imp id fun⟨b,x,d,mm,g1,g2,g3⟩=>⟨b,x,d,mm,g1,fun i hi=>g2 i (List.mem_cons_of_mem _ (List.mem_cons_of_mem _ hi)),g3⟩
 have hQi:n.Q ci∨OutQ σ H u.B ci:=.inr ⟨u.ib,_,_,_,hxi,qv0_ hnb1,hσi⟩
 have hQm:n.Q cm∨OutQ σ H u.B cm:=.inr ⟨u.mb,_,_,_,hxm,qv0_ hnb2,hσm⟩
 have notIn:∀ (b c d mm:Nat) (x:ABlk),H.blocks.get b=some x→σ b=some (c,d,mm)→n.Own c→(∃ i∈u.entry.ins,i.num=b)→¬ (n.Q c∨OutQ σ H u.entry.ins c):=by
  rintro b c d mm x hx hs hn ⟨i,hi,hib⟩ hc
  rcases hc with hc | ⟨b2,y,d2,m2,g1,g2,g3⟩
  ·exact hn.2 hc
  ·exact g2 i hi (hib.trans (hr.inj b b2 x y c d mm d2 m2 hx g1 hs g3))
 have hQi':=notIn _ _ _ _ _ hxi hσi hni ⟨⟨u.ib,.iter u.mb u.clock⟩,by simp[UL.entry],rfl⟩
 have hQm':=notIn _ _ _ _ _ hxm hσm hnm ⟨⟨u.mb,.map u.es u.clock⟩,by simp[UL.entry],rfl⟩
 have hr1:=ins_hr2 (Q:=n.Q) (X:=X) (n:=n.n) hr hinsB
 have hX:∀ b,X b→b<u.num:=fun b hb=>by rw[←hnum]; exact (hr.hol b hb).1
 have hdom:∀ b t,σ b=some t→b<u.num:=fun b t h=>by rw[←hnum]; exact hr.dom b t h
 have hlens:∀ q∈u.st,q.2.1.length=fd.ntmps:=fun q hq=>(allU_mem hall q hq).2.1
 have main:∀ (r mask:Nat) (T:List Value) (B:List LBlk) (a':Act) (w':World) (σ':Ren) (seen:Array Nat),(mask,T,B)∈u.st→restU mask u.es.length<r →
   AtU n.n (fun c=>n.Q c∨OutQ σ H u.entry.ins c) (fun c=>n.Q c∨OutQ σ H u.B c) X σ w u fd.ntmps L ES ci cm mask T B a' w' σ' seen →
   Code.roundsIn F k P s.code (CodeAt ⟨n,X⟩ fd.ntmps σ w (u.ex,(layT u.entry.T',u.entry.D,outL H u.entry))) r a' w':=by
  intro r
  induction r with
  | zero=>intro mask T B a' w' σ' seen _ h; omega
  | succ r ih=>
   intro mask T B a' w' σ' seen hmem hrest hat
   obtain⟨tr,df,hr',st,hit,hmp,bits⟩:=hat
   obtain⟨hisat,hlenT,hsteps,hlast⟩:=allU_mem hall _ hmem
   have hσi':=st.ext _ _ hσi
   have heval:=eval_at tr hisat hσi'
   rw[roundsIn_succ]
   have hdst:=dst_lt (N:=fd.ntmps) (o:=q0.1) (l:=q0.2)
   rcases run_next_at (P:=P) w' q0.1.type ci cm u.clock u.clock seen ⟨ES⟩ u.clock hit hmp hold (Nat.le_refl _) with⟨hz,hrun⟩ | ⟨E,hE,w1,hw1,hrun⟩
   · -- nothing is left
    have hfull:fullU mask u.es.length=true:=fullU_of fun i hi=>by
     have hi':i<L.length:=by rw[hlenL]; exact hi
     exact (bits i L[i] (by simp[hi'])).2 (leftOf_none hz (hLp.mem_iff.1 (List.getElem_mem hi')))
    unfold lastU at hlast
    rw[show fullU (mask,T,B).1 u.es.length=true from hfull,sel_true] at hlast
    cases hy:headU P (callR P ql K l m) fd.ntmps u.ib s false (.tuple #[.bool false]) (layT T) ⟨layO .nil B,u.num,u.num⟩ with
    | none=>rw[hy] at hlast; cases hlast
    | some y=>
    rw[hy,oc_some] at hlast
    unfold headU at hy
    obtain⟨hall2,hy⟩:=sel_none hy
    rw[hq0,oc_some,hr0,oc_some,hisat,sel_true] at hy
    obtain⟨y',hex,hy⟩:=oS hy
    obtain⟨hbo',hy⟩:=sel_none hy
    obtain rfl:=oI hy
    simp only[bA] at hall2
    have he:(execOp a'.eval q0.1).run P w'=.ok (.value (.tuple #[.bool false])) w':=by
     rw[exec_next hop0,heval]
     simp[Sem.run_bind,hrun]
    refine wpIn_seq (qvy_ (hcall _) hF hall2.1 hops0 hgd0 (fun c e=>by rw[hop0] at e; cases e) hdst0 (hdst (by rw[←hops0]; exact hall2.1) hdst0) he (VRs.tuple (l:=[.bool false]) (l':=[.bool false]) (.cons (.bool false) .nil)) hex tr hr' ?_)
    rintro a2 w2 ⟨σ2,t1,t2,t3,t4⟩
    refine wpIn_seq (wpIn_cond (t:=false) (eval_bool t1 hbo') (wpIn_exit ?_))
    have hlast:(nilD ([]:List DItem)&&(Nat.ble u.low y'.2.low&&goodE u 0 (.exit s.j) y'.1 y'.2))=true:=hlast
    simp only[bA] at hlast
    have hlow:=Nat.le_of_ble_eq_true hlast.2.1
    have st2:Step ⟨⟨n.n,fun c=>n.Q c∨OutQ σ H u.entry.ins c⟩,X⟩ σ w u.low σ2 w2:=st.trans ((t4.setQ (Q:=fun c=>n.Q c∨OutQ σ H u.entry.ins c) hQ).lower hlow) (Nat.le_refl _)
    have hkm:w2.heap[cm]?=w.heap[cm]?:=by
     rw[(t4.keep cm (by have:=getElem?_some_lt hmp; exact this) (.inl hQm)).1,hmp,hobm]
    exact postU (x:=(.exit s.j,(y'.1,[],y'.2))) hlast.2.2 hn2 hr hnum hnx hQ t1 (by rw[t2]; exact df) t3 st2 hσm hQm hnm.1 hQm' hBm hkm
   · -- one comes
    obtain⟨hEm,hEs⟩:=leftOf_mem hE
    obtain⟨i,hEi⟩:=List.getElem?_of_mem (hLp.mem_iff.2 hEm)
    obtain⟨e,hei,hkey,hval⟩:=hMR.at hEi
    have hil:i<u.es.length:=(List.getElem?_eq_some_iff.1 hei).1
    have hbit:mask.testBit i=false:=by
     cases hb:mask.testBit i with
     | false=>rfl
     | true=>exact absurd ((bits i E hEi).1 hb) hEs
    have hfl:=keysU_mem hke hei
    obtain⟨x,hx,hgood⟩:=stepsU_at hsteps hei (by rw[Nat.zero_add]; exact hbit)
    rw[Nat.zero_add] at hgood
    have hval':VR σ' e.val E.val:=hval.mono st.ext
    unfold roundU at hx
    obtain⟨y,hy,hxa⟩:=oS hx
    obtain⟨z,hz,hxr⟩:=oS hxa
    clear hxa hx
    unfold headU at hy
    obtain⟨hall2,hy⟩:=sel_none hy
    rw[hq0,oc_some,hr0,oc_some,hisat,sel_true] at hy
    obtain⟨y',hex,hy⟩:=oS hy
    obtain⟨hbo',hy⟩:=sel_none hy
    obtain rfl:=oI hy
    simp only[bA] at hall2
    unfold bodyU at hz
    obtain⟨q1,hq1,hz⟩:=oS hz
    obtain⟨r1,hr1e,hz⟩:=oS hz
    obtain⟨hisat1,hz⟩:=sel_none hz
    obtain⟨hop1,hdst1,hgd1⟩:=entryOp_eq hr1e
    have hops1:=heads_eq hq1
    have hci:ci<w1.heap.size:=by
     have:=getElem?_some_lt hit
     rcases hw1 with rfl | rfl<;>exact this
    have hgetw:∀ k,k ≠ ci→(Go.ChangeMaps.setBlock w1 ci (.mapIter (some cm) u.clock (seen.push E.born) u.clock)).heap[k]?=w'.heap[k]?:=fun k hk=>by
     rw[qtc_ _ _ _ _ hk]
     rcases hw1 with rfl | rfl<;>rfl
    have hselfw:=setBlock_self w1 ci (.mapIter (some cm) u.clock (seen.push E.born) u.clock) hci
    have hszw:(Go.ChangeMaps.setBlock w1 ci (.mapIter (some cm) u.clock (seen.push E.born) u.clock)).heap.size=w'.heap.size:=by
     rw[qq7_]
     rcases hw1 with rfl | rfl<;>rfl
    have hbelw:Below n.n w' (Go.ChangeMaps.setBlock w1 ci (.mapIter (some cm) u.clock (seen.push E.born) u.clock)):=by
     have h2:=qvz_ w1 ci (.mapIter (some cm) u.clock (seen.push E.born) u.clock) hni.1
     rcases hw1 with rfl | rfl
     ·exact h2
     ·exact ((Below.refl n.n w').drew).trans h2
    have he:(execOp a'.eval q0.1).run P w'=.ok (.value (.tuple #[.bool true,E.key,E.val])) (Go.ChangeMaps.setBlock w1 ci (.mapIter (some cm) u.clock (seen.push E.born) u.clock)):=by
     rw[exec_next hop0,heval]
     simp[Sem.run_bind,hrun]
    generalize Go.ChangeMaps.setBlock w1 ci (.mapIter (some cm) u.clock (seen.push E.born) u.clock)=wn at hgetw hselfw hszw hbelw he
    have hrn:HR ⟨⟨n.n,fun c=>n.Q c∨OutQ σ H u.B c⟩,X⟩ σ' ⟨layO .nil B,u.num,u.num⟩ wn:=hr'.asideQ hQi hni.1 (fun j d h=>(hr'.frz j _ d h).2.2.1 _ _ hσi' rfl) hszw hgetw
    have stn:Step ⟨⟨n.n,fun c=>n.Q c∨OutQ σ H u.entry.ins c⟩,X⟩ σ w u.low σ' wn:=st.aside hσi hQi' hni.1 hlo1 hbelw hgetw
    have hmpn:wn.heap[cm]?=some (.map ⟨ES⟩ u.clock):=by rw[hgetw cm (Ne.symm hne)]; exact hmp
    rw[hkey] at he
    refine wpIn_seq (qvy_ (hcall _) hF hall2.1 hops0 hgd0 (fun c e=>by rw[hop0] at e; cases e) hdst0 (hdst (by rw[←hops0]; exact hall2.1) hdst0) he (next_vr hfl hval') hex tr hrn ?_)
    rintro a3 w3 ⟨σ3,t1,t2,t3,t4⟩
    refine wpIn_seq (wpIn_cond (t:=true) (eval_bool t1 hbo') (wpIn_skip ?_))
    refine wpIn_block ?_
    have hσ3:=t4.ext _ _ hσi'
    have hit3:w3.heap[ci]?=some (.mapIter (some cm) u.clock (seen.push E.born) u.clock):=by
     rw[(t4.keep ci (by have:=getElem?_some_lt hselfw; exact this) (.inl hQi)).1]; exact hselfw
    have hmp3:w3.heap[cm]?=some (.map ⟨ES⟩ u.clock):=by
     rw[(t4.keep cm (by have:=getElem?_some_lt hmpn; exact this) (.inl hQm)).1]; exact hmpn
    have heval3:=eval_at t1 hisat1 hσ3
    have he3:(execOp a3.eval q1.1).run P w3=.ok (.value (.tuple #[e.key,E.val])) w3:=by
     rw[exec_entry hop1,heval3]
     simp[Sem.run_bind,run_entry_at (P:=P) w3 ci cm u.clock seen ⟨ES⟩ u.clock E hit3 hmp3 hEm hnod,hkey]
    have step3:Step ⟨⟨n.n,fun c=>n.Q c∨OutQ σ H u.entry.ins c⟩,X⟩ σ' wn y'.2.low σ3 w3:=t4.setQ (Q:=fun c=>n.Q c∨OutQ σ H u.entry.ins c) hQ
    have fin:∀ (x:Ex×XSt) (a5:Act) (w5:World) (σ5:Ren),goodU u (Nat.lor mask (Nat.shiftLeft 1 i)) x=true→TR σ5 fd.ntmps x.2.1 a5.tmps→DR σ5 x.2.2.1 a5.defers→HR ⟨⟨n.n,fun c=>n.Q c∨OutQ σ H u.B c⟩,X⟩ σ5 x.2.2.2 w5 →
      Step ⟨⟨n.n,fun c=>n.Q c∨OutQ σ H u.B c⟩,X⟩ σ3 w3 x.2.2.2.low σ5 w5→x.2.2.2.low≤y'.2.low →
      Exit.then (Code.roundsIn F k P s.code (CodeAt ⟨n,X⟩ fd.ntmps σ w (u.ex,(layT u.entry.T',u.entry.D,outL H u.entry))) r) (CodeAt ⟨n,X⟩ fd.ntmps σ w (u.ex,(layT u.entry.T',u.entry.D,outL H u.entry))) (eR x.1) a5 w5:=by
     intro x a5 w5 σ5 hg q1 q2 q3 q4 hlow
     have hul:u.low≤x.2.2.2.low:=by
      unfold goodU at hg
      simp only[bA] at hg
      exact Nat.le_of_ble_eq_true hg.2.1
     have q4':Step ⟨⟨n.n,fun c=>n.Q c∨OutQ σ H u.entry.ins c⟩,X⟩ σ3 w3 x.2.2.2.low σ5 w5:=q4.setQ (Q:=fun c=>n.Q c∨OutQ σ H u.entry.ins c) hQ
     refine endU ih hg hn2 hlens hr hnum hnx hQ hσm hQm hnm.1 hQm' hBm hobm q1 q2 q3 ((stn.trans ((step3.trans q4' hlow).lower hul) (Nat.le_refl _))) ?_ ?_ hil hbit hrest hEi hnodL bits
     ·rw[(q4.keep ci (by have:=getElem?_some_lt hit3; exact this) (.inl hQi)).1]; exact hit3
     ·rw[(q4.keep cm (by have:=getElem?_some_lt hmp3; exact this) (.inl hQm)).1]; exact hmp3
    have hD3:a3.defers=[]:=by rw[t2]; exact df
    unfold USh.inner
    cases hrs:s.rest with
    | none=>
     rw[hrs,oc_none] at hxr
     obtain rfl:=oI hxr
     refine qvy_ (hcall _) hF hall2.2 hops1 hgd1 (fun c e=>by rw[hop1] at e; cases e) hdst1 (dst_lt (by rw[←hops1]; exact hall2.2) hdst1) he3 (entry_vr hfl (hval'.mono t4.ext)) hz t1 t3 ?_
     rintro a4 w4 ⟨σ4,p1,p2,p3,p4⟩
     exact fin (.normal,(z.1,[],z.2)) a4 w4 σ4 hgood p1 (by rw[p2,hD3]; exact .nil) p3 p4 (qg5_ hz)
    | some c=>
     rw[hrs,oc_some] at hxr
     obtain⟨x2,hx2,hxr⟩:=oS hxr
     obtain rfl:=oI hxr
     refine wpIn_seq (qvy_ (hcall _) hF hall2.2 hops1 hgd1 (fun c e=>by rw[hop1] at e; cases e) hdst1 (dst_lt (by rw[←hops1]; exact hall2.2) hdst1) he3 (entry_vr hfl (hval'.mono t4.ext)) hz t1 t3 ?_)
     rintro a4 w4 ⟨σ4,p1,p2,p3,p4⟩
     have hpath:qlu_ body (true::false::true::true::false::u.path)=some c:=by
      have c1:qlu_ body (false::u.path)=some s.code:=qdy_ hp' rfl
      have c2:qlu_ body (true::false::u.path)=some (.seq (.cond (.tmp s.ok) .skip (.exit s.j)) (.block s.i s.inner)):=qdy_ c1 rfl
      have c3:qlu_ body (true::true::false::u.path)=some (.block s.i s.inner):=qdy_ c2 rfl
      have c4:qlu_ body (false::true::true::false::u.path)=some s.inner:=qdy_ c3 rfl
      refine qdy_ c4 ?_
      unfold USh.inner
      rw[hrs]; rfl
     have hex2:=(qvu_ (n0:=⟨⟨n.n,fun c=>n.Q c∨OutQ σ H u.B c⟩,X⟩) (hcall _) (qhq_ hm n.n) (qe3_ P) hq (quq_ _ _) rfl (loF_ok (ql8_ hM) hfd hbody _) fuel c _ _ _ hpath hx2 F k σ4 w4 a4 hF hro p1 (by rw[p2,hD3]; exact .nil) p3).1
     show c.wpIn F k P _ a4 w4
     refine wpIn_mono hex2 ?_
     rintro ex a5 w5 ⟨rfl,σ5,o1,o2,o3,o4⟩
     have hlk:=qvt_ (P:=P) (ql:=ql) (call:=callR P ql K l m) (rnd:=none) (N:=fd.ntmps) (qe3_ P) (quq_ (layLs m) u.f) fuel c _ _ _ hx2
     have o4':Step ⟨⟨n.n,fun c=>n.Q c∨OutQ σ H u.B c⟩,X⟩ σ3 w3 x2.2.2.2.low σ5 w5:=p4.trans o4 hlk
     have hll:x2.2.2.2.low≤y'.2.low:=Nat.le_trans hlk (qg5_ hz)
     obtain⟨ex2,s2⟩:=x2
     cases ex2 with
     | normal=>exact fin (.normal,s2) a5 w5 σ5 hgood o1 o2 o3 o4' hll
     | ret=>exact fin (.ret,s2) a5 w5 σ5 hgood o1 o2 o3 o4' hll
     | exit j=>
      show (if j=s.i then _ else _)
      unfold blockU at hgood
      by_cases hj:j=s.i
      ·rw[if_pos hj]
       subst hj
       simp only[Nat.beq_refl] at hgood
       exact fin (.normal,s2) a5 w5 σ5 hgood o1 o2 o3 o4' hll
      ·rw[if_neg hj]
       have hjb:Nat.beq j s.i=false:=by
        cases hb:Nat.beq j s.i with
        | false=>rfl
        | true=>exact absurd (nB hb) hj
       simp only[hjb] at hgood
       exact fin (.exit j,s2) a5 w5 σ5 hgood o1 o2 o3 o4' hll
 cases hf:findM 0 u.st with
 | none=>rw[hf] at h0; cases h0
 | some q=>
 rw[hf,oc_some] at h0
 simp only[bA] at h0
 have hmem:=findM_mem hf
 have hadf:a.defers=[]:=by
  have hD:DR σ [] a.defers:=hD
  generalize a.defers=ds at hD
  cases hD; rfl
 refine main (u.es.length+1) 0 q.1 q.2 a w (cutR u.num σ) #[] hmem ?_ ⟨sameU_TR hT (hlens _ hmem) h0.1,hadf,?_,qvx_ (Step.refl _ _ _ _) hdom,hobi,hobm,fun i E hE=>?_⟩
 ·have:restU 0 u.es.length≤u.es.length:=by
   unfold restU
   exact Nat.le_trans (List.length_filter_le _ _) (by simp)
  omega
 ·exact weak_hr hr1 hX h0.2 _
 ·simp
end Go.Proofs.YtleifgniphogeaaGreatDoor.Ax
namespace Go.Proofs.YtleifgniphogeaaGreatDoor.Ax
open Go.RowKit
variable [Tabs]
noncomputable def Rr (n:Nat)(v:Value)(r:List Value):List Value:=@Nat.rec (fun _=>List Value) r (fun _ ih=>v::ih) n
noncomputable def Kk (l r:List Value):List Value:=@List.rec Value (fun _=>List Value) r (fun a _ ih=>a::ih) l
noncomputable def Gg (b o n k:Nat):Value:=.slice (some ⟨b,o,none⟩) n (Nat.add big k)
noncomputable def upK (d b:Nat):Option Nat:=some (Nat.add b d)
noncomputable def dnK (d b:Nat):Option Nat:=sel (Nat.ble d b) (some (Nat.sub b d)) none
noncomputable def upV (d:Nat)(v:Value):Value:=oc (renV (upK d) 9 v) v fun u=>u
noncomputable def upL (d:Nat)(l:List Value):List Value:=@List.rec Value (fun _=>List Value) [] (fun v _ ih=>upV d v::ih) l
noncomputable def upM (d:Nat)(l:List MapEntry):List MapEntry:=@List.rec MapEntry (fun _=>List MapEntry) [] (fun e _ ih=>⟨e.key,upV d e.val,e.born⟩ :: ih) l
noncomputable def upLB (d:Nat)(b:LB):LB:=
 match b with
 | .cells e l=>.cells e (upL d l)
 | .map l c=>.map (upM d l) c
 | .iter m c=>.iter (Nat.add m d) c
 | .pair e l=>.pair e (upL d l)
noncomputable def upB (d:Nat)(b:LBlk):LBlk:=⟨Nat.add b.num d,upLB d b.blk⟩
noncomputable def upBs (d:Nat)(l:List LBlk):List LBlk:=@List.rec LBlk (fun _=>List LBlk) [] (fun b _ ih=>upB d b::ih) l
theorem mem_upBs {d:Nat}{l:List LBlk}{x:LBlk}:x∈upBs d l ↔ ∃ b∈l,x=upB d b:=by
 induction l with
 | nil=>exact⟨fun h=>(List.not_mem_nil h).elim,fun⟨_,h,_⟩=>(List.not_mem_nil h).elim⟩
 | cons b l ih=>
  show x∈upB d b::upBs d l ↔ _
  simp[ih]
noncomputable def Entry.up (e:Entry)(d:Nat):Entry:=⟨e.f,upL d e.args,upBs d e.ins,Nat.add e.num d,upV d e.val,upBs d e.outs,Nat.add e.next d⟩
noncomputable def backL (d:Nat)(l:List Value):Bool:=@List.rec Value (fun _=>Bool) true (fun v _ ih=>oc (renV (dnK d) 9 (upV d v)) false (fun u=>veq u v)&&ih) l
noncomputable def backB (d:Nat)(l:List LBlk):Bool:=@List.rec LBlk (fun _=>Bool) true (fun b _ ih=>oc (renB (dnK d) false (upLB d b.blk).lay) false (fun y=>b.blk.sub y)&&ih) l
noncomputable def forB (d:Nat)(l:List LBlk):Bool:=@List.rec LBlk (fun _=>Bool) true (fun b _ ih=>oc (renB (upK d) false b.blk.lay) false (fun y=>(upLB d b.blk).sub y)&&ih) l
noncomputable def upOk (e:Entry)(d:Nat):Bool:=
 backL d e.args&&(backB d e.ins&&(insOk (layO .nil e.ins) e.ins&&(oc (renV (upK d) 9 e.val) false (fun _=>true)&&(insOk (layO (layO .nil e.ins) e.outs) e.outs&&(forB d e.outs&&(allGe e.num e.outs&&Nat.ble e.num e.next))))))
theorem backL_ok {d:Nat}{σ σ0:Ren}(hκ:RenOK (dnK d) σ σ0):∀ {l l':List Value},backL d l=true→VRs σ (upL d l) l'→VRs σ0 l l'
 | [],l',_,hl=>by cases hl; exact .nil
 | v::l,l',h,hl=>by
  have h:(oc (renV (dnK d) 9 (upV d v)) false (fun u=>veq u v)&&backL d l)=true:=h
  simp only[bA] at h
  have hl:VRs σ (upV d v::upL d l) l':=hl
  cases hl with
  | cons h1 h2=>
   refine .cons ?_ (backL_ok hκ h.2 h2)
   cases hr:renV (dnK d) 9 (upV d v) with
   | none=>rw[hr] at h; exact absurd h.1 Bool.false_ne_true
   | some u=>
    rw[hr] at h
    have e:u=v:=qqk_ h.1
    exact qlw_ hκ _ _ _ _ (e ▸ hr) h1
theorem backB_ok {d:Nat}:∀ {l:List LBlk},backB d l=true→∀ b∈l,∃ y,renB (dnK d) false (upLB d b.blk).lay=some y∧b.blk.sub y=true
 | [],_,b,hb=>by cases hb
 | a::l,h,b,hb=>by
  have h:(oc (renB (dnK d) false (upLB d a.blk).lay) false (fun y=>a.blk.sub y)&&backB d l)=true:=h
  simp only[bA] at h
  rcases List.mem_cons.1 hb with rfl | hb
  ·cases hr:renB (dnK d) false (upLB d b.blk).lay with
   | none=>rw[hr] at h; exact absurd h.1 Bool.false_ne_true
   | some y=>rw[hr] at h; exact⟨y,rfl,h.1⟩
  ·exact backB_ok h.2 b hb
theorem forB_ok {d:Nat}:∀ {l:List LBlk},forB d l=true→∀ b∈l,∃ y,renB (upK d) false b.blk.lay=some y∧(upLB d b.blk).sub y=true
 | [],_,b,hb=>by cases hb
 | a::l,h,b,hb=>by
  have h:(oc (renB (upK d) false a.blk.lay) false (fun y=>(upLB d a.blk).sub y)&&forB d l)=true:=h
  simp only[bA] at h
  rcases List.mem_cons.1 hb with rfl | hb
  ·cases hr:renB (upK d) false b.blk.lay with
   | none=>rw[hr] at h; exact absurd h.1 Bool.false_ne_true
   | some y=>rw[hr] at h; exact⟨y,rfl,h.1⟩
  ·exact forB_ok h.2 b hb
theorem EntryOK.up {P:Program}{e:Entry}(he:EntryOK P e){d:Nat}(hc:upOk e d=true):EntryOK P (e.up d):=by
 unfold upOk at hc
 simp only[bA] at hc
 obtain⟨c1,c2,c3,c4,c5,c6,c7,c8⟩:=hc
 have c8:=Nat.le_of_ble_eq_true c8
 intro n X H σ w args' hins hnum hargs hr
 have hnum:H.next=e.num+d:=hnum
 let σ0:Ren:=⟨fun b=>σ (b+d),σ.z⟩
 have hdn:RenOK (dnK d) σ σ0:=.plain (fun b b' h t ht=>by
  obtain⟨h1,h2⟩:=sel_none h
  have h1:=Nat.le_of_ble_eq_true h1
  obtain rfl:=oI h2
  show σ (b-d+d)=some t
  rw[Nat.sub_add_cancel h1]; exact ht) fun _ _ _ h=>h
 have hr0:HR ⟨n,fun b=>X (b+d)⟩ σ0 ⟨layO .nil e.ins,e.num,e.num⟩ w:=by
  have old:∀ {b x},(layO .nil e.ins).get b=some x→∃ y,H.blocks.get (b+d)=some y∧∀ {c m o},BR σ c m o y→BR σ0 c m o x:=by
   intro b x hx
   rcases qnk_ hx with⟨c,hc,rfl,rfl⟩ | h0
   ·obtain⟨y,h1,h2⟩:=qjv_ hins (upB d c) (mem_upBs.2 ⟨c,hc,rfl⟩)
    obtain⟨z,h3,h4⟩:=backB_ok c2 c hc
    exact⟨y,h1,fun q=>LB.sub_br h4 (qtb_ hdn h3 (fun h=>by cases h) (LB.sub_br h2 q))⟩
   ·rw[Tr.get_nil] at h0; cases h0
  refine⟨hr.base,?_,?_,fun b t ht=>?_,fun b c d m hb=>hr.img _ c d m hb,fun b hb=>?_,hr.frz.mono (fun _ _ _ h=>h) (Nat.le_refl _) fun c hc hn=>⟨rfl,fun b t h=>hn (b+d) t h⟩⟩
  ·intro b x hx
   obtain⟨y,h1,h2⟩:=old hx
   obtain⟨c,d',m,q1,q2,q3⟩:=hr.blk _ y h1
   exact⟨c,d',m,q1,q2,h2 q3⟩
  ·intro b₁ b₂ x₁ x₂ c d₁ m₁ d₂ m₂ h1 h2 s1 s2
   obtain⟨y₁,h1,_⟩:=old h1
   obtain⟨y₂,h2,_⟩:=old h2
   have:=hr.inj _ _ y₁ y₂ c d₁ m₁ d₂ m₂ h1 h2 s1 s2
   omega
  ·have:=hr.dom _ _ ht
   show b<e.num
   omega
  ·obtain⟨h1,h2⟩:=hr.hol _ hb
   exact⟨by show b<e.num; omega,h2⟩
 obtain⟨g1,g2⟩:=he n (fun b=>X (b+d)) ⟨layO .nil e.ins,e.num,e.num⟩ σ0 w args' c3 rfl (backL_ok hdn c1 hargs) hr0
 refine⟨g1,fun k=>CallsIn.mono (g2 k) ?_⟩
 rintro en w' ⟨v',σ1,rfl,q1,q2,q3⟩
 let σ':Ren:=⟨fun b=>if b<d then σ b else σ1 (b-d),σ1.z⟩
 have hlo:∀ b,b<d→σ' b=σ b:=fun b h=>if_pos h
 have hhi:∀ b,σ' (b+d)=σ1 b:=fun b=>by
  show (if b+d<d then _ else σ1 (b+d-d))=_
  rw[if_neg (by omega),Nat.add_sub_cancel]
 have hsp:∀ b,b<d∨∃ c,b=c+d:=fun b=>by
  rcases Nat.lt_or_ge b d with h | h
  ·exact .inl h
  ·exact .inr ⟨b-d,by omega⟩
 have hup:RenOK (upK d) σ1 σ':=.plain (fun b b' h t ht=>by
  obtain rfl:=oI h
  show σ' (b+d)=some t
  rw[hhi]; exact ht) fun _ _ _ h=>h
 have hext:σ.Ext σ':=⟨fun b t hb=>by
  rcases hsp b with h | ⟨c,rfl⟩
  ·rw[hlo b h]; exact hb
  ·rw[hhi]; exact q3.ext c t hb,fun j c d h=>q3.ext.z j c d h⟩
 have cond:∀ c b d' m,σ0 b=some (c,d',m)→b<Nat.min e.num e.num:=fun c b d' m hs=>by
  have e1:Nat.min e.num e.num=e.num:=Nat.min_self _
  rw[e1]
  exact hr0.dom _ _ hs
 have keep:∀ c,c<w.heap.size→w'.heap[c]?=w.heap[c]?∧∀ b d' m,σ' b=some (c,d',m)→σ b=some (c,d',m):=fun c hc=>by
  obtain⟨k1,k2⟩:=q3.keep c hc (.inr (cond c))
  refine⟨k1,fun b d' m hs=>?_⟩
  rcases hsp b with h | ⟨x,rfl⟩
  ·rw[hlo b h] at hs; exact hs
  ·rw[hhi] at hs; exact k2 _ _ _ hs
 have hv:VR σ' (upV d e.val) v':=by
  unfold upV
  cases hr:renV (upK d) 9 e.val with
  | none=>rw[hr] at c4; cases c4
  | some u=>exact qlw_ hup _ _ _ _ hr q1
 have cases2:∀ {b x},(layO H.blocks (upBs d e.outs)).get b=some x→(∃ i y,b=i+d∧e.num≤i∧(layO (layO .nil e.ins) e.outs).get i=some y∧∀ {c m o},BR σ1 c m o y→BR σ' c m o x)∨H.blocks.get b=some x:=by
  intro b x hx
  rcases qnk_ hx with⟨c',hc',rfl,rfl⟩ | h0
  ·obtain⟨c,hc,rfl⟩:=mem_upBs.1 hc'
   obtain⟨y,h1,h2⟩:=qjv_ c5 c hc
   obtain⟨z,h3,h4⟩:=forB_ok c6 c hc
   exact .inl ⟨c.num,y,rfl,qvs_ c7 c hc,h1,fun q=>LB.sub_br h4 (qtb_ hup h3 (fun h=>by cases h) (LB.sub_br h2 q))⟩
  ·exact .inr h0
 refine⟨v',σ',rfl,hv,⟨q2.base,?_,?_,?_,?_,?_,?_⟩,⟨hext,q3.below,fun c hc _=>keep c hc,fun c hc _ j dd hj=>q3.kz c hc (.inr (cond c)) j dd hj⟩⟩
 ·intro b x hx
  rcases cases2 hx with⟨i,y,rfl,_,h1,h2⟩ | h1
  ·obtain⟨c,d',m,r1,r2,r3⟩:=q2.blk i y h1
   exact⟨c,d',m,by rw[hhi]; exact r1,r2,h2 r3⟩
  ·obtain⟨c,d',m,r1,r2,r3⟩:=hr.blk b x h1
   exact⟨c,d',m,hext _ _ r1,r2,by rw[(keep c (hr.img _ _ _ _ r1)).1]; exact r3.mono hext⟩
 ·have on:∀ {b₁ i x c d₁ m₁ d₂ m₂},H.blocks.get b₁=some x→e.num≤i→σ' b₁=some (c,d₁,m₁)→σ' (i+d)=some (c,d₂,m₂)→False:=by
   intro b₁ i x c d₁ m₁ d₂ m₂ h1 h2 s1 s2
   obtain⟨c',d',m,r1,_,_⟩:=hr.blk b₁ x h1
   have e':=hext _ _ r1
   rw[s1] at e'
   injection e' with e'
   injection e' with e' _
   subst e'
   have:=hr.dom _ _ ((keep c (hr.img _ _ _ _ r1)).2 _ _ _ s2)
   omega
  intro b₁ b₂ x₁ x₂ c d₁ m₁ d₂ m₂ h1 h2 s1 s2
  rcases cases2 h1 with⟨i₁,y₁,rfl,g1,h1,_⟩ | h1
  ·rcases cases2 h2 with⟨i₂,y₂,rfl,g2,h2,_⟩ | h2
   ·rw[hhi] at s1 s2
    rw[q2.inj _ _ y₁ y₂ c d₁ m₁ d₂ m₂ h1 h2 s1 s2]
   ·exact (on h2 g1 s2 s1).elim
  ·rcases cases2 h2 with⟨i₂,y₂,rfl,g2,h2,_⟩ | h2
   ·exact (on h1 g2 s1 s2).elim
   ·obtain⟨c₁,e₁,k₁,r1,_,_⟩:=hr.blk b₁ x₁ h1
    obtain⟨c₂,e₂,k₂,r2,_,_⟩:=hr.blk b₂ x₂ h2
    have f1:=hext _ _ r1
    have f2:=hext _ _ r2
    rw[s1] at f1
    rw[s2] at f2
    injection f1 with f1
    injection f1 with f1 _
    injection f2 with f2
    injection f2 with f2 _
    exact hr.inj b₁ b₂ x₁ x₂ c e₁ k₁ e₂ k₂ h1 h2 (f1 ▸ r1) (f2 ▸ r2)
 ·intro b t hb
  show b<e.next+d
  rcases hsp b with h | ⟨c,rfl⟩
  ·omega
  ·rw[hhi] at hb
   have:c<e.next:=q2.dom _ _ hb
   omega
 ·intro b c d' m hb
  rcases hsp b with h | ⟨x,rfl⟩
  ·rw[hlo b h] at hb
   exact Nat.lt_of_lt_of_le (hr.img _ _ _ _ hb) q3.below.size
  ·rw[hhi] at hb
   exact q2.img _ _ _ _ hb
 ·intro b hb
  obtain⟨h1,h2⟩:=hr.hol _ hb
  refine⟨by show b<e.next+d; omega,?_⟩
  rcases hsp b with h | ⟨c,rfl⟩
  ·rw[hlo b h]; exact h2
  ·rw[hhi]; exact (q2.hol c hb).2
 ·intro j c dd hj
  obtain⟨h1,h2,h3,h4⟩:=q2.frz j c dd hj
  refine⟨h1,h2,fun b t hb e'=>?_,h4⟩
  rcases hsp b with h | ⟨x,rfl⟩
  ·rw[hlo b h] at hb
   obtain⟨c',d',m'⟩:=t
   obtain rfl:c'=c:=e'
   exact (hr.frz j c' dd (q3.kz c' (hr.img _ _ _ _ hb) (.inr (cond c')) j dd hj)).2.2.1 b _ hb rfl
  ·rw[hhi] at hb
   exact h3 _ _ hb e'
end Go.Proofs.YtleifgniphogeaaGreatDoor.Ax
namespace Go.Proofs.YtleifgniphogeaaGreatDoor.Ax
open Go.RowKit
variable [Tabs]
def chain1 (v:Value):List PanicEntry:=[{ v,recovered:=false }]
def PanAt (n0:Bs)(N:Nat)(σ:Ren)(w:World)(x:Value×XSt)(e:Exit)(a':Act)(w':World):Prop:=
 ∃ v' σ',e=.panic (chain1 v')∧VR σ' x.1 v'∧TR σ' N x.2.1 a'.tmps∧DR σ' x.2.2.1 a'.defers∧HR n0 σ' x.2.2.2 w'∧Step n0 σ w x.2.2.2.low σ' w'
noncomputable def noLo:LoT:=fun _ _=>none
noncomputable def ex2 (rd:RegT)(P:Program)(ql:List (Nat×Nat))(call:CallT)(N n:Nat)(c:Code)(s:XSt):XRes:=exec2 rd P ql call noLo none N n c [] s
theorem PanAt.trans {N:Nat}{n0:Bs}{σ σ₁:Ren}{w w₁:World}{low:Nat}{x:Value×XSt}{e:Exit}{a':Act}{w':World}(st:Step n0 σ w low σ₁ w₁)(h:PanAt n0 N σ₁ w₁ x e a' w')(hl:x.2.2.2.low≤low):PanAt n0 N σ w x e a' w':=by
 obtain⟨v',σ',rfl,h1,h2,h3,h4,h5⟩:=h
 exact⟨v',σ',rfl,h1,h2,h3,h4,st.trans h5 hl⟩
end Go.Proofs.YtleifgniphogeaaGreatDoor.Ax
