/-
 Values and blocks under other numbers. Own work, plain lemmas.
-/
import Derived.Test.YthlikofobjhcoaaGreatAx5
set_option linter.unusedSimpArgs false
set_option linter.unusedVariables false
set_option linter.unnecessarySimpa false
set_option linter.deprecated false
set_option linter.unusedSectionVars false
/-! Values and blocks under other numbers. Own work, plain lemmas. -/
namespace Go.Proofs.YthlikofobjhcoaaGreat.Ax
open Go.RowKit
variable [Tabs]
noncomputable def mapO {α β:Type}(f:α→Option β)(l:List α):Option (List β):=
 @List.rec α (fun _=>Option (List β)) (some []) (fun a _ ih=>oc (f a) none fun x=>oc ih none fun r=>some (x::r)) l
theorem q1q_ {α β:Type}(f:α→Option β)(a:α)(l:List α):mapO f (a::l)=oc (f a) none fun x=>oc (mapO f l) none fun r=>some (x::r):=rfl
structure Kap where
 f:Nat→Option Nat
 φ:Nat→Option Nat
 ν:Bool
 μ:Nat→Bool
instance:CoeFun Kap (fun _=>Nat→Option Nat):=⟨Kap.f⟩
instance:Coe (Nat→Option Nat) Kap:=⟨fun f=>⟨f,fun _=>none,false,fun _=>false⟩⟩
structure RenOK (κ:Kap) (σ σ':Ren):Prop where
 f:∀ b b',κ b=some b'→∀ t,σ b=some t→σ' b'=some t
 z:∀ j c d,σ.z j c d→σ'.z j c d
 φ:∀ b j,κ.φ b=some j→Tabs.frz j=true∧∀ c d m,σ b=some (c,d,m)→σ'.z j c d
theorem RenOK.plain {f:Nat→Option Nat}{σ σ':Ren}(h:∀ b b',f b=some b'→∀ t,σ b=some t→σ' b'=some t)(hz:∀ j c d,σ.z j c d→σ'.z j c d):RenOK f σ σ':=⟨h,hz,fun b j hj=>by cases hj⟩
instance {κ:Kap} {σ σ':Ren}:CoeFun (RenOK κ σ σ') (fun _=>∀ b b',κ b=some b'→∀ t,σ b=some t→σ' b'=some t):=⟨RenOK.f⟩
theorem WinAt.zmono {σ σ':Ren}(h:∀ j c d,σ.z j c d→σ'.z j c d){j b d:Nat}(hw:WinAt σ j b d):WinAt σ' j b d:=by
 cases hw with
 | arg h1 hz=>exact .arg h1 hz
 | frz hz h1=>exact .frz hz (h _ _ _ h1)
noncomputable def renA (κ:Kap)(a:Addr):Option Addr:=oc a.spot (oc (κ a.block) none fun b=>some ⟨b,a.off,none⟩) fun _=>some a
noncomputable def frzA (κ:Kap)(a:Addr):Option Nat:=oc a.spot (κ.φ a.block) fun _=>none
noncomputable def frzS (j o n:Nat):Option Value:=some (.slice (some ⟨j,o,some 1⟩) n (Nat.add big n))
noncomputable def renFn (κ:Kap)(f:Fn):Option Fn:=
 match f with
 | .func g=>some (.func g)
 | .method s=>some (.method s)
 | .yield l=>oc (κ l) none fun b=>some (.yield b)
 | _=>none
def nil0:Value:=.slice (some ⟨64,0,some 1⟩) 0 0
noncomputable def nilE (f:Value→Option Value)(v:Value):Option Value:=
 match v with
 | .slice none 0 0=>some nil0
 | v=>f v
noncomputable def renN (κ:Kap)(f:Value→Option Value)(v:Value):Option Value:=
 match v with
 | .bool b=>some (.bool b)
 | .int k n=>some (.int k n)
 | .string s=>some (.string s)
 | .pointer a=>oc a (some (.pointer none)) fun a=>oc (renA κ a) none fun a=>some (.pointer (some a))
 | .slice a n k=>oc a (some (.slice none n k)) fun a=>oc (frzA κ a) (oc (renA κ a) none fun a=>some (.slice (some a) n k)) fun j=>frzS j a.off n
 | .map r=>oc r (some (.map none)) fun b=>oc (κ b) none fun b=>some (.map (some b))
 | .chan r=>oc r (some (.chan none)) fun _=>none
 | .float k n=>some (.float k n)
 | .nilFunc=>some .nilFunc
 | .nilIface=>some .nilIface
 | .iface t v=>oc (f v) none fun u=>some (.iface t u)
 | .agg x=>oc (mapO (@Bool.rec (fun _=>Value→Option Value) f (nilE f) κ.ν) x.toList) none fun l=>some (.agg ⟨l⟩)
 | .tuple x=>oc (mapO f x.toList) none fun l=>some (.tuple ⟨l⟩)
 | .func g x y=>oc (renFn κ g) none fun g=>oc (mapO f x.toList) none fun l=>oc (mapO f y.toList) none fun k=>some (.func g ⟨l⟩ ⟨k⟩)
 | _=>none
noncomputable def renV (κ:Kap)(n:Nat):Value→Option Value:=@Nat.rec (fun _=>Value→Option Value) (fun _=>none) (fun _ ih=>renN κ ih) n
theorem qxb_ {σ σ':Ren}{f:Value→Option Value}(hf:∀ v u v',f v=some u→VR σ v v'→VR σ' u v'):∀ {l k l':List Value},mapO f l=some k→VRs σ l l'→VRs σ' k l'
 | [],k,l',h,hl=>by obtain rfl:=oI h; cases hl; exact .nil
 | v::l,k,l',h,hl=>by
  rw[q1q_] at h
  obtain⟨x,hx,h⟩:=oS h
  obtain⟨r,hr,h⟩:=oS h
  obtain rfl:=oI h
  cases hl with
  | cons h1 h2=>exact .cons (hf _ _ _ hx h1) (qxb_ hf hr h2)
theorem renFn_r {κ:Kap}{σ σ':Ren}(hκ:RenOK κ σ σ'){f g f':Fn}(h:renFn κ f=some g)(hf:FnR σ f f'):FnR σ' g f':=by
 cases hf with
 | func f=>obtain rfl:=oI h; exact .func f
 | method s=>obtain rfl:=oI h; exact .method s
 | yield hl=>
  obtain⟨b,hb,h⟩:=oS h
  obtain rfl:=oI h
  exact .yield (hκ _ _ hb _ hl)
theorem quc_ {κ:Kap}{σ σ':Ren}(hκ:RenOK κ σ σ'):∀ (n:Nat) (v u v':Value),renV κ n v=some u→VR σ v v'→VR σ' u v':=by
 intro n
 induction n with
 | zero=>intro v u v' h; cases h
 | succ n ih=>
  intro v u v' h hv
  have h:renN κ (renV κ n) v=some u:=h
  cases hv with
  | bool b=>obtain rfl:=oI h; exact .bool b
  | int k m=>obtain rfl:=oI h; exact .int k m
  | float k m=>obtain rfl:=oI h; exact .float k m
  | string s=>obtain rfl:=oI h; exact .string s
  | ptr0=>obtain rfl:=oI h; exact .ptr0
  | any w=>obtain rfl:=oI h; exact .any _
  | zeros n=>cases h
  | glob g o=>obtain rfl:=oI h; exact .glob g o
  | win o hj=>obtain rfl:=oI h; exact .win o (hj.zmono hκ.z)
  | winS o m k hj hk hn=>obtain rfl:=oI h; exact .winS o m k (hj.zmono hκ.z) hk hn
  | winU o m k kk hj hn hk=>obtain rfl:=oI h; exact .winU o m k kk (hj.zmono hκ.z) hn hk
  | winU0 j o k kk a hk=>obtain rfl:=oI h; exact .winU0 j o k kk a hk
  | win0 j o k a hk=>obtain rfl:=oI h; exact .win0 j o k a hk
  | ptr o hb=>
   obtain⟨a,ha,h⟩:=oS h
   obtain rfl:=oI h
   obtain⟨b',hb',ha⟩:=oS ha
   obtain rfl:=oI ha
   exact .ptr o (hκ _ _ hb' _ hb)
  | slice0 m k=>obtain rfl:=oI h; exact .slice0 m k
  | @slice b c d mm o m k hb hk hn9=>
   have h:oc (frzA κ ⟨b,o,none⟩) (oc (renA κ ⟨b,o,none⟩) none fun a=>some (.slice (some a) m k)) (fun j=>frzS j o m)=some u:=h
   cases hφ:κ.φ b with
   | none=>
    rw[show frzA κ ⟨b,o,none⟩=none from hφ,oc_none] at h
    obtain⟨a,ha,h⟩:=oS h
    obtain rfl:=oI h
    obtain⟨b',hb',ha⟩:=oS ha
    obtain rfl:=oI ha
    exact .slice o m k (hκ _ _ hb' _ hb) hk hn9
   | some j=>
    rw[show frzA κ ⟨b,o,none⟩=some j from hφ,oc_some] at h
    obtain⟨hz,hc⟩:=hκ.φ b j hφ
    obtain rfl:=oI h
    exact .winU o m k _ (.frz hz (hc _ _ _ hb)) hn9 (Nat.le_refl _)
  | @sliceU b c d mm o o' m k' es hb hk ho hd hm he=>
   have h:oc (frzA κ ⟨b,o,none⟩) (oc (renA κ ⟨b,o,none⟩) none fun a=>some (.slice (some a) m (big+es))) (fun j=>frzS j o m)=some u:=h
   cases hφ:κ.φ b with
   | none=>
    rw[show frzA κ ⟨b,o,none⟩=none from hφ,oc_none] at h
    obtain⟨a,ha,h⟩:=oS h
    obtain rfl:=oI h
    obtain⟨b',hb',ha⟩:=oS ha
    obtain rfl:=oI ha
    exact .sliceU o o' m k' es (hκ _ _ hb' _ hb) hk ho hd hm he
   | some j=>
    rw[show frzA κ ⟨b,o,none⟩=some j from hφ,oc_some] at h
    obtain⟨hz,hc⟩:=hκ.φ b j hφ
    obtain rfl:=oI h
    rcases ho with rfl | rfl
    ·exact .winU0 _ _ _ _ _ (Nat.le_add_right _ _)
    ·exact .winU o m k' _ (.frz hz (hc _ _ _ hb)) hk (Nat.le_refl _)
  | @sliceL b c d mm o m k' es lb hb hk hl hm he=>
   have h:oc (frzA κ ⟨b,o,none⟩) (oc (renA κ ⟨b,o,none⟩) none fun a=>some (.slice (some a) m (bigL es lb))) (fun j=>frzS j o m)=some u:=h
   cases hφ:κ.φ b with
   | none=>
    rw[show frzA κ ⟨b,o,none⟩=none from hφ,oc_none] at h
    obtain⟨a,ha,h⟩:=oS h
    obtain rfl:=oI h
    obtain⟨b',hb',ha⟩:=oS ha
    obtain rfl:=oI ha
    exact .sliceL o m k' es lb (hκ _ _ hb' _ hb) hk hl hm he
   | some j=>
    rw[show frzA κ ⟨b,o,none⟩=some j from hφ,oc_some] at h
    obtain⟨hz,hc⟩:=hκ.φ b j hφ
    obtain rfl:=oI h
    exact .winU o m k' _ (.frz hz (hc _ _ _ hb)) hk (Nat.le_refl _)
  | map0=>obtain rfl:=oI h; exact .map0
  | map hb=>
   obtain⟨b',hb',h⟩:=oS h
   obtain rfl:=oI h
   exact .map (hκ _ _ hb' _ hb)
  | func hf hx hxs hy hys=>
   obtain⟨g,hg,h⟩:=oS h
   obtain⟨l,hl,h⟩:=oS h
   obtain⟨k,hk,h⟩:=oS h
   obtain rfl:=oI h
   exact VRs.func (renFn_r hκ hg hf) (qxb_ ih hl (VRs.arr hx hxs)) (qxb_ ih hk (VRs.arr hy hys))
  | nilFunc=>obtain rfl:=oI h; exact .nilFunc
  | iface t hv=>
   obtain⟨x,hx,h⟩:=oS h
   obtain rfl:=oI h
   exact .iface t (ih _ _ _ hx hv)
  | nilIface=>obtain rfl:=oI h; exact .nilIface
  | agg hx hxs=>
   obtain⟨l,hl,h⟩:=oS h
   obtain rfl:=oI h
   cases hν:κ.ν with
   | false=>
    rw[hν] at hl
    exact VRs.agg (qxb_ ih hl (VRs.arr hx hxs))
   | true=>
    rw[hν] at hl
    refine VRs.agg (qxb_ (f:=nilE (renV κ n)) (fun v u v' h1 h2=>?_) hl (VRs.arr hx hxs))
    unfold nilE at h1
    split at h1
    ·obtain rfl:=oI h1
     cases h2
     exact .win0 64 0 0 none (by decide)
    ·exact ih v u v' h1 h2
  | tuple hx hxs=>
   obtain⟨l,hl,h⟩:=oS h
   obtain rfl:=oI h
   exact VRs.tuple (qxb_ ih hl (VRs.arr hx hxs))
theorem nilE_vr {σ σ':Ren}{f:Value→Option Value}(hf:∀ v u v',f v=some u→VR σ v v'→VR σ' u v')(b:Bool):∀ v u v',(@Bool.rec (fun _=>Value→Option Value) f (nilE f) b) v=some u→VR σ v v'→VR σ' u v':=by
 cases b with
 | false=>exact hf
 | true=>
  intro v u v' h1 h2
  have h1:nilE f v=some u:=h1
  unfold nilE at h1
  split at h1
  ·obtain rfl:=oI h1
   cases h2
   exact .win0 64 0 0 none (by decide)
  ·exact hf v u v' h1 h2
noncomputable def mapT (f:Value→Option Value)(t:Tr Value):Option (Tr Value):=
 @Tr.rec Value (fun _=>Option (Tr Value)) (some .nil) (fun _ v _ ihl ihr=>oc ihl none fun l=>oc ihr none fun r=>oc v (some (.node l none r)) fun x=>oc (f x) none fun y=>some (.node l (some y) r)) t
theorem mapT_node (f:Value→Option Value)(l:Tr Value)(v:Option Value)(r:Tr Value):mapT f (.node l v r)=oc (mapT f l) none fun l=>oc (mapT f r) none fun r=>oc v (some (.node l none r)) fun x=>oc (f x) none fun y=>some (.node l (some y) r):=rfl
theorem qzg_ {f:Value→Option Value}:∀ {t t':Tr Value},mapT f t=some t'→∀ n,(t.get n=none∧t'.get n=none)∨∃ x y,t.get n=some x∧t'.get n=some y∧f x=some y
 | .nil,t',h,n=>by obtain rfl:=oI h; exact .inl ⟨rfl,rfl⟩
 | .node l v r,t',h,n=>by
  rw[mapT_node] at h
  obtain⟨l',hl,h⟩:=oS h
  obtain⟨r',hr,h⟩:=oS h
  have hl':=qzg_ hl (n / 2)
  have hr':=qzg_ hr (n / 2-1)
  cases v with
  | none=>
   obtain rfl:=oI h
   rw[Tr.get_node,Tr.get_node]
   by_cases h0:n=0
   ·rw[if_pos h0,if_pos h0]; exact .inl ⟨rfl,rfl⟩
   ·rw[if_neg h0,if_neg h0]
    by_cases h1:n % 2=1
    ·rw[if_pos h1,if_pos h1]; exact hl'
    ·rw[if_neg h1,if_neg h1]; exact hr'
  | some x=>
   obtain⟨y,hy,h⟩:=oS h
   obtain rfl:=oI h
   rw[Tr.get_node,Tr.get_node]
   by_cases h0:n=0
   ·rw[if_pos h0,if_pos h0]; exact .inr ⟨x,y,rfl,rfl,hy⟩
   ·rw[if_neg h0,if_neg h0]
    by_cases h1:n % 2=1
    ·rw[if_pos h1,if_pos h1]; exact hl'
    ·rw[if_neg h1,if_neg h1]; exact hr'
def stayV (v:Value):Bool:=
 match v with
 | .slice (some ⟨_,_,some 1⟩) _ _=>true
 | v=>flat v
theorem stay_vr {v v':Value}(h:stayV v=true){σ σ':Ren}(hz:∀ j c d,σ.z j c d→σ'.z j c d)(hv:VR σ v v'):VR σ' v v':=by
 unfold stayV at h
 split at h
 ·rename_i b o n k
  cases hv with
  | winS _ _ _ hj hk hn=>exact .winS _ _ _ (hj.zmono hz) hk hn
  | win0 _ _ _ a hk=>exact .win0 _ _ _ a hk
  | winU _ _ _ _ hj hn hk=>exact .winU _ _ _ _ (hj.zmono hz) hn hk
  | winU0 _ _ _ _ a hk=>exact .winU0 _ _ _ _ a hk
 ·have:=qfs_ h hv
  subst this
  exact qua_ h σ'
def FlatC (c:Tr Value):Prop:=∀ i v,c.get i=some v→stayV v=true
def FlatB (x:ABlk):Prop:=
 match x with
 | .cells c _=>FlatC c
 | .map es _=>∀ e∈es,plain e.val=true
 | _=>False
theorem plain_stay {v v':Value}(h:plain v=true){σ σ':Ren}(hv:VR σ v v'):VR σ' v v':=by
 have e:=qng_ h hv
 subst e
 unfold plain at h
 split at h
 ·exact VRs.agg (qiw_ h σ')
 ·exact qua_ h σ'
theorem MRs.stay {σ σ':Ren}{l l':List MapEntry}(h:MRs σ l l'):(∀ e∈l,plain e.val=true)→MRs σ' l l':=by
 induction h with
 | nil=>exact fun _=>.nil
 | cons hk hv _ ih=>exact fun hp=>.cons hk (plain_stay (hp _ (List.mem_cons_self ..)) hv) (ih fun e he=>hp e (List.mem_cons_of_mem _ he))
noncomputable def renE (κ:Kap)(e:MapEntry):Option MapEntry:=oc (renV κ 9 e.val) none fun v=>some { e with val:=v }
noncomputable def renB (κ:Kap)(fl:Bool)(x:ABlk):Option ABlk:=
 match x with
 | .cells c e=>sel fl (some (.cells c e)) (oc (mapT (@Bool.rec (fun _=>Value→Option Value) (renV κ 9) (nilE (renV κ 9)) (κ.μ e)) c) none fun c=>some (.cells c e))
 | .loop r=>oc (mapT (renV κ 9) r.T) none fun T=>oc (κ r.defers) none fun d=>some (.loop { r with T:=T,defers:=d })
 | .marks b=>some (.marks b)
 | .map es k=>sel fl (some (.map es k)) (oc (mapO (renE κ) es) none fun es=>some (.map es k))
 | .box v e=>oc (renV κ 9 v) none fun v=>some (.box v e)
 | .pair c e=>oc (mapT (renV κ 9) c) none fun c=>some (.pair c e)
 | .zeros _ _=>none
 | .iter b k=>oc (κ b) none fun b=>some (.iter b k)
 | .iterAt b k n=>oc (κ b) none fun b=>some (.iterAt b k n)
theorem mapT_TR {κ:Kap}{σ σ':Ren}(hκ:RenOK κ σ σ'){n N:Nat}{T T':Tr Value}{ts:Array Value}(h:mapT (renV κ n) T=some T')(hT:TR σ N T ts):TR σ' N T' ts:=by
 refine⟨hT.size,fun i=>?_⟩
 have hs:=hT.slot i
 unfold tget at hs ⊢
 rcases qzg_ h i with⟨h1,h2⟩ | ⟨x,y,h1,h2,h3⟩
 ·rw[h2,oc_none]
  rw[h1,oc_none] at hs
  generalize ts.getD i undef=v at hs
  cases hs with
  | tuple hx hxs=>exact .tuple hx fun i h=>absurd h (Nat.not_lt_zero _)
 ·rw[h2,oc_some]
  rw[h1,oc_some] at hs
  exact quc_ hκ _ _ _ _ h3 hs
theorem mapO_MRs {κ:Kap}{σ σ':Ren}(hκ:RenOK κ σ σ'):∀ {l k l':List MapEntry},mapO (renE κ) l=some k→MRs σ l l'→MRs σ' k l'
 | [],k,l',h,hl=>by obtain rfl:=oI h; cases hl; exact .nil
 | v::l,k,l',h,hl=>by
  rw[q1q_] at h
  obtain⟨x,hx,h⟩:=oS h
  obtain⟨r,hr,h⟩:=oS h
  obtain rfl:=oI h
  obtain⟨u,hu,hx⟩:=oS hx
  obtain rfl:=oI hx
  cases hl with
  | cons h1 h3 h4=>exact .cons h1 (quc_ hκ _ _ _ _ hu h3) (mapO_MRs hκ hr h4)
theorem renB_br {κ:Kap}{σ σ':Ren}(hκ:RenOK κ σ σ'){fl:Bool}{x y:ABlk}(h:renB κ fl x=some y)(hfl:fl=true→FlatB x){d m:Nat}{o:Option Obj}(hx:BR σ d m o x):BR σ' d m o y:=by
 cases x with
 | cells c e=>
  obtain⟨C,h1,h2,h3⟩:=hx
  rcases qa_ h with⟨hf,h⟩ | ⟨hf,h⟩
  ·obtain rfl:=oI h
   have hF:FlatC c:=hfl hf
   refine⟨C,h1,h2,fun i v hv=>?_⟩
   obtain⟨v',a,b⟩:=h3 i v hv
   exact⟨_,a,stay_vr (hF i _ hv) hκ.z b⟩
  ·obtain⟨c',hc,h⟩:=oS h
   obtain rfl:=oI h
   refine⟨C,h1,h2,fun i v hv=>?_⟩
   rcases qzg_ hc i with⟨_,g2⟩ | ⟨u,w,g1,g2,g3⟩
   ·rw[g2] at hv; cases hv
   ·rw[g2] at hv
    obtain rfl:=oI hv
    obtain⟨v',a,b⟩:=h3 i u g1
    exact⟨v',a,nilE_vr (quc_ hκ 9) _ _ _ _ g3 b⟩
 | loop r=>
  obtain⟨T,hT,h⟩:=oS h
  obtain⟨dd,hd,h⟩:=oS h
  obtain rfl:=oI h
  obtain⟨fn,ts,dc,h1,h2,h3,h4⟩:=hx
  exact⟨fn,ts,dc,h1,mapT_TR hκ hT h2,hκ _ _ hd _ h3,h4⟩
 | marks b=>obtain rfl:=oI h; exact hx
 | map es k=>
  obtain⟨ES,h1,h2,h3,h4⟩:=hx
  obtain⟨⟨L,p1,p2⟩,p3⟩:=h2
  rcases qa_ h with⟨hf,h⟩ | ⟨hf,h⟩
  ·obtain rfl:=oI h
   exact⟨ES,h1,⟨⟨L,p1,p2.stay (hfl hf)⟩,p3⟩,h3,h4⟩
  obtain⟨es',he,h⟩:=oS h
  obtain rfl:=oI h
  exact⟨ES,h1,⟨⟨L,p1,mapO_MRs hκ he p2⟩,p3⟩,h3,h4⟩
 | pair c e=>
  obtain⟨c',hc,h⟩:=oS h
  obtain rfl:=oI h
  obtain⟨C,h1,h2,h3,h4⟩:=hx
  refine⟨C,h1,h2,fun i v hv=>?_,h4⟩
  rcases qzg_ hc i with⟨_,g2⟩ | ⟨u,w,g1,g2,g3⟩
  ·rw[g2] at hv; cases hv
  ·rw[g2] at hv
   obtain rfl:=oI hv
   obtain⟨v',a,b⟩:=h3 i u g1
   exact⟨v',a,quc_ hκ _ _ _ _ g3 b⟩
 | zeros n e=>cases h
 | box v e=>
  obtain⟨u,hu,h⟩:=oS h
  obtain rfl:=oI h
  obtain⟨v',h1,h2,h3⟩:=hx
  exact⟨v',h1,quc_ hκ _ _ _ _ hu h2,h3⟩
 | iter b k=>
  obtain⟨b',hb,h⟩:=oS h
  obtain rfl:=oI h
  obtain⟨c,h1,h2,h3⟩:=hx
  exact⟨c,h1,hκ _ _ hb _ h2,h3⟩
 | iterAt b k n=>
  obtain⟨b',hb,h⟩:=oS h
  obtain rfl:=oI h
  obtain⟨c,seen,h1,h2,h3⟩:=hx
  exact⟨c,seen,h1,hκ _ _ hb _ h2,h3⟩
noncomputable def renD (κ:Kap)(d:DItem):Option DItem:=
 match d with
 | .mark b=>oc (κ b) none fun b=>some (.mark b)
 | .call g cap=>oc (mapO (renV κ 9) cap) none fun c=>some (.call g c)
theorem mapO_DR {κ:Kap}{σ σ':Ren}(hκ:RenOK κ σ σ'):∀ {l k:List DItem} {ds:List Deferred},mapO (renD κ) l=some k→DR σ l ds→DR σ' k ds
 | [],k,ds,h,hl=>by obtain rfl:=oI h; cases hl; exact .nil
 | v::l,k,ds,h,hl=>by
  rw[q1q_] at h
  obtain⟨x,hx,h⟩:=oS h
  obtain⟨r,hr,h⟩:=oS h
  obtain rfl:=oI h
  cases hl with
  | cons h1 h2=>
   obtain⟨b,hb,hx⟩:=oS hx
   obtain rfl:=oI hx
   exact .cons (hκ _ _ hb _ h1) (mapO_DR hκ hr h2)
  | call h1 h2=>
   obtain⟨c,hc,hx⟩:=oS hx
   obtain rfl:=oI hx
   exact .call (qxb_ (fun v u v' a b=>quc_ hκ _ _ _ _ a b) hc h1) (mapO_DR hκ hr h2)
end Go.Proofs.YthlikofobjhcoaaGreat.Ax
namespace Go.Proofs.YthlikofobjhcoaaGreat.Ax
open Go.RowKit
variable [Tabs]
noncomputable def Rr (n:Nat)(v:Value)(r:List Value):List Value:=@Nat.rec (fun _=>List Value) r (fun _ ih=>v::ih) n
noncomputable def Kk (l r:List Value):List Value:=@List.rec Value (fun _=>List Value) r (fun a _ ih=>a::ih) l
noncomputable def Gg (b o n k:Nat):Value:=.slice (some ⟨b,o,none⟩) n (Nat.add big k)
end Go.Proofs.YthlikofobjhcoaaGreat.Ax
