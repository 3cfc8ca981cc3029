/-
  The pure side. No condition.
-/
import Derived.Test.YthlikofobjhcoaaGreatPtbCTold
import Derived.IntWalk
set_option linter.unusedSimpArgs false
set_option linter.unusedVariables false
set_option linter.unusedSectionVars false
set_option linter.unnecessarySimpa false
noncomputable section
namespace Go.Proofs.YthlikofobjhcoaaGreat.ptb28
open Go Go.Proofs.YthlikofobjhcoaaGreat Ax
variable [Args]


theorem w64_id {x:Int}(h1:-9223372036854775808≤x)(h2:x<9223372036854775808):w64 x=x:=IntWalk.i64_in _ (by omega)
theorem qqg_ {x:Int}(h1:-1000000000000≤x)(h2:x≤1000000000000):w64 x=x:=w64_id (by omega) (by omega)
theorem w64_inc {i:Nat}(h:i≤1000000000):w64 ((i:Int)+1)=((i+1:Nat):Int):=by rw[qqg_ (by omega) (by omega)]; rfl
theorem whileI {st ρ:Type}{B:st→Option (st ⊕ ρ)}(I:st→Prop)(μ:st→Nat)(Q:ρ→Prop)(h:∀ s,I s→(∃ s',I s'∧μ s' < μ s∧B s=some (.inl s'))∨∃ r,Q r∧B s=some (.inr r)):∀ (n:Nat) (s:st),I s→μ s<n→∃ r,Q r∧iterM B n s=some r
 | 0,s,_,hm=>absurd hm (Nat.not_lt_zero _)
 | n+1,s,hi,hm=>by
  rcases h s hi with⟨s',h1,h2,h3⟩ | ⟨r,h1,h2⟩
  ·obtain⟨r,q1,q2⟩:=whileI I μ Q h n s' h1 (by omega)
   exact⟨r,q1,by rw[qbe_,h3]; exact q2⟩
  ·exact⟨r,h1,by rw[qbe_,h2]; rfl⟩
theorem hoare {σ st ρ:Type}{B:st→Option (st ⊕ ρ)}(S:σ→Int→st)(I:Nat→σ→Prop)(Q:ρ→Prop)(len:Nat)
  (h1:∀ (i:Nat) (s:σ),i<len→I i s→(∃ s',I (i+1) s'∧B (S s (i:Int))=some (.inl (S s' ((i+1:Nat):Int))))∨∃ r,Q r∧B (S s (i:Int))=some (.inr r))
  (h2:∀ s,I len s→∃ r,Q r∧B (S s (len:Int))=some (.inr r)):∀ (n i:Nat) (s:σ),i≤len→I i s→len-i<n→∃ r,Q r∧iterM B n (S s (i:Int))=some r
 | 0,i,s,_,_,hm=>absurd hm (Nat.not_lt_zero _)
 | n+1,i,s,hl,hi,hm=>by
  have main:(∃ s',i<len∧I (i+1) s'∧B (S s (i:Int))=some (.inl (S s' ((i+1:Nat):Int))))∨∃ r,Q r∧B (S s (i:Int))=some (.inr r):=by
   by_cases hlt:i<len
   ·rcases h1 i s hlt hi with⟨s',a,b⟩ | h
    ·exact .inl ⟨s',hlt,a,b⟩
    ·exact .inr h
   ·obtain rfl:i=len:=by omega
    exact .inr (h2 s hi)
  rcases main with⟨s',g0,g1,g3⟩ | ⟨r,g1,g2⟩
  ·obtain⟨r,q1,q2⟩:=hoare S I Q len h1 h2 n (i+1) s' (by omega) g1 (by omega)
   exact⟨r,q1,by rw[qbe_,g3]; exact q2⟩
  ·exact⟨r,g1,by rw[qbe_,g2]; rfl⟩
theorem scan {β γ:Type}{B:Int→Option (Int ⊕ (β ⊕ γ))}(len:Nat)(p:Nat→Bool)(a:β)(c:γ)
  (h1:∀ i:Nat,i<len→B (i:Int)=some (if p i=true then .inl ((i+1:Nat):Int) else .inr (.inl a))) (h2:B (len:Int)=some (.inr (.inr c))) (n:Nat) (hn:len<n) :
  iterM B n 0=some (if (List.range len).all p=true then .inr c else .inl a):=by
 obtain⟨r,q1,q2⟩:=hoare (B:=B) (σ:=Unit) (fun _ i=>i) (fun i _=>∀ j,j<i→p j=true) (fun r=>r=if (List.range len).all p=true then .inr c else .inl a) len
  (fun i s hi hI=>by
   by_cases hp:p i=true
   ·refine .inl ⟨(),fun j hj=>?_,by rw[h1 i hi,if_pos hp]⟩
    rcases Nat.lt_or_ge j i with h | h
    ·exact hI j h
    ·obtain rfl:j=i:=by omega
     exact hp
   ·refine .inr ⟨.inl a,?_,by rw[h1 i hi,if_neg hp]⟩
    rw[if_neg]
    intro hall
    exact hp (List.all_eq_true.1 hall i (List.mem_range.2 hi)))
  (fun s hI=>⟨.inr c,by rw[if_pos (List.all_eq_true.2 fun j hj=>hI j (List.mem_range.1 hj))],h2⟩) n 0 () (Nat.zero_le _) (fun j hj=>absurd hj (Nat.not_lt_zero _)) (by omega)
 rw[show (0:Int)=((0:Nat):Int) from rfl,q2,q1]
theorem qzx_ {α:Type}{l:List α}{i:Nat}{d:α}(h:i<l.length):l.getD i d∈l:=by
 rw[List.getD_eq_getElem?_getD,List.getElem?_eq_getElem h]; exact List.getElem_mem h
theorem q13_ {α:Type}{l:List α}{x:α}(d:α)(h:x∈l):∃ i,i<l.length∧l.getD i d=x:=by
 obtain⟨i,hi,rfl⟩:=List.mem_iff_getElem.1 h
 exact⟨i,hi,by simp[List.getD_eq_getElem?_getD,hi]⟩
theorem qzy_ {α:Type}{l:List α}{i j:Nat}{x d:α}(h:i<l.length):(l.set i x).getD j d=if j=i then x else l.getD j d:=by
 simp only[List.getD_eq_getElem?_getD,List.getElem?_set]
 by_cases hj:i=j
 ·subst hj; simp[h]
 ·rw[if_neg hj,if_neg (Ne.symm hj)]
class Cur where
 x:WL rw_iiiiiiLu

section
variable [Cur]

abbrev P8:=Int×Int×Int×Int×Int×Int×NL×Int
def d8:P8:=(0,0,0,0,0,0,nl0,0)
def pt (i:Nat):P8:=Cur.x.l.getD i (0,0,0,0,0,0,nl0,0)
def kd (i:Nat):List Int:=(pt i).2.2.2.2.2.2.1.l
def atF (i:Nat):Int:=(pt i).2.2.1
def toF (i:Nat):Int:=(pt i).2.2.2.2.1
theorem kd_le (i:Nat):(kd i).length≤140737488355328:=(pt i).2.2.2.2.2.2.1.le
theorem w64_inc' {i:Nat}(h:i<9223372036854775807):w64 ((i:Int)+1)=((i+1:Nat):Int):=by
 rw[w64_id (by omega) (by omega)]; rfl
theorem bound_all {α:Type}(f:α→Nat):∀ l:List α,∃ K,∀ x∈l,f x≤K
 | []=>⟨0,fun x h=>by cases h⟩
 | a::l=>by
  obtain⟨K,hK⟩:=bound_all f l
  refine⟨max (f a) K,fun x hx=>?_⟩
  rcases List.mem_cons.1 hx with rfl | hx
  ·exact Nat.le_max_left _ _
  ·exact Nat.le_trans (hK x hx) (Nat.le_max_right _ _)
theorem bound_kd:∃ K,∀ i,(kd i).length≤K:=by
 obtain⟨K,hK⟩:=bound_all (fun x:P8=>x.2.2.2.2.2.2.1.l.length) Cur.x.l
 refine⟨K,fun i=>?_⟩
 rcases Nat.lt_or_ge i Cur.x.l.length with h | h
 ·exact hK (pt i) (qzx_ h)
 ·have:pt i=d8:=by unfold pt; rw[List.getD_eq_getElem?_getD,List.getElem?_eq_none h]; rfl
  unfold kd; rw[this]; exact Nat.zero_le _
inductive Ks:Nat→Nat→Nat→Int→Nat→Prop
 | done {i k next:Nat} {a:Int} (hk:k=(kd i).length) (ha:a≤toF i):Ks i k next a next
 | kid {i k next e' e:Nat} {a:Int} (hk:k<(kd i).length) (hv:(kd i).getD k 0=(next:Int)) (hn:next<Cur.x.l.length) (ha:a≤atF next) (h1:Ks next 0 (next+1) (atF next) e') (h2:Ks i (k+1) e' (toF next) e):Ks i k next a e
theorem Ks.lt {i k next e:Nat}{a:Int}(h:Ks i k next a e):next≤e:=by
 induction h with
 | done=>exact Nat.le_refl _
 | kid _ _ _ _ _ _ ih1 ih2=>omega
theorem Ks.len {i k next e:Nat}{a:Int}(h:Ks i k next a e):k≤(kd i).length:=by
 cases h with
 | done hk=>omega
 | kid hk=>omega
theorem Ks.hi {i k next e:Nat}{a:Int}(h:Ks i k next a e):next≤Cur.x.l.length→e≤Cur.x.l.length:=by
 induction h with
 | done=>exact id
 | kid hk hv hn ha _ _ ih1 ih2=>exact fun _=>ih2 (ih1 (by omega))
theorem Ks.cover {i k next e:Nat}{a:Int}(h:Ks i k next a e):∀ j,next≤j→j<e→∃ f,f≤e∧Ks j 0 (j+1) (atF j) f:=by
 induction h with
 | done=>exact fun j h1 h2=>absurd h1 (by omega)
 | @kid i k next e' e a hk hv hn ha h1 h2 ih1 ih2=>
  intro j h3 h4
  have l2:=h2.lt
  by_cases e1:j=next
  ·subst e1; exact⟨e',l2,h1⟩
  ·rcases Nat.lt_or_ge j e' with h5 | h5
   ·obtain⟨f,g1,g2⟩:=ih1 j (by omega) h5
    exact⟨f,by omega,g2⟩
   ·exact ih2 j h5 h4
theorem Ks.kids {i k next e:Nat}{a:Int}(h:Ks i k next a e):∀ q,k≤q→q<(kd i).length→∃ c:Nat,(kd i).getD q 0=(c:Int)∧next≤c∧c<e∧c<Cur.x.l.length:=by
 induction h with
 | done hk=>exact fun q h1 h2=>by omega
 | @kid i k next e' e a hk hv hn ha h1 h2 ih1 ih2=>
  intro q h3 h4
  have l1:=h1.lt
  have l2:=h2.lt
  by_cases e1:q=k
  ·subst e1; exact⟨next,hv,Nat.le_refl _,by omega,hn⟩
  ·obtain⟨c,g1,g2,g3,g4⟩:=ih2 q (by omega) h4
   exact⟨c,g1,by omega,g3,g4⟩
theorem Ks.mono {i k next e:Nat}{a:Int}(h:Ks i k next a e)(hs:∀ j,j<Cur.x.l.length→atF j≤toF j):a≤toF i:=by
 induction h with
 | done _ ha=>exact ha
 | @kid i k next e' e a hk hv hn ha h1 h2 ih1 ih2=>
  have:=hs next hn
  omega

theorem end_ok:∀ (n i:Nat) (K:Nat),(∀ j,(kd j).length≤K)→i<Cur.x.l.length→Cur.x.l.length-i+K+10<n→∃ r,qg_ n Cur.x (i:Int)=some r∧(0≤r→∃ e:Nat,r=e∧Ks i 0 (i+1) (atF i) e)
 | 0,i,K,hK,hi,hn=>absurd hn (Nat.not_lt_zero _)
 | n+1,i,K,hK,hi,hn=>by
  have hrec:∀ j:Nat,i<j→j<Cur.x.l.length→∃ r,qg_ n Cur.x (j:Int)=some r∧(0≤r→∃ e:Nat,r=e∧Ks j 0 (j+1) (atF j) e):=fun j h1 h2=>end_ok n j K hK h2 (by omega)
  have hkl:=kd_le i
  have loop:∀ (f k:Nat) (next:Int) (a:Int),k≤(kd i).length→(i:Int)<next→(kd i).length-k<f →
    ∃ r,iterM (qo_ (qg_ n) n Cur.x (i:Int)) f (next,a,(k:Int))=some r∧(r=.inl ()∨∃ (e:Nat) (b:Int),r=.inr ((e:Int),b)∧(b≤toF i→∃ q:Nat,next=q∧Ks i k q a e)):=by
   intro f
   induction f with
   | zero=>intro k next a _ _ h; exact absurd h (Nat.not_lt_zero _)
   | succ f ih=>
    intro k next a hk hnx hf
    rw[qbe_]
    unfold qo_
    dsimp only
    rw[if_pos (by omega)]
    simp only[Option.bind_some,Int.toNat_natCast]
    change ∃ r,((if (k:Int)<((((kd i).length:Nat)):Int) then _ else _:Option _).bind _)=some r∧_
    by_cases hlt:k<(kd i).length
    ·rw[if_pos (by omega)]
     change ∃ r,((if 0≤(k:Int)∧(k:Int)<(((kd i).length:Nat):Int) then (if k<(kd i).length then (if (kd i).getD k 0=next then _ else _) else _) else _:Option _).bind _)=some r∧_
     rw[if_pos (by omega),if_pos hlt]
     by_cases hv:(kd i).getD k 0=next
     ·rw[if_pos hv]
      by_cases hN:next ≥ ((Cur.x.l.length:Nat):Int)
      ·rw[if_pos hN]
       exact⟨_,rfl,.inl rfl⟩
      ·rw[if_neg hN,if_pos (by omega)]
       obtain⟨q,rfl⟩:∃ q:Nat,next=q:=⟨next.toNat,by omega⟩
       simp only[Int.toNat_natCast]
       change ∃ r,((if atF q<a then _ else _:Option _).bind _)=some r∧_
       by_cases ha:atF q<a
       ·rw[if_pos ha]; exact⟨_,rfl,.inl rfl⟩
       ·rw[if_neg ha]
        obtain⟨r,e1,e2⟩:=hrec q (by omega) (by omega)
        rw[e1]
        simp only[Option.bind_some]
        by_cases hr:r<0
        ·rw[if_pos hr]; exact⟨_,rfl,.inl rfl⟩
        ·rw[if_neg hr]
         obtain⟨e',rfl,hks⟩:=e2 (by omega)
         have l1:=hks.lt
         rw[w64_inc' (by omega)]
         simp only[Option.bind_some]
         obtain⟨r2,g1,g2⟩:=ih (k+1) (e':Int) (toF q) (by omega) (by omega) (by omega)
         refine⟨r2,g1,?_⟩
         rcases g2 with g2 | ⟨e,b,g3,g4⟩
         ·exact .inl g2
         ·refine .inr ⟨e,b,g3,fun hb=>?_⟩
          obtain⟨q',h1,h2⟩:=g4 hb
          obtain rfl:e'=q':=by omega
          exact⟨q,rfl,.kid hlt hv (by omega) (by omega) hks h2⟩
     ·rw[if_neg hv]; exact⟨_,rfl,.inl rfl⟩
    ·rw[if_neg (by omega)]
     refine⟨_,rfl,.inr ⟨next.toNat,a,?_,fun hb=>⟨next.toNat,by omega,.done (by omega) hb⟩⟩⟩
     rw[Int.toNat_of_nonneg (by omega)]
  show ∃ r,qbr_ (qg_ n) n Cur.x (i:Int)=some r∧_
  unfold qbr_ qcs_
  rw[if_pos (by omega)]
  simp only[Option.bind_some,Int.toNat_natCast]
  rw[w64_inc' (by have:=Cur.x.le; omega)]
  obtain⟨r,e1,e2⟩:=loop n 0 ((i+1:Nat):Int) (atF i) (Nat.zero_le _) (by omega) (by have:=hK i; omega)
  have e1:iterM (qo_ (qg_ n) n Cur.x (i:Int)) n (((i+1:Nat):Int),(Cur.x.l.getD i (0,0,0,0,0,0,nl0,0)).2.2.1,0)=some r:=e1
  rw[e1]
  rcases e2 with rfl | ⟨e,b,rfl,e3⟩
  ·exact⟨_,rfl,fun h=>absurd h (by decide)⟩
  ·change ∃ r,(if b > toF i then some (-1) else some (e:Int))=some r∧_
   by_cases hb:b > toF i
   ·rw[if_pos hb]; exact⟨_,rfl,fun h=>absurd h (by decide)⟩
   ·rw[if_neg hb]
    refine⟨_,rfl,fun _=>⟨e,rfl,?_⟩⟩
    obtain⟨q,h1,h2⟩:=e3 (by omega)
    obtain rfl:i+1=q:=by omega
    exact h2
end

section
variable [Cur]

structure SP (a1 a2 a3 a4 a5:Int) (len:Nat):Prop where
 k1:1≤a1
 k6:a1≤6
 a0:0≤a2
 at_:a2≤a4
 lk:a2<a5
 tok:(a1=3∨a1=5∨a1=6)→a2≤a3∧a3≤a4
 non:(a1=1∨a1=2∨a1=4)→a3=a2
 mis:a1=4→a2=a4
 leaf:a1 ≠ 1→a1 ≠ 2→len=0
theorem leaf_ok (n:Nat)(a:Int):qk_ n a=some (if a=1 then false else if a=2 then false else true):=by
 unfold qk_
 repeat' split
 all_goals rfl
theorem bare_ok' (n:Nat)(a0 a1 a2 a3 a4 a5:Int)(a6:NL)(a7:Int)(o:Option Bool)(h:qci_ n a0 a1 a2 a3 a4 a5 a6 a7=o):o=some false∨(o=some true∧SP a1 a2 a3 a4 a5 a6.l.length):=by
 unfold qci_ at h
 simp only[leaf_ok,Option.bind_some] at h
 have leaf:∀ o,(if (if a1=1 then false else if a1=2 then false else true)=true then if ((a6.l.length:Nat):Int)=0 then some true else some false else some true)=o→o=some false∨(o=some true∧(a1 ≠ 1→a1 ≠ 2→a6.l.length=0)):=by
  intro o h
  by_cases c1:a1=1
  ·rw[if_pos c1,if_neg (by decide)] at h
   exact .inr ⟨h.symm,fun h=>absurd c1 h⟩
  rw[if_neg c1] at h
  by_cases c2:a1=2
  ·rw[if_pos c2,if_neg (by decide)] at h
   exact .inr ⟨h.symm,fun _ h=>absurd c2 h⟩
  rw[if_neg c2,if_pos rfl] at h
  by_cases cl:((a6.l.length:Nat):Int)=0
  ·rw[if_pos cl] at h
   exact .inr ⟨h.symm,fun _ _=>by omega⟩
  ·rw[if_neg cl] at h
   exact .inl h.symm
 by_cases c1:a1<1
 ·rw[if_pos c1] at h; exact .inl h.symm
 rw[if_neg c1] at h
 by_cases c2:a1 > 6
 ·rw[if_pos c2] at h; exact .inl h.symm
 rw[if_neg c2] at h
 by_cases c3:a2<0
 ·rw[if_pos c3] at h; exact .inl h.symm
 rw[if_neg c3] at h
 by_cases c4:a2 > a4
 ·rw[if_pos c4] at h; exact .inl h.symm
 rw[if_neg c4] at h
 by_cases c5:a5≤a2
 ·rw[if_pos c5] at h; exact .inl h.symm
 rw[if_neg c5] at h
 have tok:∀ (g:Option Bool) (k:a1=3∨a1=5∨a1=6),(if a3<a2 then some false else if a3 > a4 then some false else if a1=4 then g else (if (if a1=1 then false else if a1=2 then false else true)=true then if ((a6.l.length:Nat):Int)=0 then some true else some false else some true))=o→o=some false∨(o=some true∧SP a1 a2 a3 a4 a5 a6.l.length):=by
  intro g k h
  by_cases d1:a3<a2
  ·rw[if_pos d1] at h; exact .inl h.symm
  rw[if_neg d1] at h
  by_cases d2:a3 > a4
  ·rw[if_pos d2] at h; exact .inl h.symm
  rw[if_neg d2,if_neg (by omega)] at h
  rcases leaf o h with h | ⟨h,hl⟩
  ·exact .inl h
  ·exact .inr ⟨h,by omega,by omega,by omega,by omega,by omega,fun _=>by omega,fun _=>by omega,fun _=>by omega,hl⟩
 by_cases k3:a1=3
 ·rw[if_pos k3] at h; exact tok _ (by omega) h
 rw[if_neg k3] at h
 by_cases k5:a1=5
 ·rw[if_pos k5] at h; exact tok _ (by omega) h
 rw[if_neg k5] at h
 by_cases k6:a1=6
 ·rw[if_pos k6] at h; exact tok _ (by omega) h
 rw[if_neg k6] at h
 by_cases d3:¬ a3=a2
 ·rw[if_neg d3] at h; exact .inl h.symm
 have d3:=Decidable.not_not.1 d3
 rw[if_pos d3] at h
 by_cases k4:a1=4
 ·rw[if_pos k4] at h
  by_cases d4:a2=a4
  ·rw[if_pos d4] at h
   rcases leaf o h with h | ⟨h,hl⟩
   ·exact .inl h
   ·exact .inr ⟨h,by omega,by omega,by omega,by omega,by omega,fun _=>by omega,fun _=>by omega,fun _=>by omega,hl⟩
  ·rw[if_neg d4] at h; exact .inl h.symm
 ·rw[if_neg k4] at h
  rcases leaf o h with h | ⟨h,hl⟩
  ·exact .inl h
  ·exact .inr ⟨h,by omega,by omega,by omega,by omega,by omega,fun _=>by omega,fun _=>by omega,fun _=>by omega,hl⟩
theorem bare_ok (n:Nat)(a0 a1 a2 a3 a4 a5:Int)(a6:NL)(a7:Int):∃ b,qci_ n a0 a1 a2 a3 a4 a5 a6 a7=some b∧(b=true→SP a1 a2 a3 a4 a5 a6.l.length):=by
 rcases bare_ok' n a0 a1 a2 a3 a4 a5 a6 a7 _ rfl with h | ⟨h,h2⟩
 ·exact⟨false,h,fun h=>by cases h⟩
 ·exact⟨true,h,fun _=>h2⟩
theorem sound_ok (n:Nat)(a0 a1 a2 a3 a4 a5:Int)(a6:NL)(a7:Int)(h:SP a1 a2 a3 a4 a5 a6.l.length):qi4_ n a0 a1 a2 a3 a4 a5 a6 a7=some true:=by
 obtain⟨h1,h2,h3,h4,h5,h6,h7,h8,h9⟩:=h
 unfold qi4_
 rw[if_neg (by omega),if_neg (by omega),if_neg (by omega)]
 by_cases c1:a1=1
 ·rw[if_pos c1,if_pos (h7 (by omega))]
 rw[if_neg c1]
 by_cases c2:a1=2
 ·rw[if_pos c2,if_pos (h7 (by omega))]
 rw[if_neg c2]
 have hl:=h9 c1 c2
 by_cases c4:a1=4
 ·have:=h8 c4
  rw[if_pos c4,if_pos (h7 (by omega)),if_pos (by omega),if_pos (by omega)]
 rw[if_neg c4]
 have ht:=h6 (by omega)
 by_cases c3:a1=3
 ·rw[if_pos c3,if_pos (by omega),if_pos (by omega),if_pos (by omega)]
 rw[if_neg c3]
 by_cases c5:a1=5
 ·rw[if_pos c5,if_pos (by omega),if_pos (by omega),if_pos (by omega)]
 rw[if_neg c5,if_pos (by omega),if_pos (by omega),if_pos (by omega),if_pos (by omega)]

def SPi (i:Nat):Prop:=SP (pt i).2.1 (pt i).2.2.1 (pt i).2.2.2.1 (pt i).2.2.2.2.1 (pt i).2.2.2.2.2.1 (kd i).length
structure Tree:Prop where
 pos:0<Cur.x.l.length
 max:Cur.x.l.length≤524288
 sp:∀ i,i<Cur.x.l.length→SPi i
 root:∀ i,0<i→i<Cur.x.l.length→(pt i).2.1 ≠ 1
 ks:Ks 0 0 1 (atF 0) Cur.x.l.length
theorem check1_ok {n:Nat}(hn:Cur.x.l.length<n)(hL:Cur.x.l.length≤1000000):∃ r,qen_ n Cur.x 0=some r∧(r=.inr ()→∀ i,i<Cur.x.l.length→SPi i∧(0<i→(pt i).2.1 ≠ 1)):=by
 obtain⟨r,q1,q2⟩:=hoare (B:=qbg_ n Cur.x) (σ:=Unit) (fun _ i=>i) (fun i _=>∀ j,j<i→SPi j∧(0<j→(pt j).2.1 ≠ 1)) (fun r=>r=.inr ()→∀ i,i<Cur.x.l.length→SPi i∧(0<i→(pt i).2.1 ≠ 1)) Cur.x.l.length
  (fun i s hi hI=>by
   obtain⟨b,e1,e2⟩:=bare_ok n (pt i).1 (pt i).2.1 (pt i).2.2.1 (pt i).2.2.2.1 (pt i).2.2.2.2.1 (pt i).2.2.2.2.2.1 (pt i).2.2.2.2.2.2.1 (pt i).2.2.2.2.2.2.2
   have hB:qbg_ n Cur.x (i:Int)=((qci_ n (pt i).1 (pt i).2.1 (pt i).2.2.1 (pt i).2.2.2.1 (pt i).2.2.2.2.1 (pt i).2.2.2.2.2.1 (pt i).2.2.2.2.2.2.1 (pt i).2.2.2.2.2.2.2).bind fun y=>if y=true then (if (i:Int) > 0 then (if (pt i).2.1=1 then some (.inr (.inl ())) else some (.inl (w64 ((i:Int)+1)))) else some (.inl (w64 ((i:Int)+1)))) else some (.inr (.inl ()))):=by
    unfold qbg_
    dsimp only
    rw[if_pos (by omega),if_pos (by omega)]
    simp only[Option.bind_some,Int.toNat_natCast]
    rfl
   rw[hB]
   rw[e1,w64_inc (by omega)]
   simp only[Option.bind_some]
   cases b with
   | false=>
    rw[if_neg (by decide)]
    exact .inr ⟨.inl (),(fun h=>by cases h),rfl⟩
   | true=>
    have hsp:SPi i:=e2 rfl
    rw[if_pos rfl]
    have go:(0<i→(pt i).2.1 ≠ 1)→∀ j,j<i+1→SPi j∧(0<j→(pt j).2.1 ≠ 1):=fun h j hj=>by
     rcases Nat.lt_or_ge j i with h1 | h1
     ·exact hI j h1
     ·obtain rfl:j=i:=by omega
      exact⟨hsp,h⟩
    by_cases c1:(i:Int) > 0
    ·rw[if_pos c1]
     by_cases c2:(pt i).2.1=1
     ·rw[if_pos c2]
      exact .inr ⟨.inl (),(fun h=>by cases h),rfl⟩
     ·rw[if_neg c2]
      exact .inl ⟨(),go fun _=>c2,rfl⟩
    ·rw[if_neg c1]
     exact .inl ⟨(),go fun h=>absurd h (by omega),rfl⟩)
  (fun s hI=>by
   unfold qbg_
   dsimp only
   rw[if_neg (by omega)]
   exact⟨_,fun _=>hI,rfl⟩) n 0 () (Nat.zero_le _) (fun j hj=>absurd hj (Nat.not_lt_zero _)) (by omega)
 exact⟨r,q2,q1⟩
theorem refCheck_ok {n K:Nat}(hK:∀ j,(kd j).length≤K)(hn:Cur.x.l.length+K+20<n)(hL:Cur.x.l.length≤1000000):∃ c,qc_ n Cur.x=some c∧(c=0→Tree):=by
 unfold qc_
 by_cases c1:((Cur.x.l.length:Nat):Int) > 524288
 ·rw[if_pos c1]; exact⟨_,rfl,fun h=>absurd h (by decide)⟩
 rw[if_neg c1]
 obtain⟨r,e1,e2⟩:=check1_ok (n:=n) (by omega) hL
 rw[e1]
 rcases r with r | r
 ·exact⟨_,rfl,fun h=>absurd h (by decide)⟩
 ·dsimp only
  have e2:=e2 rfl
  by_cases c2:((Cur.x.l.length:Nat):Int)=0
  ·rw[if_pos c2]; exact⟨_,rfl,fun h=>absurd h (by decide)⟩
  rw[if_neg c2]
  obtain⟨q,g1,g2⟩:=end_ok n 0 K hK (by omega) (by omega)
  have g1:qg_ n Cur.x 0=some q:=g1
  rw[g1]
  simp only[Option.bind_some]
  by_cases c3:q=((Cur.x.l.length:Nat):Int)
  ·rw[if_pos c3]
   refine⟨_,rfl,fun _=>?_⟩
   obtain⟨e,h1,h2⟩:=g2 (by omega)
   obtain rfl:e=Cur.x.l.length:=by omega
   exact⟨by omega,by omega,fun i hi=>(e2 i hi).1,fun i h0 hi=>(e2 i hi).2 h0,h2⟩
  ·rw[if_neg c3]; exact⟨_,rfl,fun h=>absurd h (by decide)⟩
end

section
variable [Cur]

abbrev E3:=Int×Int×Int
abbrev OSt:=List E3×Nat×Int
def Rch (n:Nat)(x y:OSt)(m:Nat):Prop:=∀ f,iterM (qr_ n Cur.x (Cur.x.l.length:Int)) (f+m) x=iterM (qr_ n Cur.x (Cur.x.l.length:Int)) f y
theorem Rch.refl (n:Nat)(x:OSt):Rch n x x 0:=fun _=>rfl
theorem Rch.step {n:Nat}{x y z:OSt}{m:Nat}(h:qr_ n Cur.x (Cur.x.l.length:Int) x=some (.inl y))(k:Rch n y z m):Rch n x z (m+1):=fun f=>by
 rw[←Nat.add_assoc,qbe_,h]
 exact k f
theorem Rch.trans {n:Nat}{x y z:OSt}{m k:Nat}(h:Rch n x y m)(j:Rch n y z k):Rch n x z (m+k):=fun f=>by
 have:=h (f+k)
 rw[show f+k+m=f+(m+k) by omega] at this
 rw[this,j f]
theorem take_last {S:List E3}{s:Nat}{R:List E3}{x:E3}(hs:s≤S.length)(h:S.take s=R ++ [x]):s=R.length+1∧S.getD R.length (0,0,0)=x∧S.take R.length=R:=by
 have hl:=congrArg List.length h
 rw[List.length_take,Nat.min_eq_left hs,List.length_append,List.length_singleton] at hl
 subst hl
 refine⟨rfl,?_,?_⟩
 ·have h2:(S.take (R.length+1))[R.length]?=(R ++ [x])[R.length]?:=by rw[h]
  rw[List.getElem?_take_of_lt (Nat.lt_succ_self _),List.getElem?_append_right (Nat.le_refl _),Nat.sub_self] at h2
  rw[List.getD_eq_getElem?_getD,h2]; rfl
 ·have h2:=congrArg (List.take R.length) h
  rw[List.take_take,Nat.min_eq_left (Nat.le_succ _),List.take_left] at h2
  exact h2
theorem take_set {S R:List E3}{y:E3}(hs:R.length<S.length)(h:S.take R.length=R):(S.set R.length y).take (R.length+1)=R ++ [y]:=by
 rw[List.take_add_one,List.take_set_of_le (Nat.le_refl _),h,List.getElem?_set_self hs]; rfl
theorem take_set0 {S R:List E3}{y:E3}(h:S.take R.length=R):(S.set R.length y).take R.length=R:=by
 rw[List.take_set_of_le (Nat.le_refl _),h]
theorem ne_cons {S:List E3}(h:0<S.length):∃ a t,S=a::t:=by
 cases S with
 | nil=>simp at h
 | cons a t=>exact⟨a,t,rfl⟩
theorem inB {n i p k s:Nat}{a:Int}{S R:List E3}(h0:0<i)(hi:i<Cur.x.l.length)(hL:Cur.x.l.length≤1000000)(hs:s≤S.length)(h:S.take s=R ++ [((p:Int),(k:Int),a)])(hp:p<Cur.x.l.length)(hk:k<(kd p).length)(hv:(kd p).getD k 0=(i:Int))(ha:a≤atF i)(ht:toF i≤toF p)(hR:R.length≤1000000) :
  ∃ S' s',qr_ n Cur.x (Cur.x.l.length:Int) (S,s,(i:Int))=some (.inl (S',s',((i+1:Nat):Int)))∧s'≤S'.length∧0<S'.length∧S'.take s'=(if k+1<(kd p).length then R ++ [((p:Int),((k+1:Nat):Int),toF i)] else R)++(if 0<(kd i).length then [((i:Int),0,atF i)] else []):=by
 obtain⟨rfl,hx,hR0⟩:=take_last hs h
 have hkl:=kd_le p
 have hw:w64 (((R.length+1:Nat):Int)-1)=((R.length:Nat):Int):=by rw[qqg_ (by omega) (by omega)]; omega
 have hw2:w64 ((i:Int)+1)=((i+1:Nat):Int):=w64_inc (by omega)
 have hw3:w64 ((k:Int)+1)=((k+1:Nat):Int):=w64_inc' (by omega)
 obtain⟨b,T,rfl⟩:=ne_cons (S:=S) (by omega)
 have e1:qr_ n Cur.x (Cur.x.l.length:Int) (b::T,R.length+1,(i:Int)) =
   (if (w64 ((k:Int)+1))=(((kd p).length:Nat):Int) then
    if (((kd i).length:Nat):Int) > 0 then
     if R.length≤((b::T).set R.length ((p:Int),w64 ((k:Int)+1),toF i)).length then
      if (R.length+1)*24≤140737488355328 then
       some (.inl (List.take R.length ((b::T).set R.length ((p:Int),w64 ((k:Int)+1),toF i)) ++ [((i:Int),0,atF i)],(List.take R.length ((b::T).set R.length ((p:Int),w64 ((k:Int)+1),toF i)) ++ [((i:Int),(0:Int),atF i)]).length,w64 ((i:Int)+1)))
      else none
     else none
    else some (.inl ((b::T).set R.length ((p:Int),w64 ((k:Int)+1),toF i),R.length,w64 ((i:Int)+1)))
   else
    if (((kd i).length:Nat):Int) > 0 then
     if R.length+1≤((b::T).set R.length ((p:Int),w64 ((k:Int)+1),toF i)).length then
      if (R.length+1+1)*24≤140737488355328 then
       some (.inl (List.take (R.length+1) ((b::T).set R.length ((p:Int),w64 ((k:Int)+1),toF i)) ++ [((i:Int),0,atF i)],(List.take (R.length+1) ((b::T).set R.length ((p:Int),w64 ((k:Int)+1),toF i)) ++ [((i:Int),(0:Int),atF i)]).length,w64 ((i:Int)+1)))
      else none
     else none
    else some (.inl ((b::T).set R.length ((p:Int),w64 ((k:Int)+1),toF i),R.length+1,w64 ((i:Int)+1)))):=by
  unfold qr_
  dsimp only
  rw[if_pos (by omega),if_pos (by omega)]
  simp only[Option.bind_some,Int.toNat_natCast]
  rw[if_pos (by omega),if_neg (by omega),hw]
  simp only[Int.toNat_natCast]
  rw[if_pos (by omega),if_pos (by omega),hx]
  simp only[Option.bind_some,Int.toNat_natCast]
  rw[if_pos (by omega)]
  have hk2:((0:Int)≤(k:Int)∧(k:Int)<(((Cur.x.l.getD p (0,0,0,0,0,0,nl0,0)).2.2.2.2.2.2.1.l.length:Nat):Int)):=⟨by omega,by have:k<(Cur.x.l.getD p (0,0,0,0,0,0,nl0,0)).2.2.2.2.2.2.1.l.length:=hk; omega⟩
  rw[if_pos hk2,if_pos (show k<(Cur.x.l.getD p (0,0,0,0,0,0,nl0,0)).2.2.2.2.2.2.1.l.length from hk)]
  have hv2:(Cur.x.l.getD p (0,0,0,0,0,0,nl0,0)).2.2.2.2.2.2.1.l.getD k 0=(i:Int):=hv
  rw[hv2]
  simp only[Option.bind_some]
  rw[if_pos trivial,if_neg (show ¬ (Cur.x.l.getD i (0,0,0,0,0,0,nl0,0)).2.2.1<a from fun h=>absurd (show atF i<a from h) (by omega)),if_neg (show ¬ (Cur.x.l.getD i (0,0,0,0,0,0,nl0,0)).2.2.2.2.1 > (Cur.x.l.getD p (0,0,0,0,0,0,nl0,0)).2.2.2.2.1 from fun h=>absurd (show toF i > toF p from h) (by omega)),if_pos (show (0:Int)≤((R.length:Nat):Int)∧((R.length:Nat):Int)≤((R.length+1:Nat):Int) by omega)]
  rfl
 rw[e1,hw2,hw3]
 by_cases c1:((k+1:Nat):Int)=(((kd p).length:Nat):Int)
 ·rw[if_pos c1,if_neg (show ¬ k+1<(kd p).length by omega)]
  have ht0:=take_set0 (y:=((p:Int),((k+1:Nat):Int),toF i)) hR0
  by_cases c2:(((kd i).length:Nat):Int) > 0
  ·rw[if_pos c2,if_pos (show 0<(kd i).length by omega),if_pos (by rw[List.length_set]; omega),if_pos (by omega),ht0]
   exact⟨_,_,rfl,Nat.le_refl _,by simp,by rw[List.take_length]⟩
  ·rw[if_neg c2,if_neg (show ¬ 0<(kd i).length by omega),List.append_nil]
   exact⟨_,_,rfl,by rw[List.length_set]; omega,by rw[List.length_set]; omega,ht0⟩
 ·rw[if_neg c1,if_pos (show k+1<(kd p).length by omega)]
  have ht1:=take_set (y:=((p:Int),((k+1:Nat):Int),toF i)) (by omega) hR0
  by_cases c2:(((kd i).length:Nat):Int) > 0
  ·rw[if_pos c2,if_pos (show 0<(kd i).length by omega),if_pos (by rw[List.length_set]; omega),if_pos (by omega),ht1]
   exact⟨_,_,rfl,Nat.le_refl _,by simp,by rw[List.take_length]⟩
  ·rw[if_neg c2,if_neg (show ¬ 0<(kd i).length by omega),List.append_nil]
   exact⟨_,_,rfl,by rw[List.length_set]; omega,by rw[List.length_set]; omega,ht1⟩
theorem Ks.sim {n i k next e:Nat}{a:Int}(h:Ks i k next a e)(hL:Cur.x.l.length≤1000000)(hs:∀ j,j<Cur.x.l.length→atF j≤toF j):i<next→i<Cur.x.l.length→∀ (S:List E3) (s:Nat) (R:List E3),R.length+1≤next→0<S.length→s≤S.length→S.take s=(if k<(kd i).length then R ++ [((i:Int),(k:Int),a)] else R) →
  ∃ S' s',s'≤S'.length∧0<S'.length∧S'.take s'=R∧Rch n (S,s,(next:Int)) (S',s',(e:Int)) (e-next):=by
 induction h with
 | @done i k next a hk ha=>
  intro _ hi S s R hR h0 hs h
  rw[if_neg (by omega)] at h
  exact⟨S,s,hs,h0,h,by rw[Nat.sub_self]; exact Rch.refl n _⟩
 | @kid i k next e' e a hk hv hn ha h1 h2 ih1 ih2=>
  intro hin hi S s R hR h0 hs' h
  rw[if_pos hk] at h
  have l1:=h1.lt
  have l2:=h2.lt
  have hm:=h2.mono hs
  obtain⟨S1,s1,b1,b2,b3,b4⟩:=inB (n:=n) (by omega) hn hL hs' h hi hk hv ha hm (by omega)
  obtain⟨S2,s2,c1,c2,c3,c4⟩:=ih1 (by omega) hn S1 s1 (if k+1<(kd i).length then R ++ [((i:Int),((k+1:Nat):Int),toF next)] else R) (by split<;>simp<;>omega) b3 b2 (by
   rw[b4]
   by_cases hz:0<(kd next).length
   ·rw[if_pos hz,if_pos hz]; rfl
   ·rw[if_neg hz,if_neg hz,List.append_nil])
  obtain⟨S3,s3,d1,d2,d3,d4⟩:=ih2 (by omega) hi S2 s2 R (by omega) c2 c1 c3
  refine⟨S3,s3,d1,d2,d3,?_⟩
  have:=(Rch.step b1 c4).trans d4
  rwa [show e' - (next+1)+1+(e-e')=e-next by omega] at this
theorem inOrder_ok {n:Nat}(hT:Tree)(hn:Cur.x.l.length<n):qh6_ n Cur.x=some true:=by
 have hL:Cur.x.l.length≤1000000:=by have:=hT.max; omega
 have hs:∀ j,j<Cur.x.l.length→atF j≤toF j:=fun j hj=>(hT.sp j hj).at_
 have hpos:=hT.pos
 have hw:w64 ((0:Int)+1)=((0+1:Nat):Int):=by decide
 unfold qh6_ qir_
 obtain⟨m,rfl⟩:∃ m,n=m+1:=⟨n-1,by omega⟩
 rw[qbe_]
 have hB0:qr_ (m+1) Cur.x (Cur.x.l.length:Int) ([],0,0)=if (((kd 0).length:Nat):Int) > 0 then some (.inl ([(0,0,atF 0)],1,w64 ((0:Int)+1))) else some (.inl ([],0,w64 ((0:Int)+1))):=by
  unfold qr_
  dsimp only
  rw[if_pos (by omega),if_pos (by omega)]
  simp only[Option.bind_some]
  rw[if_neg (by omega)]
  rfl
 rw[hB0,hw]
 by_cases hz:0<(kd 0).length
 ·rw[if_pos (by omega)]
  simp only[Option.bind_some]
  obtain⟨S,s,h1,h2,h3,h4⟩:=hT.ks.sim (n:=m+1) hL hs (by omega) hpos [(0,0,atF 0)] 1 [] (by simp) (by simp) (by simp) (by rw[if_pos hz]; rfl)
  have h4:=h4 (m-(Cur.x.l.length-1))
  rw[show m-(Cur.x.l.length-1)+(Cur.x.l.length-(0+1))=m by omega] at h4
  have h4:iterM (qr_ (m+1) Cur.x (Cur.x.l.length:Int)) m ([(0,0,atF 0)],1,((0+1:Nat):Int))=_:=h4
  rw[h4]
  obtain⟨q,hq⟩:∃ q,m-(Cur.x.l.length-1)=q+1:=⟨m-(Cur.x.l.length-1)-1,by omega⟩
  rw[hq,qbe_]
  have hs0:s=0:=by
   have:=congrArg List.length h3
   rw[List.length_take,List.length_nil] at this
   omega
  subst hs0
  obtain⟨b,T,rfl⟩:=ne_cons h2
  have:qr_ (m+1) Cur.x (Cur.x.l.length:Int) (b::T,0,(Cur.x.l.length:Int))=some (.inr (.inr (b::T,0))):=by
   unfold qr_
   dsimp only
   rw[if_neg (by omega)]
  rw[this]
  rfl
 ·rw[if_neg (by omega)]
  simp only[Option.bind_some]
  have h1:Cur.x.l.length=1:=by
   have hh:=hT.ks
   generalize Cur.x.l.length=N at hh
   cases hh with
   | done=>rfl
   | kid hk=>omega
  obtain⟨q,rfl⟩:∃ q,m=q+1:=⟨m-1,by omega⟩
  rw[qbe_]
  have:qr_ (q+1+1) Cur.x (Cur.x.l.length:Int) ([],0,((0+1:Nat):Int))=some (.inr (.inr ([],0))):=by
   unfold qr_
   dsimp only
   rw[if_neg (by omega)]
  rw[this]
  rfl
theorem check_ok {n:Nat}(hT:Tree)(hn:Cur.x.l.length<n):qg8_ n Cur.x=some 0:=by
 have hpos:=hT.pos
 have hmax:=hT.max
 unfold qg8_
 rw[if_neg (by omega),if_neg (by omega),inOrder_ok hT hn]
 simp only[Option.bind_some]
 rw[if_pos trivial]
 obtain⟨r,rfl,q2⟩:=hoare (B:=qe0_ n Cur.x (Cur.x.l.length:Int)) (σ:=Unit) (fun _ i=>i) (fun i _=>True) (fun r=>r=.inr ()) Cur.x.l.length
  (fun i s hi hI=>by
   have hsp:=sound_ok n (pt i).1 (pt i).2.1 (pt i).2.2.1 (pt i).2.2.2.1 (pt i).2.2.2.2.1 (pt i).2.2.2.2.2.1 (pt i).2.2.2.2.2.2.1 (pt i).2.2.2.2.2.2.2 (hT.sp i hi)
   have hB:qe0_ n Cur.x (Cur.x.l.length:Int) (i:Int)=((qi4_ n (pt i).1 (pt i).2.1 (pt i).2.2.1 (pt i).2.2.2.1 (pt i).2.2.2.2.1 (pt i).2.2.2.2.2.1 (pt i).2.2.2.2.2.2.1 (pt i).2.2.2.2.2.2.2).bind fun y=>if y=true then (if (pt i).2.1=1 then (if (i:Int) > 0 then some (.inr (.inl ())) else some (.inl (w64 ((i:Int)+1)))) else some (.inl (w64 ((i:Int)+1)))) else some (.inr (.inl ()))):=by
    unfold qe0_
    dsimp only
    rw[if_pos (by omega),if_pos (by omega)]
    simp only[Option.bind_some,Int.toNat_natCast]
    rfl
   rw[hB,hsp,w64_inc (by omega)]
   simp only[Option.bind_some]
   rw[if_pos trivial]
   by_cases c1:(pt i).2.1=1
   ·rw[if_pos c1,if_neg (show ¬ (i:Int) > 0 from fun h=>hT.root i (by omega) hi c1)]
    exact .inl ⟨(),trivial,rfl⟩
   ·rw[if_neg c1]
    exact .inl ⟨(),trivial,rfl⟩)
  (fun s hI=>by
   unfold qe0_
   dsimp only
   rw[if_neg (by omega)]
   exact⟨_,rfl,rfl⟩) n 0 () (Nat.zero_le _) trivial (by omega)
 have q2:qk8_ n Cur.x (Cur.x.l.length:Int) 0=some (.inr ()):=q2
 rw[q2]
end

section
variable [Cur]

theorem Ks.run {K i k next e:Nat}{a:Int}(hK:∀ j,(kd j).length≤K)(h:Ks i k next a e):i<next→i<Cur.x.l.length→∀ n f,Cur.x.l.length-i+K+9<n→(kd i).length-k<f→∃ b,b≤toF i∧iterM (qo_ (qg_ n) n Cur.x (i:Int)) f ((next:Int),a,(k:Int))=some (.inr ((e:Int),b)):=by
 induction h with
 | @done i k next a hk ha=>
  intro hin hi n f hn hf
  obtain⟨f,rfl⟩:∃ g,f=g+1:=⟨f-1,by omega⟩
  refine⟨a,ha,?_⟩
  rw[qbe_]
  unfold qo_
  dsimp only
  rw[if_pos (by omega)]
  simp only[Option.bind_some,Int.toNat_natCast]
  rw[if_neg (show ¬ (k:Int)<((((Cur.x.l.getD i (0,0,0,0,0,0,nl0,0)).2.2.2.2.2.2.1.l.length:Nat)):Int) from fun hc=>absurd (show k<(kd i).length from Int.ofNat_lt.1 hc) (by omega))]
  rfl
 | @kid i k next e' e a hk hv hn' ha h1 h2 ih1 ih2=>
  intro hin hi n f hn hf
  obtain⟨f,rfl⟩:∃ g,f=g+1:=⟨f-1,by omega⟩
  have hkl:=kd_le i
  have l1:=h1.lt
  obtain⟨m,rfl⟩:∃ m,n=m+1:=⟨n-1,by omega⟩
  obtain⟨b1,hb1,e1⟩:=ih1 (by omega) hn' m m (by omega) (by have:=hK next; omega)
  have hrec:qg_ (m+1) Cur.x (next:Int)=some (e':Int):=by
   show qbr_ (qg_ m) m Cur.x (next:Int)=_
   unfold qbr_ qcs_
   rw[if_pos (by omega)]
   simp only[Option.bind_some,Int.toNat_natCast]
   rw[w64_inc' (by have:=Cur.x.le; omega)]
   have e1:iterM (qo_ (qg_ m) m Cur.x (next:Int)) m (((next+1:Nat):Int),(Cur.x.l.getD next (0,0,0,0,0,0,nl0,0)).2.2.1,0)=some (.inr ((e':Int),b1)):=e1
   rw[e1]
   dsimp only
   rw[if_neg (show ¬ b1 > (Cur.x.l.getD next (0,0,0,0,0,0,nl0,0)).2.2.2.2.1 from fun hc=>absurd (show b1 > toF next from hc) (by omega))]
  obtain⟨b,hb,e2⟩:=ih2 (by omega) hi (m+1) f hn (by omega)
  refine⟨b,hb,?_⟩
  rw[qbe_]
  have hB:qo_ (qg_ (m+1)) (m+1) Cur.x (i:Int) ((next:Int),a,(k:Int))=some (.inl ((e':Int),toF next,((k+1:Nat):Int))):=by
   unfold qo_
   dsimp only
   rw[if_pos (by omega)]
   simp only[Option.bind_some,Int.toNat_natCast]
   rw[if_pos (show (k:Int)<((((Cur.x.l.getD i (0,0,0,0,0,0,nl0,0)).2.2.2.2.2.2.1.l.length:Nat)):Int) from Int.ofNat_lt.2 hk),if_pos (show (0:Int)≤(k:Int)∧(k:Int)<((((Cur.x.l.getD i (0,0,0,0,0,0,nl0,0)).2.2.2.2.2.2.1.l.length:Nat)):Int) from⟨Int.natCast_nonneg _,Int.ofNat_lt.2 hk⟩),if_pos (show k<(Cur.x.l.getD i (0,0,0,0,0,0,nl0,0)).2.2.2.2.2.2.1.l.length from hk),if_pos (show (Cur.x.l.getD i (0,0,0,0,0,0,nl0,0)).2.2.2.2.2.2.1.l.getD k 0=(next:Int) from hv),if_neg (by omega),if_pos (by omega),if_neg (show ¬ (Cur.x.l.getD next (0,0,0,0,0,0,nl0,0)).2.2.1<a from fun hc=>absurd (show atF next<a from hc) (by omega)),hrec]
   simp only[Option.bind_some]
   rw[if_neg (by omega),w64_inc' (by omega)]
   rfl
  rw[hB]
  exact e2
theorem endOf {K i e:Nat}(hK:∀ j,(kd j).length≤K)(h:Ks i 0 (i+1) (atF i) e)(hi:i<Cur.x.l.length){n:Nat}(hn:Cur.x.l.length-i+K+10<n):qg_ n Cur.x (i:Int)=some (e:Int):=by
 obtain⟨m,rfl⟩:∃ m,n=m+1:=⟨n-1,by omega⟩
 obtain⟨b1,hb1,e1⟩:=h.run hK (by omega) hi m m (by omega) (by have:=hK i; omega)
 show qbr_ (qg_ m) m Cur.x (i:Int)=_
 unfold qbr_ qcs_
 rw[if_pos (by omega)]
 simp only[Option.bind_some,Int.toNat_natCast]
 rw[w64_inc' (by have:=Cur.x.le; omega)]
 have e1:iterM (qo_ (qg_ m) m Cur.x (i:Int)) m (((i+1:Nat):Int),(Cur.x.l.getD i (0,0,0,0,0,0,nl0,0)).2.2.1,0)=some (.inr ((e:Int),b1)):=e1
 rw[e1]
 dsimp only
 rw[if_neg (show ¬ b1 > (Cur.x.l.getD i (0,0,0,0,0,0,nl0,0)).2.2.2.2.1 from fun hc=>absurd (show b1 > toF i from hc) (by omega))]
theorem Tree.end (hT:Tree){i:Nat}(hi:i<Cur.x.l.length):∃ e,Ks i 0 (i+1) (atF i) e∧i<e∧e≤Cur.x.l.length:=by
 rcases Nat.eq_zero_or_pos i with rfl | h0
 ·exact⟨_,hT.ks,hi,Nat.le_refl _⟩
 ·obtain⟨f,h1,h⟩:=hT.ks.cover i (by omega) hi
  have:=h.lt
  exact⟨f,h,by omega,h1⟩
theorem Tree.kid (hT:Tree){i q:Nat}(hi:i<Cur.x.l.length)(hq:q<(kd i).length):∃ c:Nat,(kd i).getD q 0=(c:Int)∧i<c∧c<Cur.x.l.length:=by
 obtain⟨f,h,_⟩:=hT.end hi
 obtain⟨c,h1,h2,h3,h4⟩:=h.kids q (Nat.zero_le _) hq
 exact⟨c,h1,by omega,h4⟩
theorem Ks.none {i next e:Nat}{a:Int}(h:Ks i 0 next a e)(h0:(kd i).length=0):e=next:=by
 cases h with
 | done _ _=>rfl
 | kid hk=>omega
end

section
variable [Cur]

theorem Ks.count {i k next e:Nat}{a:Int}(h:Ks i k next a e):(kd i).length+next≤e+k:=by
 induction h with
 | done hk=>omega
 | kid hk hv hn ha h1 h2 ih1 ih2=>have:=h1.lt; omega
theorem kd_out {i:Nat}(h:Cur.x.l.length≤i):kd i=[]:=by
 have:pt i=d8:=by unfold pt; rw[List.getD_eq_getElem?_getD,List.getElem?_eq_none h]; rfl
 unfold kd; rw[this]; rfl
theorem Tree.few (hT:Tree)(i:Nat):(kd i).length≤Cur.x.l.length:=by
 rcases Nat.lt_or_ge i Cur.x.l.length with h | h
 ·obtain⟨e,h1,-,h3⟩:=hT.end h
  have:=h1.count
  omega
 ·rw[kd_out h]; exact Nat.zero_le _
end

section
variable [Cur]

def setK (L:List Int)(i:Int)(ks:List Int):List Int:=ks.foldl (fun L k=>L.set k.toNat i) L
theorem setK_snoc {L:List Int}{i:Int}{ks:List Int}{k:Int}:setK L i (ks ++ [k])=(setK L i ks).set k.toNat i:=by simp[setK]
theorem setK_len {L:List Int}{i:Int}:∀ {ks:List Int},(setK L i ks).length=L.length:=by
 intro ks
 unfold setK
 induction ks generalizing L with
 | nil=>rfl
 | cons k ks ih=>rw[List.foldl_cons,ih,List.length_set]
def parN:Nat→List Int→List Int
 | 0,L=>L
 | n+1,L=>setK (parN n L) (n:Int) (kd n)
theorem qw1_ {L:List Int}:∀ n,(parN n L).length=L.length
 | 0=>rfl
 | n+1=>by
  show (setK (parN n L) (n:Int) (kd n)).length=_
  rw[setK_len,qw1_ n]
def par0:List Int:=(List.replicate Cur.x.l.length (0:Int)).set 0 (-1)
def parL:List Int:=parN Cur.x.l.length par0
theorem parL_len:parL.length=Cur.x.l.length:=by unfold parL par0; rw[qw1_,List.length_set,List.length_replicate]
theorem take_snoc {L:List Int}{q:Nat}(h:q<L.length):L.take (q+1)=L.take q ++ [L.getD q 0]:=by
 rw[List.take_add_one,List.getElem?_eq_getElem h,List.getD_eq_getElem?_getD,List.getElem?_eq_getElem h]; rfl
theorem prgPar2 {n i:Nat}{L:List Int}{u:Int}(hT:Tree)(hi:i<Cur.x.l.length)(hn:(kd i).length<n)(hL:L.length=Cur.x.l.length):qit_ n Cur.x.l.length (i:Int) Cur.x u (pt i).2.2.2.2.2.2.1 ((kd i).length:Int) (L,0)=some (setK L (i:Int) (kd i)):=by
 have hkl:=kd_le i
 obtain⟨r,rfl,h⟩:=hoare (B:=qdf_ n Cur.x.l.length (i:Int) Cur.x u (pt i).2.2.2.2.2.2.1 ((kd i).length:Int)) (σ:=List Int) (fun s q=>(s,q)) (fun q s=>s=setK L (i:Int) ((kd i).take q)) (fun r=>r=setK L (i:Int) (kd i)) (kd i).length
  (fun q s hq hI=>by
   subst hI
   obtain⟨c,h1,h2,h3⟩:=hT.kid hi hq
   have hB:qdf_ n Cur.x.l.length (i:Int) Cur.x u (pt i).2.2.2.2.2.2.1 ((kd i).length:Int) (setK L (i:Int) ((kd i).take q),(q:Int))=(some ((kd i).getD q 0)).bind fun y=>if 0≤y∧y<((Cur.x.l.length:Nat):Int) then (if y.toNat<(setK L (i:Int) ((kd i).take q)).length then some (.inl ((setK L (i:Int) ((kd i).take q)).set y.toNat (i:Int),w64 ((q:Int)+1))) else none) else none:=by
    unfold qdf_
    dsimp only
    rw[if_pos (by omega),if_pos (show (0:Int)≤(q:Int)∧(q:Int)<(((pt i).2.2.2.2.2.2.1.l.length:Nat):Int) from⟨Int.natCast_nonneg _,Int.ofNat_lt.2 hq⟩),if_pos (show ((q:Int)).toNat<(pt i).2.2.2.2.2.2.1.l.length from by rw[Int.toNat_natCast]; exact hq)]
    rw[Int.toNat_natCast]
    rfl
   rw[hB]
   rw[h1]
   simp only[Option.bind_some]
   rw[if_pos (by omega)]
   simp only[Int.toNat_natCast]
   rw[if_pos (by rw[setK_len]; omega),w64_inc' (by omega)]
   refine .inl ⟨_,?_,rfl⟩
   rw[take_snoc hq,h1,setK_snoc,Int.toNat_natCast])
  (fun s hI=>by
   subst hI
   unfold qdf_
   dsimp only
   rw[if_neg (by omega)]
   exact⟨_,by rw[List.take_length],rfl⟩) n 0 L (Nat.zero_le _) rfl (by omega)
 exact h
theorem prgPar1 {n K:Nat}(hT:Tree)(hK:∀ j,(kd j).length≤K)(hn:Cur.x.l.length+K<n):qiv_ n Cur.x.l.length Cur.x (Cur.x.l.length:Int) (par0,0)=some parL:=by
 have hmax:=hT.max
 obtain⟨r,rfl,h⟩:=hoare (B:=qdg_ n Cur.x.l.length Cur.x (Cur.x.l.length:Int)) (σ:=List Int) (fun s q=>(s,q)) (fun q s=>s=parN q par0) (fun r=>r=parL) Cur.x.l.length
  (fun q s hq hI=>by
   subst hI
   have hk:=hK q
   have e:=prgPar2 (n:=n) (u:=(Cur.x.l.length:Int)) hT hq (by omega) (show (parN q par0).length=Cur.x.l.length by rw[qw1_]; unfold par0; rw[List.length_set,List.length_replicate])
   have hB:qdg_ n Cur.x.l.length Cur.x (Cur.x.l.length:Int) (parN q par0,(q:Int))=(qit_ n Cur.x.l.length (q:Int) Cur.x (Cur.x.l.length:Int) (pt q).2.2.2.2.2.2.1 ((kd q).length:Int) (parN q par0,0)).bind fun y=>some (.inl (y,w64 ((q:Int)+1))):=by
    unfold qdg_
    dsimp only
    rw[if_pos (by omega),if_pos (by omega)]
    simp only[Option.bind_some,Int.toNat_natCast]
    rfl
   rw[hB,e]
   simp only[Option.bind_some]
   rw[w64_inc (by omega)]
   exact .inl ⟨_,rfl,rfl⟩)
  (fun s hI=>by
   subst hI
   unfold qdg_
   dsimp only
   rw[if_neg (by omega)]
   exact⟨_,rfl,rfl⟩) n 0 par0 (Nat.zero_le _) rfl (by omega)
 exact h
theorem prgPar {n K:Nat}(hT:Tree)(hK:∀ j,(kd j).length≤K)(hn:Cur.x.l.length+K<n):∃ y,qh7_ n Cur.x=some y∧y.l=parL:=by
 have hmax:=hT.max
 have hpos:=hT.pos
 unfold qh7_
 rw[check_ok hT (by omega)]
 simp only[Option.bind_some]
 rw[if_pos trivial,if_pos (by omega)]
 simp only[Int.toNat_natCast]
 rw[if_pos (by omega),if_pos (by omega),if_pos (by rw[List.length_replicate]; exact hpos)]
 have h:qiv_ n Cur.x.l.length Cur.x (Cur.x.l.length:Int) ((List.replicate Cur.x.l.length (0:Int)).set ((0:Int)).toNat (-1),0)=some parL:=prgPar1 hT hK hn
 rw[h]
 simp only[Option.bind_some]
 rw[if_pos parL_len.symm,dif_pos (by rw[parL_len]; omega)]
 exact⟨_,rfl,rfl⟩
end

section
variable [Cur]

theorem Ks.uniq {i e f:Nat}(h:Ks i 0 (i+1) (atF i) e)(g:Ks i 0 (i+1) (atF i) f)(hi:i<Cur.x.l.length):e=f:=by
 obtain⟨K,hK⟩:=bound_kd
 have a1:=endOf (n:=Cur.x.l.length+K+20) hK h hi (by omega)
 have a2:=endOf (n:=Cur.x.l.length+K+20) hK g hi (by omega)
 rw[a1] at a2
 have:=Option.some.inj a2
 omega
theorem Ks.par {i k next e:Nat}{a:Int}(h:Ks i k next a e):i<next→i<Cur.x.l.length→∀ j:Nat,next≤j→j<e→∃ p:Nat,p<j∧p<Cur.x.l.length∧(j:Int)∈kd p:=by
 induction h with
 | done=>exact fun _ _ j h1 h2=>absurd h1 (by omega)
 | @kid i k next e' e a hk hv hn ha h1 h2 ih1 ih2=>
  intro hi hiL j h3 h4
  have l1:=h1.lt
  by_cases e1:j=next
  ·subst e1; exact⟨i,hi,hiL,by rw[←hv]; exact qzx_ hk⟩
  ·rcases Nat.lt_or_ge j e' with h5 | h5
   ·exact ih1 (by omega) hn j (by omega) h5
   ·exact ih2 (by omega) hiL j h5 h4
theorem setK_get {i:Int}{c:Nat}:∀ {ks:List Int} {L:List Int},(∀ k∈ks,0≤k)→c<L.length→(setK L i ks).getD c 0=if (c:Int)∈ks then i else L.getD c 0
 | [],L,_,_=>by rw[if_neg (by simp)]; rfl
 | k::ks,L,hk,hc=>by
  have ih:=setK_get (i:=i) (c:=c) (ks:=ks) (L:=L.set k.toNat i) (fun k h=>hk k (List.mem_cons_of_mem _ h)) (by rw[List.length_set]; exact hc)
  have h0:=hk k (List.mem_cons_self ..)
  show (setK (L.set k.toNat i) i ks).getD c 0=_
  rw[ih]
  by_cases h1:(c:Int)∈ks
  ·rw[if_pos h1,if_pos (List.mem_cons_of_mem _ h1)]
  ·rw[if_neg h1]
   by_cases h2:(c:Int)=k
   ·subst h2
    rw[if_pos (List.mem_cons_self ..),Int.toNat_natCast,qzy_ hc,if_pos rfl]
   ·rw[if_neg (fun h=>by rcases List.mem_cons.1 h with h | h; exact h2 h; exact h1 h)]
    rcases Nat.lt_or_ge k.toNat L.length with h3 | h3
    ·rw[qzy_ h3,if_neg (by omega)]
    ·rw[List.set_eq_of_length_le h3]
theorem kd_nat (hT:Tree){n:Nat}(hn:n<Cur.x.l.length):∀ k∈kd n,∃ c:Nat,k=c∧n<c:=fun k hk=>by
 obtain⟨q,hq,rfl⟩:=q13_ 0 hk
 obtain⟨c,e,h3,_⟩:=hT.kid hn hq
 exact⟨c,e,h3⟩
theorem parN_mem (hT:Tree){c:Nat}(hc:c<Cur.x.l.length):∀ n,n≤Cur.x.l.length→(∃ p:Nat,p<n∧(c:Int)∈kd p)→∃ p:Nat,(parN n par0).getD c 0=(p:Int)∧p<n∧(c:Int)∈kd p
 | 0,_,⟨p,h,_⟩=>absurd h (Nat.not_lt_zero _)
 | n+1,hn,⟨p,h1,h2⟩=>by
  have h0:par0.length=Cur.x.l.length:=by unfold par0; rw[List.length_set,List.length_replicate]
  have hg:=setK_get (i:=(n:Int)) (c:=c) (ks:=kd n) (L:=parN n par0) (fun k hk=>by obtain⟨d,e,_⟩:=kd_nat hT (by omega:n<Cur.x.l.length) k hk; omega) (by rw[qw1_,h0]; exact hc)
  show ∃ p:Nat,(setK (parN n par0) (n:Int) (kd n)).getD c 0=(p:Int)∧_
  rw[hg]
  by_cases h:(c:Int)∈kd n
  ·rw[if_pos h]; exact⟨n,rfl,Nat.lt_succ_self _,h⟩
  ·rw[if_neg h]
   have:p ≠ n:=fun e=>h (e ▸ h2)
   obtain⟨q,g1,g2,g3⟩:=parN_mem hT hc n (by omega) ⟨p,by omega,h2⟩
   exact⟨q,g1,by omega,g3⟩
end

section
variable [Cur]
theorem refPar2 {n i:Nat}{L:List Int}(hT:Tree)(hi:i<Cur.x.l.length)(hn:(kd i).length<n)(hL:L.length=Cur.x.l.length):qfp_ n Cur.x Cur.x.l.length (i:Int) (L,0)=some (setK L (i:Int) (kd i)):=by
 have hkl:=kd_le i
 obtain⟨r,rfl,h⟩:=hoare (B:=qbi_ n Cur.x Cur.x.l.length (i:Int)) (σ:=List Int) (fun s q=>(s,q)) (fun q s=>s=setK L (i:Int) ((kd i).take q)) (fun r=>r=setK L (i:Int) (kd i)) (kd i).length
  (fun q s hq hI=>by
   subst hI
   obtain⟨c,h1,h2,h3⟩:=hT.kid hi hq
   unfold qbi_
   dsimp only
   rw[if_pos (by omega)]
   simp only[Option.bind_some,Int.toNat_natCast]
   rw[if_pos (show (q:Int)<((((Cur.x.l.getD i (0,0,0,0,0,0,nl0,0)).2.2.2.2.2.2.1.l.length:Nat)):Int) from Int.ofNat_lt.2 hq),if_pos (show (0:Int)≤(q:Int)∧(q:Int)<((((Cur.x.l.getD i (0,0,0,0,0,0,nl0,0)).2.2.2.2.2.2.1.l.length:Nat)):Int) from⟨Int.natCast_nonneg _,Int.ofNat_lt.2 hq⟩),if_pos (show q<(Cur.x.l.getD i (0,0,0,0,0,0,nl0,0)).2.2.2.2.2.2.1.l.length from hq),show (Cur.x.l.getD i (0,0,0,0,0,0,nl0,0)).2.2.2.2.2.2.1.l.getD q 0=(c:Int) from h1]
   rw[if_pos (by omega)]
   simp only[Int.toNat_natCast]
   rw[if_pos (by rw[setK_len]; omega),w64_inc' (by omega)]
   refine .inl ⟨_,?_,rfl⟩
   rw[take_snoc hq,h1,setK_snoc,Int.toNat_natCast])
  (fun s hI=>by
   subst hI
   unfold qbi_
   dsimp only
   rw[if_pos (by omega)]
   simp only[Option.bind_some,Int.toNat_natCast]
   rw[if_neg (show ¬ ((kd i).length:Int)<((((Cur.x.l.getD i (0,0,0,0,0,0,nl0,0)).2.2.2.2.2.2.1.l.length:Nat)):Int) from Int.lt_irrefl _)]
   exact⟨_,by rw[List.take_length],rfl⟩) n 0 L (Nat.zero_le _) rfl (by omega)
 exact h
theorem refPar {n K:Nat}(hT:Tree)(hK:∀ j,(kd j).length≤K)(hn:Cur.x.l.length+K<n)(hc:qc_ n Cur.x=some 0):∃ k:NL,qdb_ n Cur.x=some k∧k.l=parL:=by
 have hmax:=hT.max
 have hpos:=hT.pos
 obtain⟨r,rfl,h⟩:=hoare (B:=qbj_ n Cur.x Cur.x.l.length) (σ:=List Int) (fun s q=>(s,q)) (fun q s=>s=parN q par0) (fun r=>r=parL) Cur.x.l.length
  (fun q s hq hI=>by
   subst hI
   have hk:=hK q
   unfold qbj_
   dsimp only
   rw[if_pos (by omega),refPar2 hT hq (by omega) (by rw[qw1_]; unfold par0; rw[List.length_set,List.length_replicate])]
   simp only[Option.bind_some]
   rw[w64_inc (by omega)]
   exact .inl ⟨_,rfl,rfl⟩)
  (fun s hI=>by
   subst hI
   unfold qbj_
   dsimp only
   rw[if_neg (by omega)]
   exact⟨_,rfl,rfl⟩) n 0 par0 (Nat.zero_le _) rfl (by omega)
 have h:qfq_ n Cur.x Cur.x.l.length ((List.replicate Cur.x.l.length (0:Int)).set ((0:Int)).toNat (-1),0)=some parL:=h
 unfold qdb_
 rw[hc]
 simp only[Option.bind_some]
 rw[if_pos trivial,if_pos (by omega)]
 simp only[Int.toNat_natCast]
 rw[if_pos (by omega),if_pos (by omega),if_pos (by rw[List.length_replicate]; exact hpos),h]
 simp only[Option.bind_some]
 rw[if_pos parL_len.symm,dif_pos (by rw[parL_len]; omega)]
 exact⟨_,rfl,rfl⟩
theorem par_root (hT:Tree):parL.getD 0 0=-1:=by
 have hpos:=hT.pos
 have h0:par0.length=Cur.x.l.length:=by unfold par0; rw[List.length_set,List.length_replicate]
 have main:∀ n,n≤Cur.x.l.length→(parN n par0).getD 0 0=-1:=by
  intro n
  induction n with
  | zero=>
   intro _
   show par0.getD 0 0=-1
   unfold par0
   rw[qzy_ (by rw[List.length_replicate]; omega),if_pos rfl]
  | succ n ih=>
   intro hn
   have hk:=kd_nat hT (n:=n) (by omega)
   show (setK (parN n par0) (n:Int) (kd n)).getD 0 0=-1
   rw[setK_get (fun k h=>by obtain⟨c,rfl,_⟩:=hk k h; exact Int.natCast_nonneg _) (by rw[qw1_]; omega),if_neg (fun h=>by obtain⟨c,h1,h2⟩:=hk _ h; omega)]
   exact ih (by omega)
 exact main _ (Nat.le_refl _)
end

section
variable [Cur]

theorem Ks.hold {i k next e:Nat}{a:Int}(h:Ks i k next a e):∀ j:Nat,next≤j→j<e→∃ q c f:Nat,k≤q∧q<(kd i).length∧(kd i).getD q 0=(c:Int)∧c<Cur.x.l.length∧Ks c 0 (c+1) (atF c) f∧next≤c∧c≤j∧j<f∧f≤e∧(∀ u,k≤u→u<q→(kd i).getD u 0<(c:Int))∧(∀ u,q<u→u<(kd i).length→(f:Int)≤(kd i).getD u 0):=by
 induction h with
 | done hk=>exact fun j h1 h2=>absurd h1 (by omega)
 | @kid i k next e' e a hk hv hn ha h1 h2 ih1 ih2=>
  intro j h3 h4
  have l1:=h1.lt
  have l2:=h2.lt
  rcases Nat.lt_or_ge j e' with h5 | h5
  ·refine⟨k,next,e',Nat.le_refl _,hk,hv,hn,h1,Nat.le_refl _,h3,h5,l2,fun u u1 u2=>absurd u1 (by omega),fun u u1 u2=>?_⟩
   obtain⟨c,g1,g2,_,_⟩:=h2.kids u (by omega) u2
   rw[g1]; omega
  ·obtain⟨q,c,f,g1,g2,g3,g4,g5,g6,g7,g8,g9,ga,gb⟩:=ih2 j h5 h4
   refine⟨q,c,f,by omega,g2,g3,g4,g5,by omega,g7,g8,g9,fun u u1 u2=>?_,gb⟩
   by_cases e1:u=k
   ·subst e1; rw[hv]; omega
   ·exact ga u (by omega) u2
theorem kid_uniq (hT:Tree){p p' c:Nat}(hp:p<Cur.x.l.length)(hp':p' < Cur.x.l.length)(h:(c:Int)∈kd p)(h':(c:Int)∈kd p'):p=p':=by
 have main:∀ p p':Nat,p<Cur.x.l.length→p' < Cur.x.l.length→(c:Int)∈kd p→(c:Int)∈kd p'→¬ p<p':=by
  intro p p' hp hp' h h' hlt
  obtain⟨e,k1,k2,k3⟩:=hT.end hp
  obtain⟨e',m1,m2,m3⟩:=hT.end hp'
  obtain⟨u,hu,huc⟩:=q13_ 0 h
  obtain⟨v,hv,hvc⟩:=q13_ 0 h'
  obtain⟨c1,a1,a2,a3,a4⟩:=k1.kids u (Nat.zero_le _) hu
  obtain⟨c2,b1,b2,b3,b4⟩:=m1.kids v (Nat.zero_le _) hv
  have e1:c1=c:=by omega
  have e2:c2=c:=by omega
  subst e1
  subst e2
  obtain⟨q,d,f,g1,g2,g3,g4,g5,g6,g7,g8,g9,ga,gb⟩:=k1.hold p' (by omega) (by omega)
  have:e'≤f:=by
   by_cases e3:p'=d
   ·subst e3
    have:=Ks.uniq m1 g5 hp'
    omega
   ·obtain⟨f',o1,o2⟩:=g5.cover p' (by omega) g8
    have:=Ks.uniq m1 o2 hp'
    omega
  rcases Nat.lt_trichotomy u q with h6 | h6 | h6
  ·have:=ga u (Nat.zero_le _) h6; omega
  ·subst h6; omega
  ·have:=gb u h6 hu; omega
 rcases Nat.lt_trichotomy p p' with h6 | h6 | h6
 ·exact absurd h6 (main p p' hp hp' h h')
 ·exact h6
 ·exact absurd h6 (main p' p hp' hp h' h)
theorem par_of (hT:Tree){p c:Nat}(hp:p<Cur.x.l.length)(hc:c<Cur.x.l.length)(h:(c:Int)∈kd p):parL.getD c 0=(p:Int):=by
 obtain⟨q,g1,g2,g3⟩:=parN_mem hT hc Cur.x.l.length (Nat.le_refl _) ⟨p,hp,h⟩
 rw[kid_uniq hT hp g2 h g3]
 exact g1
inductive Up:Nat→List Nat→Prop
 | root:Up 0 [0]
 | step {p c:Nat} {L:List Nat} (h:Up p L) (hp:p<Cur.x.l.length) (hc:c<Cur.x.l.length) (hk:(c:Int)∈kd p):Up c (L ++ [c])
def syms (L:List Nat):List Int:=L.map fun i=>(pt i).1
theorem syms_app {L:List Nat}{i:Nat}:syms (L ++ [i])=syms L ++ [(pt i).1]:=by unfold syms; rw[List.map_append]; rfl
theorem q14_ {L:List Nat}:(syms L).length=L.length:=by unfold syms; rw[List.length_map]
theorem Up.len (hT:Tree){i:Nat}{L:List Nat}(h:Up i L):1≤L.length∧L.length≤i+1∧(i ≠ 0→2≤L.length):=by
 induction h with
 | root=>exact⟨Nat.le_refl _,Nat.le_refl _,fun h=>absurd rfl h⟩
 | @step p c L h hp hc hk ih=>
  obtain⟨d,e,h1⟩:=kd_nat hT hp _ hk
  have e2:(L ++ [c]).length=L.length+1:=by simp
  rw[e2]
  refine⟨by omega,by omega,fun _=>by omega⟩

def capF (k:Nat):Nat:=if k=0 then 0 else if k=1 then 1 else Nat.add big 1
theorem capF_1 {k:Nat}(h:2≤k):capF k=Nat.add big 1:=by unfold capF; rw[if_neg (by omega),if_neg (by omega)]
theorem refPath1 {n:Nat}(hT:Tree){y:NL}(hy:y.l=parL){i:Nat}{L:List Nat}(h:Up i L):∀ (acc:List Int) (f:Nat),L.length+acc.length≤1000000→L.length<f→i<Cur.x.l.length→iterM (q1_ n Cur.x y) f ((i:Int),acc,acc.length,capF acc.length)=some (syms L++acc,(syms L++acc).length,capF (syms L++acc).length):=by
 have hpl:=parL_len
 have hyl:y.l.length=Cur.x.l.length:=by rw[hy,hpl]
 -- one round
 have round:∀ (i:Nat) (acc:List Int),i<Cur.x.l.length→acc.length≤1000000→q1_ n Cur.x y ((i:Int),acc,acc.length,capF acc.length)=some (.inl (parL.getD i 0,(pt i).1::acc,((pt i).1::acc).length,capF ((pt i).1::acc).length)):=by
  intro i acc hi ha
  cases acc with
  | nil=>
   unfold q1_
   dsimp only
   rw[if_pos (by omega),if_pos (by omega)]
   simp only[Option.bind_some,Int.toNat_natCast]
   rw[if_pos (by omega),if_pos (by omega),hy]
   rfl
  | cons a t=>
   have e1:(a::t).length=t.length+1:=rfl
   have e2:((pt i).1::a::t).length=t.length+2:=rfl
   have e3:List.take (a::t).length (List.drop 0 (a::t))=a::t:=by rw[List.drop_zero,List.take_length]
   unfold q1_
   dsimp only
   rw[if_pos (by omega),if_pos (by omega)]
   simp only[Option.bind_some,Int.toNat_natCast]
   rw[if_pos (by omega),if_pos (by omega),if_pos (by omega),if_pos (by omega),if_pos (by omega),if_pos (by omega),e3,capF_1 (by omega),hy]
   rfl
 induction h with
 | root=>
  intro acc f h1 h2 hi
  obtain⟨f,rfl⟩:∃ g,f=g+1:=⟨f-1,by omega⟩
  have e1:([0]:List Nat).length=1:=rfl
  obtain⟨f,rfl⟩:∃ g,f=g+1:=⟨f-1,by omega⟩
  rw[qbe_,round 0 acc hi (by omega),par_root hT]
  show iterM (q1_ n Cur.x y) (f+1) (-1,(pt 0).1::acc,((pt 0).1::acc).length,capF ((pt 0).1::acc).length)=_
  rw[qbe_]
  unfold q1_
  dsimp only
  rw[if_neg (by omega)]
  rfl
 | @step p c L h hp hc hk ih=>
  intro acc f h1 h2 hi
  obtain⟨f,rfl⟩:∃ g,f=g+1:=⟨f-1,by omega⟩
  have e1:(L ++ [c]).length=L.length+1:=by simp
  have e2:((pt c).1::acc).length=acc.length+1:=rfl
  rw[qbe_,round c acc hi (by omega),par_of hT hp hc hk]
  have:=ih ((pt c).1::acc) f (by omega) (by omega) hp
  rw[syms_app,List.append_assoc]
  exact this
theorem refPath {n K j:Nat}{L:List Nat}(hT:Tree)(hK:∀ j,(kd j).length≤K)(hn:Cur.x.l.length+K+10<n)(hc:qc_ n Cur.x=some 0)(hj:j<Cur.x.l.length)(hU:Up j L):∃ y:NL,qcj_ n Cur.x (j:Int)=some y∧y.l=syms L:=by
 have hmax:=hT.max
 have hUl:=hU.len hT
 unfold qcj_ qgz_
 rw[hc]
 simp only[Option.bind_some]
 rw[if_pos trivial,if_pos (by omega),if_pos (by omega)]
 simp only[Option.bind_some]
 obtain⟨y,hy,hyl⟩:=refPar hT hK (by omega) hc
 rw[if_pos trivial,hy]
 simp only[Option.bind_some]
 have h:=refPath1 (n:=n) hT hyl hU [] n (by simp; omega) (by omega) hj
 rw[List.append_nil,q14_] at h
 have h:qgp_ n Cur.x y ((j:Int),[],0,0)=some (syms L,L.length,capF L.length):=h
 rw[h]
 simp only[Option.bind_some]
 have hs:=q14_ (L:=L)
 cases hq:syms L with
 | nil=>rw[hq] at hs; simp at hs; omega
 | cons a t=>
  dsimp only
  rw[←hq,if_pos hs.symm,dif_pos (by omega)]
  exact⟨_,rfl,rfl⟩
end



theorem ext_getD {α:Type}{d:α}{L M:List α}(hl:L.length=M.length)(h:∀ j,j<M.length→L.getD j d=M.getD j d):L=M:=by
 apply List.ext_getElem hl
 intro j h1 h2
 have:=h j h2
 simpa [List.getD_eq_getElem?_getD,h1,h2] using this
theorem range_map {α β:Type}{f:α→β}{d:α}{l:List α}:(List.range l.length).map (fun j=>f (l.getD j d))=l.map f:=by
 apply List.ext_getElem (by simp)
 intro j h1 h2
 have hj:j<l.length:=by simpa using h2
 simp[List.getD_eq_getElem?_getD,hj]
theorem foldLoop {σ:Type}{B:σ×Int→Option ((σ×Int) ⊕ σ)}(g:σ→Nat→σ)(len:Nat)
  (h1:∀ (i:Nat) (s:σ),i<len→B (s,(i:Int))=some (.inl (g s i,((i+1:Nat):Int))))
  (h2:∀ s,B (s,(len:Int))=some (.inr s)) (n:Nat) (s0:σ) (hn:len<n) :
  iterM B n (s0,0)=some ((List.range len).foldl g s0):=by
 obtain⟨r,rfl,q2⟩:=hoare (B:=B) (σ:=σ) (fun s i=>(s,i)) (fun i s=>s=(List.range i).foldl g s0) (fun r=>r=(List.range len).foldl g s0) len
  (fun i s hi hI=>.inl ⟨_,by rw[List.range_succ,List.foldl_append,hI]; rfl,h1 i s hi⟩)
  (fun s hI=>⟨s,hI,h2 s⟩) n 0 s0 (Nat.zero_le _) rfl (by omega)
 exact q2
theorem qya_ {α:Type}{l:List α}{d:α}{i j:Nat}:(l.drop i).getD j d=l.getD (i+j) d:=by
 simp[List.getD_eq_getElem?_getD]
abbrev S4:=Int×NL×Int×Int
def d4:S4:=(0,nl0,0,0)
def endsL (w p:List Int):Bool:=decide (p.length≤w.length∧w.drop (w.length-p.length)=p)
theorem eqW {n o m:Nat}{w:List Int}{l:NL}(ho:o+m=w.length)(hw:w.length≤1000000)(hn:w.length<n):qej_ n w o m l=some (decide (w.drop o=l.l)):=by
 have hd:(w.drop o).length=m:=by rw[List.length_drop]; omega
 unfold qej_
 by_cases hl:m=l.l.length
 ·rw[if_pos (by omega)]
  have:=scan (B:=qb4_ n w o m l (m:Int)) m (fun j=>decide (w.getD (o+j) 0=l.l.getD j 0)) () ()
   (fun j hj=>by
    unfold qb4_
    dsimp only
    rw[if_pos (by omega),if_pos (by omega),Int.toNat_natCast,Nat.mul_one,if_pos (by omega)]
    try dsimp only[Option.bind_some]
    rw[if_pos (by omega),if_pos (by omega)]
    try dsimp only[Option.bind_some]
    by_cases c:w.getD (o+j) 0=l.l.getD j 0
    ·rw[if_pos c,w64_inc (by omega),if_pos (by simpa using c)]
    ·rw[if_neg c,if_neg (by simpa using c)])
   (by
    unfold qb4_
    dsimp only
    rw[if_neg (by omega)]) n (by omega)
  rw[show qe5_ n w o m l (m:Int) 0=_ from this]
  by_cases c:w.drop o=l.l
  ·rw[if_pos (by
    rw[List.all_eq_true]
    intro j hj
    rw[←c,qya_]
    simp)]
   simp[c]
  ·rw[if_neg (fun h=>c ?_)]
   ·simp[c]
   ·refine ext_getD (d:=0) (by omega) fun j hj=>?_
    rw[qya_]
    have h3:=(List.all_eq_true.1 h) j (List.mem_range.2 (by omega))
    simpa using h3
 ·rw[if_neg (by omega),decide_eq_false (fun h=>hl (by rw[←h]; exact hd.symm))]
theorem endsW {n:Nat}{w:List Int}{p:NL}(hw:w.length≤1000000)(hn:w.length<n):qek_ n w w.length p=some (endsL w p.l):=by
 unfold qek_ endsL
 by_cases c:p.l.length≤w.length
 ·rw[if_pos (by omega)]
  try dsimp only[Option.bind_some]
  rw[qqg_ (by omega) (by omega),if_pos (by omega),eqW (by omega) hw hn,show ((w.length:Int)-(p.l.length:Int)).toNat=w.length-p.l.length by omega]
  try dsimp only[Option.bind_some]
  congr 1
  simp[c]
 ·rw[if_neg (by omega)]
  simp[c]
theorem ends0 {n:Nat}{p:NL}(hn:0<n):qei_ n p=some (endsL [] p.l):=by
 obtain⟨m,rfl⟩:∃ m,n=m+1:=⟨n-1,by omega⟩
 unfold qei_ endsL
 by_cases c:p.l=[]
 ·have h0:p.l.length=0:=by rw[c]; rfl
  rw[if_pos (by omega)]
  try dsimp only[Option.bind_some]
  rw[qqg_ (by omega) (by omega),if_pos (by omega)]
  unfold qft_
  rw[if_pos (by omega)]
  unfold qgo_
  rw[qbe_]
  unfold qdq_
  simp[c]
 ·have h0:0<p.l.length:=List.length_pos_iff.2 c
  rw[if_neg (by omega)]
  simp[c]
def mat (k:Int)(w:List Int)(s:S4):Bool:=decide (s.1=k)&&endsL w s.2.1.l
theorem matW {n:Nat}{w:List Int}{p:NL}{k a2 a3 a0:Int}(hw:w.length≤1000000)(hn:w.length<n):qfd_ n a0 p a2 a3 k w w.length=some (mat k w (a0,p,a2,a3)):=by
 unfold qfd_ mat
 by_cases c:a0=k
 ·rw[if_pos c,endsW hw hn]
  simp[c]
 ·rw[if_neg c]
  simp[c]
theorem mat0 {n:Nat}{p:NL}{k a2 a3 a0:Int}(hn:0<n):qfc_ n a0 p a2 a3 k=some (mat k [] (a0,p,a2,a3)):=by
 unfold qfc_ mat
 by_cases c:a0=k
 ·rw[if_pos c,ends0 hn]
  simp[c]
 ·rw[if_neg c]
  simp[c]
abbrev B3:=Int×Int×Bool
def stp (k:Int)(w:List Int)(b:B3)(s:S4):B3:=if mat k w s=true then (if b.2.2=true∧s.2.2.2≤b.2.1 then b else (s.2.2.1,s.2.2.2,true)) else b
theorem s1_ok {n:Nat}{p:NL}{a0 a1 a2 a4 a6 a7 k:Int}{a3:Bool}(hn:0<n):∃ k' p',qfx_ n a0 a1 a2 a3 a4 p a6 a7 k=some (k',p',stp k [] (a1,a2,a3) (a4,p,a6,a7)):=by
 unfold qfx_ stp
 rw[mat0 hn]
 try dsimp only[Option.bind_some]
 cases mat k [] (a4,p,a6,a7) with
 | false=>exact⟨_,_,rfl⟩
 | true=>
  rw[if_pos rfl,if_pos rfl]
  cases a3 with
  | false=>exact⟨_,_,rfl⟩
  | true=>
   rw[if_pos rfl]
   by_cases c:a7≤a2
   ·rw[if_pos c,if_pos ⟨rfl,c⟩]; exact⟨_,_,rfl⟩
   ·rw[if_neg c,if_neg (fun h=>c h.2)]; exact⟨_,_,rfl⟩
theorem s2_ok {n:Nat}{p q:NL}{a0 a1 a2 a4 a6 a7 k:Int}{a3:Bool}(hn:0<n):∃ k' p',qfy_ n a0 q a1 a2 a3 a4 p a6 a7 k=some (k',p',stp k [] (a1,a2,a3) (a4,p,a6,a7)):=by
 unfold qfy_ stp
 rw[mat0 hn]
 try dsimp only[Option.bind_some]
 cases mat k [] (a4,p,a6,a7) with
 | false=>exact⟨_,_,rfl⟩
 | true=>
  rw[if_pos rfl,if_pos rfl]
  cases a3 with
  | false=>exact⟨_,_,rfl⟩
  | true=>
   rw[if_pos rfl]
   by_cases c:a7≤a2
   ·rw[if_pos c,if_pos ⟨rfl,c⟩]; exact⟨_,_,rfl⟩
   ·rw[if_neg c,if_neg (fun h=>c h.2)]; exact⟨_,_,rfl⟩
theorem s3_ok {n:Nat}{w:List Int}{p:NL}{a0 a1 a2 a4 a6 a7 k:Int}{a3:Bool}(hw:w.length≤1000000)(hn:w.length<n):∃ k' p',qf0_ n a0 a1 a2 a3 a4 p a6 a7 k w w.length=some (k',p',stp k w (a1,a2,a3) (a4,p,a6,a7)):=by
 unfold qf0_ stp
 rw[matW hw hn]
 try dsimp only[Option.bind_some]
 cases mat k w (a4,p,a6,a7) with
 | false=>exact⟨_,_,rfl⟩
 | true=>
  rw[if_pos rfl,if_pos rfl]
  cases a3 with
  | false=>exact⟨_,_,rfl⟩
  | true=>
   rw[if_pos rfl]
   by_cases c:a7≤a2
   ·rw[if_pos c,if_pos ⟨rfl,c⟩]; exact⟨_,_,rfl⟩
   ·rw[if_neg c,if_neg (fun h=>c h.2)]; exact⟨_,_,rfl⟩
theorem s4_ok {n:Nat}{w:List Int}{p q:NL}{a0 a1 a2 a4 a6 a7 k:Int}{a3:Bool}(hw:w.length≤1000000)(hn:w.length<n):∃ k' p',qf1_ n a0 q a1 a2 a3 a4 p a6 a7 k w w.length=some (k',p',stp k w (a1,a2,a3) (a4,p,a6,a7)):=by
 unfold qf1_ stp
 rw[matW hw hn]
 try dsimp only[Option.bind_some]
 cases mat k w (a4,p,a6,a7) with
 | false=>exact⟨_,_,rfl⟩
 | true=>
  rw[if_pos rfl,if_pos rfl]
  cases a3 with
  | false=>exact⟨_,_,rfl⟩
  | true=>
   rw[if_pos rfl]
   by_cases c:a7≤a2
   ·rw[if_pos c,if_pos ⟨rfl,c⟩]; exact⟨_,_,rfl⟩
   ·rw[if_neg c,if_neg (fun h=>c h.2)]; exact⟨_,_,rfl⟩
abbrev V6:=Int×List NL×Int×Int×Bool×Int
abbrev R5:=Int×List NL×Int×Int×Bool
theorem valLoop {B:V6→Option (V6 ⊕ R5)}(k:Int)(w:List Int)(L:List S4)
  (h1:∀ (i:Nat) (a:Int) (P:List NL) (b:B3),i<L.length→∃ a' P',B (a,P,b.1,b.2.1,b.2.2,(i:Int))=some (.inl (a',P',(stp k w b (L.getD i d4)).1,(stp k w b (L.getD i d4)).2.1,(stp k w b (L.getD i d4)).2.2,((i+1:Nat):Int))))
  (h2:∀ (a:Int) (P:List NL) (b:B3),∃ a' p',B (a,P,b.1,b.2.1,b.2.2,(L.length:Int))=some (.inr (a',p',b))) :
  ∀ (d i:Nat) (a:Int) (P:List NL) (b:B3) (f:Nat),i+d=L.length→d<f→∃ a' p',iterM B f (a,P,b.1,b.2.1,b.2.2,(i:Int))=some (a',p',(L.drop i).foldl (stp k w) b)
 | 0,i,a,P,b,f,h,hf=>by
  obtain⟨f,rfl⟩:∃ g,f=g+1:=⟨f-1,by omega⟩
  obtain rfl:i=L.length:=by omega
  obtain⟨a',p',h⟩:=h2 a P b
  rw[qbe_,h,List.drop_length]
  exact⟨a',p',rfl⟩
 | d+1,i,a,P,b,f,h,hf=>by
  obtain⟨f,rfl⟩:∃ g,f=g+1:=⟨f-1,by omega⟩
  have hi:i<L.length:=by omega
  obtain⟨a',P',h3⟩:=h1 i a P b hi
  obtain⟨a2,p2,h4⟩:=valLoop k w L h1 h2 d (i+1) a' P' (stp k w b (L.getD i d4)) f (by omega) (by omega)
  rw[qbe_,h3]
  refine⟨a2,p2,?_⟩
  rw[List.drop_eq_getElem_cons hi,List.foldl_cons]
  rw[show L.getD i d4=L[i] by simp[List.getD_eq_getElem?_getD,hi]] at h4
  simpa [List.getD_eq_getElem?_getD,hi] using h4
def sty (k:Int)(w:List Int)(L:List S4):Int:=(L.foldl (stp k w) (0,0,false)).1

theorem style0 {n:Nat}{L:WL rw_iLii}{k:Int}(hL:(L.l).length≤1000000)(hn:(L.l).length<n)(h0:0<n):qfn_ n L k=some (sty k [] (L.l)):=by
 unfold qfn_ qex_ qea_ qce_
 obtain⟨a',p',h⟩:=valLoop (B:=q9_ n k 0 0 0 false L (((L.l).length:Nat):Int)) k [] (L.l)
  (fun i a P b hi=>by
   obtain⟨b1,b2,b3⟩:=b
   unfold q9_
   dsimp only
   cases P with
   | nil=>
    dsimp only
    rw[if_pos (by omega),if_pos (by omega),Int.toNat_natCast]
    try dsimp only[Option.bind_some]
    obtain⟨k',p',h⟩:=s1_ok (n:=n) (p:=((L.l).getD i d4).2.1) (a0:=a) (a1:=b1) (a2:=b2) (a3:=b3) (a4:=((L.l).getD i d4).1) (a6:=((L.l).getD i d4).2.2.1) (a7:=((L.l).getD i d4).2.2.2) (k:=k) h0
    have h:qfx_ n a b1 b2 b3 ((L.l).getD i (0,nl0,0,0)).1 ((L.l).getD i (0,nl0,0,0)).2.1 ((L.l).getD i (0,nl0,0,0)).2.2.1 ((L.l).getD i (0,nl0,0,0)).2.2.2 k=some (k',p',stp k [] (b1,b2,b3) ((L.l).getD i d4)):=h
    unfold qcz_
    rw[h]
    simp only[Option.bind_some]
    rw[w64_inc (by omega)]
    exact⟨_,_,rfl⟩
   | cons x t=>
    dsimp only
    rw[if_pos (by omega),if_pos (by omega),Int.toNat_natCast]
    try dsimp only[Option.bind_some]
    obtain⟨k',p',h⟩:=s2_ok (n:=n) (p:=((L.l).getD i d4).2.1) (q:=x) (a0:=a) (a1:=b1) (a2:=b2) (a3:=b3) (a4:=((L.l).getD i d4).1) (a6:=((L.l).getD i d4).2.2.1) (a7:=((L.l).getD i d4).2.2.2) (k:=k) h0
    have h:qfy_ n a x b1 b2 b3 ((L.l).getD i (0,nl0,0,0)).1 ((L.l).getD i (0,nl0,0,0)).2.1 ((L.l).getD i (0,nl0,0,0)).2.2.1 ((L.l).getD i (0,nl0,0,0)).2.2.2 k=some (k',p',stp k [] (b1,b2,b3) ((L.l).getD i d4)):=h
    unfold qc0_
    rw[h]
    simp only[Option.bind_some]
    rw[w64_inc (by omega)]
    exact⟨_,_,rfl⟩
  )
  (fun a P b=>by
   obtain⟨b1,b2,b3⟩:=b
   unfold q9_
   dsimp only
   cases P with
   | nil=>dsimp only; rw[if_neg (by omega)]; exact⟨_,_,rfl⟩
   | cons x t=>dsimp only; rw[if_neg (by omega)]; exact⟨_,_,rfl⟩) (L.l).length 0 0 [] (0,0,false) n (by omega) hn
 have h:qe9_ n k 0 0 0 false L (((L.l).length:Nat):Int) (0,[],0,0,false,0)=some (a',p',(L.l).foldl (stp k []) (0,0,false)):=h
 simp only[Option.bind_some]
 rw[h]
 cases p'<;>rfl
theorem styleW {n:Nat}{L:WL rw_iLii}{k:Int}{w:List Int}(hL:(L.l).length≤1000000)(hn:(L.l).length<n)(hw:w.length≤1000000)(hn2:w.length<n):qfo_ n L k w w.length=some (sty k w (L.l)):=by
 unfold qfo_ qey_ qec_ qce_
 obtain⟨a',p',h⟩:=valLoop (B:=qbb_ n k w w.length 0 0 0 false L (((L.l).length:Nat):Int)) k w (L.l)
  (fun i a P b hi=>by
   obtain⟨b1,b2,b3⟩:=b
   unfold qbb_
   dsimp only
   cases P with
   | nil=>
    dsimp only
    rw[if_pos (by omega),if_pos (by omega),Int.toNat_natCast]
    try dsimp only[Option.bind_some]
    obtain⟨k',p',h⟩:=s3_ok (n:=n) (p:=((L.l).getD i d4).2.1) (a0:=a) (a1:=b1) (a2:=b2) (a3:=b3) (a4:=((L.l).getD i d4).1) (a6:=((L.l).getD i d4).2.2.1) (a7:=((L.l).getD i d4).2.2.2) (k:=k) (w:=w) hw hn2
    have h:qf0_ n a b1 b2 b3 ((L.l).getD i (0,nl0,0,0)).1 ((L.l).getD i (0,nl0,0,0)).2.1 ((L.l).getD i (0,nl0,0,0)).2.2.1 ((L.l).getD i (0,nl0,0,0)).2.2.2 k w w.length=some (k',p',stp k w (b1,b2,b3) ((L.l).getD i d4)):=h
    unfold qc1_
    rw[h]
    simp only[Option.bind_some]
    rw[w64_inc (by omega)]
    exact⟨_,_,rfl⟩
   | cons x t=>
    dsimp only
    rw[if_pos (by omega),if_pos (by omega),Int.toNat_natCast]
    try dsimp only[Option.bind_some]
    obtain⟨k',p',h⟩:=s4_ok (n:=n) (p:=((L.l).getD i d4).2.1) (q:=x) (a0:=a) (a1:=b1) (a2:=b2) (a3:=b3) (a4:=((L.l).getD i d4).1) (a6:=((L.l).getD i d4).2.2.1) (a7:=((L.l).getD i d4).2.2.2) (k:=k) (w:=w) hw hn2
    have h:qf1_ n a x b1 b2 b3 ((L.l).getD i (0,nl0,0,0)).1 ((L.l).getD i (0,nl0,0,0)).2.1 ((L.l).getD i (0,nl0,0,0)).2.2.1 ((L.l).getD i (0,nl0,0,0)).2.2.2 k w w.length=some (k',p',stp k w (b1,b2,b3) ((L.l).getD i d4)):=h
    unfold qc2_
    rw[h]
    simp only[Option.bind_some]
    rw[w64_inc (by omega)]
    exact⟨_,_,rfl⟩
  )
  (fun a P b=>by
   obtain⟨b1,b2,b3⟩:=b
   unfold qbb_
   dsimp only
   cases P with
   | nil=>dsimp only; rw[if_neg (by omega)]; exact⟨_,_,rfl⟩
   | cons x t=>dsimp only; rw[if_neg (by omega)]; exact⟨_,_,rfl⟩) (L.l).length 0 0 [] (0,0,false) n (by omega) hn
 have h:qfa_ n k w w.length 0 0 0 false L (((L.l).length:Nat):Int) (0,[],0,0,false,0)=some (a',p',(L.l).foldl (stp k w) (0,0,false)):=h
 simp only[Option.bind_some]
 rw[h]
 cases p'<;>rfl

theorem anyLoop {ε:Type}{B:Int→Option (Int ⊕ (ε ⊕ Unit))}(S:Nat→Int)(bad:Nat→Bool)(v:Nat→ε)(len:Nat)
  (h1:∀ i,i<len→bad i=true→B (S i)=some (.inr (.inl (v i))))
  (h2:∀ i,i<len→bad i=false→B (S i)=some (.inl (S (i+1))))
  (h3:B (S len)=some (.inr (.inr ()))):∀ (d i f:Nat),i+d=len→d<f→(∀ j,j<i→bad j=false) →
   ((List.range len).any bad=false∧iterM B f (S i)=some (.inr ()))∨((List.range len).any bad=true∧∃ i':Nat,i' < len∧iterM B f (S i)=some (.inl (v i')))
 | 0,i,f,h,hf,hb=>by
  obtain⟨f,rfl⟩:∃ g,f=g+1:=⟨f-1,by omega⟩
  obtain rfl:i=len:=by omega
  refine .inl ⟨?_,by rw[qbe_,h3]; rfl⟩
  rw[Bool.eq_false_iff]
  intro h
  obtain⟨j,hj,hj2⟩:=List.any_eq_true.1 h
  rw[hb j (List.mem_range.1 hj)] at hj2
  cases hj2
 | d+1,i,f,h,hf,hb=>by
  obtain⟨f,rfl⟩:∃ g,f=g+1:=⟨f-1,by omega⟩
  have hi:i<len:=by omega
  cases hc:bad i with
  | true=>exact .inr ⟨List.any_eq_true.2 ⟨i,List.mem_range.2 hi,hc⟩,i,hi,by rw[qbe_,h1 i hi hc]; rfl⟩
  | false=>
   have:=anyLoop S bad v len h1 h2 h3 d (i+1) f (by omega) (by omega) (fun j hj=>by
    by_cases e:j=i
    ·rw[e]; exact hc
    ·exact hb j (by omega))
   rw[qbe_,h2 i hi hc]
   exact this
theorem anyU {B:Int→Option (Int ⊕ (Unit ⊕ Unit))}(S:Nat→Int)(bad:Nat→Bool)(len:Nat)
  (h1:∀ i,i<len→bad i=true→B (S i)=some (.inr (.inl ())))
  (h2:∀ i,i<len→bad i=false→B (S i)=some (.inl (S (i+1))))
  (h3:B (S len)=some (.inr (.inr ()))) {n:Nat} (hn:len<n):iterM B n (S 0)=some (if (List.range len).any bad=true then .inl () else .inr ()):=by
 rcases anyLoop S bad (fun _=>()) len h1 h2 h3 len 0 n (by omega) hn (fun j hj=>by omega) with⟨a,b⟩ | ⟨a,i,_,b⟩
 ·rw[b,a]; rfl
 ·rw[b,a]; rfl
theorem lightS {n:Nat}{x:WL rw_iLii}(hn:x.l.length<n):∃ b,qcm_ n x=some b∧(b=true→x.l.length≤70∧∀ i,i<x.l.length→(x.l.getD i d4).2.1.l.length≤20):=by
 have hle:=x.le
 have q:=anyU (B:=qy_ n x) (fun i=>(i:Int)) (fun i=>decide ((((x.l.getD i d4).2.1.l.length:Nat):Int) > 20)) x.l.length
  (fun i hi hb=>by
   have hb:=of_decide_eq_true hb
   unfold qy_
   dsimp only
   rw[if_pos (by omega),if_pos (by omega),Int.toNat_natCast]
   simp only[Option.bind_some]
   exact if_pos hb)
  (fun i hi hb=>by
   have hb:=of_decide_eq_false hb
   unfold qy_
   dsimp only
   rw[if_pos (by omega),if_pos (by omega),Int.toNat_natCast]
   simp only[Option.bind_some]
   rw[@w64_inc' _ ⟨wA⟩ i (by omega)]
   exact if_neg hb)
  (by
   unfold qy_
   dsimp only
   rw[if_neg (by omega)]) hn
 unfold qcm_
 rw[show qc5_ n x 0=_ from q]
 cases ha:(List.range x.l.length).any fun i=>decide ((((x.l.getD i d4).2.1.l.length:Nat):Int) > 20) with
 | true=>exact⟨false,rfl,fun h=>by cases h⟩
 | false=>
  simp only[Bool.false_eq_true,if_false]
  by_cases c:((x.l.length:Nat):Int)≤70
  ·rw[if_pos c]
   refine⟨true,rfl,fun _=>⟨by omega,fun i hi=>?_⟩⟩
   have:=List.any_eq_false.1 ha i (List.mem_range.2 hi)
   have:=of_decide_eq_false (Bool.eq_false_iff.2 this)
   omega
  ·rw[if_neg c]; exact⟨false,rfl,fun h=>by cases h⟩
theorem ends_iff {p w:List Int}(h:p.length≤w.length):((List.range p.length).any fun i=>decide (p.getD (p.length-1-i) 0 ≠ w.getD (w.length-1-i) 0))=!endsL w p:=by
 unfold endsL
 rw[Bool.eq_iff_iff,List.any_eq_true,Bool.not_eq_true',decide_eq_false_iff_not]
 constructor
 ·rintro ⟨i,hi,hb⟩ ⟨_,e⟩
  have hi:=List.mem_range.1 hi
  apply of_decide_eq_true hb
  have:p.getD (p.length-1-i) 0=(w.drop (w.length-p.length)).getD (p.length-1-i) 0:=by rw[e]
  rw[this,qya_]
  congr 1
  omega
 ·intro hne
  apply Classical.byContradiction
  intro hall
  refine hne ⟨h,ext_getD (d:=0) (by rw[List.length_drop]; omega) fun j hj=>?_⟩
  rw[qya_]
  have:=fun hb=>hall ⟨p.length-1-j,List.mem_range.2 (by omega),decide_eq_true hb⟩
  have e:=Classical.byContradiction this
  rw[show p.length-1-(p.length-1-j)=j by omega,show w.length-1-(p.length-1-j)=w.length-p.length+j by omega] at e
  exact e.symm
theorem mref_ok {n:Nat}{w p:NL}{k a2 a3 a0:Int}(hw:w.l.length≤1000000)(hp:p.l.length<n):qdc_ n a0 p a2 a3 k w=some (mat k w.l (a0,p,a2,a3)):=by
 unfold qdc_ mat
 by_cases c:a0=k
 ·rw[if_pos c,decide_eq_true (show (a0,p,a2,a3).1=k from c),Bool.true_and]
  by_cases cl:((p.l.length:Nat):Int) > ((w.l.length:Nat):Int)
  ·rw[if_pos cl]
   unfold endsL
   rw[decide_eq_false (fun h=>by have:=h.1; have:p.l.length≤w.l.length:=this; omega)]
  ·rw[if_neg cl]
   have q:=anyU (B:=q2_ n w a0 p a2 a3) (fun i=>((i+1:Nat):Int)) (fun i=>decide (p.l.getD (p.l.length-1-i) 0 ≠ w.l.getD (w.l.length-1-i) 0)) p.l.length
    (fun i hi hb=>by
     have hb:=of_decide_eq_true hb
     unfold q2_
     dsimp only
     have e1:(((p.l.length:Nat):Int)-((i+1:Nat):Int))=((p.l.length-1-i:Nat):Int):=by omega
     have e2:(((w.l.length:Nat):Int)-((i+1:Nat):Int))=((w.l.length-1-i:Nat):Int):=by omega
     rw[if_pos (by omega),e1,e2,qqg_ (by omega) (by omega),qqg_ (by omega) (by omega)]
     simp only[Option.bind_some]
     rw[if_pos (by omega),Int.toNat_natCast,if_pos (by omega),if_pos (by omega),Int.toNat_natCast,if_pos (by omega)]
     exact if_neg hb)
    (fun i hi hb=>by
     have hb:p.l.getD (p.l.length-1-i) 0=w.l.getD (w.l.length-1-i) 0:=Classical.byContradiction (of_decide_eq_false hb)
     unfold q2_
     dsimp only
     have e1:(((p.l.length:Nat):Int)-((i+1:Nat):Int))=((p.l.length-1-i:Nat):Int):=by omega
     have e2:(((w.l.length:Nat):Int)-((i+1:Nat):Int))=((w.l.length-1-i:Nat):Int):=by omega
     rw[if_pos (by omega),e1,e2,qqg_ (by omega) (by omega),qqg_ (by omega) (by omega)]
     simp only[Option.bind_some]
     rw[if_pos (by omega),Int.toNat_natCast,if_pos (by omega),if_pos (by omega),Int.toNat_natCast,if_pos (by omega),w64_inc (by omega)]
     exact if_pos hb)
    (by
     unfold q2_
     dsimp only
     rw[if_neg (by omega)]) hp
   rw[show qdz_ n w a0 p a2 a3 1=_ from q,ends_iff (by omega)]
   show (match some (if (!endsL w.l p.l)=true then (Sum.inl ():Unit ⊕ Unit) else Sum.inr ()) with
    | none=>none
    | some (.inl _)=>some false
    | some (.inr _)=>some true)=some (endsL w.l p.l)
   cases endsL w.l p.l<;>rfl
 ·rw[if_neg c,decide_eq_false (show ¬ (a0,p,a2,a3).1=k from c),Bool.false_and]
theorem sref_ok {n:Nat}{L:WL rw_iLii}{k:Int}{w:NL}(hL:L.l.length≤1000000)(hn:L.l.length<n)(hw:w.l.length≤1000000)(hr:∀ i,i<L.l.length→(L.l.getD i d4).2.1.l.length<n):qcx_ n L k w=some (sty k w.l L.l):=by
 have row:∀ i,L.l.getD i (0,nl0,0,0)=L.l.getD i d4:=fun i=>rfl
 obtain⟨r,q1,q2⟩:=hoare (B:=qby_ n L k w) (σ:=Int) (fun s t=>(s,t))
  (fun t s=>(s=-1∧(L.l.take t).foldl (stp k w.l) (0,0,false)=(0,0,false))∨∃ b:Nat,b<t∧b<L.l.length∧s=(b:Int)∧(L.l.take t).foldl (stp k w.l) (0,0,false)=((L.l.getD b d4).2.2.1,(L.l.getD b d4).2.2.2,true))
  (fun s=>(s=-1∧L.l.foldl (stp k w.l) (0,0,false)=(0,0,false))∨∃ b:Nat,b<L.l.length∧s=(b:Int)∧L.l.foldl (stp k w.l) (0,0,false)=((L.l.getD b d4).2.2.1,(L.l.getD b d4).2.2.2,true)) L.l.length
  (fun t s ht hI=>by
   have hstep:(L.l.take (t+1)).foldl (stp k w.l) (0,0,false)=stp k w.l ((L.l.take t).foldl (stp k w.l) (0,0,false)) (L.l.getD t d4):=by
    rw[List.take_add_one,List.getElem?_eq_getElem ht,List.foldl_append]
    simp[List.getD_eq_getElem?_getD,ht]
   unfold qby_
   dsimp only
   rw[if_pos (by omega),if_pos (by omega),Int.toNat_natCast]
   simp only[Option.bind_some,row]
   rw[mref_ok hw (hr t ht),Option.bind_some,w64_inc (by omega)]
   have hm:mat k w.l ((L.l.getD t d4).1,(L.l.getD t d4).2.1,(L.l.getD t d4).2.2.1,(L.l.getD t d4).2.2.2)=mat k w.l (L.l.getD t d4):=rfl
   rw[hm]
   cases hc:mat k w.l (L.l.getD t d4) with
   | false=>
    rw[if_neg (by decide)]
    have e:(L.l.take (t+1)).foldl (stp k w.l) (0,0,false)=(L.l.take t).foldl (stp k w.l) (0,0,false):=by
     rw[hstep]; unfold stp; rw[hc]; rfl
    refine .inl ⟨s,?_,rfl⟩
    rcases hI with⟨h1,h2⟩ | ⟨b,h1,h2,h3,h4⟩
    ·exact .inl ⟨h1,e.trans h2⟩
    ·exact .inr ⟨b,by omega,h2,h3,e.trans h4⟩
   | true=>
    rw[if_pos rfl]
    rcases hI with⟨h1,h2⟩ | ⟨b,h1,h2,h3,h4⟩
    ·rw[if_pos (by omega)]
     refine .inl ⟨_,.inr ⟨t,by omega,ht,rfl,?_⟩,rfl⟩
     rw[hstep,h2]
     unfold stp
     rw[if_pos hc,if_neg (fun h=>by cases h.1)]
    ·rw[if_neg (by omega),if_pos (by omega),h3,Int.toNat_natCast]
     by_cases cp:(L.l.getD t d4).2.2.2 > (L.l.getD b d4).2.2.2
     ·rw[if_pos cp]
      refine .inl ⟨_,.inr ⟨t,by omega,ht,rfl,?_⟩,rfl⟩
      rw[hstep,h4]
      unfold stp
      rw[if_pos hc,if_neg (fun h=>by have:=h.2; simp only[] at this; omega)]
     ·rw[if_neg cp]
      refine .inl ⟨_,.inr ⟨b,by omega,h2,rfl,?_⟩,rfl⟩
      rw[hstep,h4]
      unfold stp
      rw[if_pos hc,if_pos ⟨rfl,by simp only[]; omega⟩])
  (fun s hI=>⟨s,by
   rw[List.take_length] at hI
   rcases hI with h | ⟨b,_,h⟩
   ·exact .inl h
   ·exact .inr ⟨b,h⟩,by
   unfold qby_
   dsimp only
   rw[if_neg (by omega)]⟩) n 0 (-1) (Nat.zero_le _) (.inl ⟨rfl,rfl⟩) (by omega)
 unfold qcx_ sty
 rw[show qgc_ n L k w (-1,0)=some r from q2,Option.bind_some]
 rcases q1 with⟨h1,h2⟩ | ⟨b,h1,h2,h3⟩
 ·rw[if_pos (by omega),h2]
 ·rw[if_neg (by omega),if_pos (by omega),h2,Int.toNat_natCast,h3]
  rfl


theorem rev_ok {n:Nat}{w:List Int}(h0:0<w.length)(hw:w.length≤1000000)(hn:w.length<n):qb2_ n w=some w.reverse:=by
 unfold qb2_
 rw[qqg_ (by omega) (by omega)]
 try dsimp only[Option.bind_some]
 obtain⟨r,rfl,h⟩:=whileI (B:=qb7_ n w.length) (fun s=>∃ i:Nat,i+i≤w.length+1∧i≤w.length∧s.2.1=(i:Int)∧s.2.2=(w.length:Int)-1-(i:Int)∧s.1.length=w.length∧∀ k,k<w.length→s.1.getD k 0=if k<i∨w.length≤k+i then w.getD (w.length-1-k) 0 else w.getD k 0)
  (fun s=>(s.2.2+1-s.2.1).toNat) (fun r=>r=w.reverse)
  (fun s hI=>by
   obtain⟨M,a,b⟩:=s
   obtain⟨i,hi,hil,ea,eb,hM,hk⟩:=hI
   dsimp only at ea eb hM hk ⊢
   subst ea
   unfold qb7_
   dsimp only
   by_cases c:(i:Int)<b
   ·have hj:b.toNat=w.length-1-i:=by omega
    rw[if_pos c,if_pos (by omega),if_pos (by omega)]
    try dsimp only[Option.bind_some]
    rw[if_pos (by omega),if_pos (by rw[Int.toNat_natCast]; omega)]
    try dsimp only[Option.bind_some]
    rw[if_pos (by rw[List.length_set]; omega),Int.toNat_natCast,hj,w64_inc (by omega),qqg_ (by omega) (by omega)]
    refine .inl ⟨_,⟨i+1,by omega,by omega,rfl,by dsimp only; omega,by simp[hM],fun k hkl=>?_⟩,by dsimp only; omega,rfl⟩
    dsimp only
    rw[qzy_ (by rw[List.length_set]; omega),qzy_ (by omega)]
    by_cases e1:k=w.length-1-i
    ·rw[if_pos e1,hk i (by omega),if_neg (by omega),if_pos (by omega),e1]
     congr 1; omega
    ·rw[if_neg e1]
     by_cases e2:k=i
     ·rw[if_pos e2,hk _ (by omega),if_neg (by omega),if_pos (by omega),e2]
     ·rw[if_neg e2,hk k hkl]
      by_cases e3:k<i∨w.length≤k+i
      ·rw[if_pos e3,if_pos (by omega)]
      ·rw[if_neg e3,if_neg (by omega)]
   ·rw[if_neg c]
    refine .inr ⟨M,?_,rfl⟩
    refine ext_getD (d:=0) (by rw[List.length_reverse]; exact hM) fun k hkl=>?_
    rw[List.length_reverse] at hkl
    rw[hk k hkl]
    have er:w.reverse.getD k 0=w.getD (w.length-1-k) 0:=by
     rw[List.getD_eq_getElem?_getD,List.getD_eq_getElem?_getD,List.getElem?_reverse hkl]
    rw[er]
    by_cases e3:k<i∨w.length≤k+i
    ·rw[if_pos e3]
    ·rw[if_neg e3]
     congr 1
     omega)
  n (w,0,(w.length:Int)-1) ⟨0,by omega,by omega,rfl,by dsimp only; omega,rfl,fun k hk=>by rw[if_neg (by omega)]⟩ (by dsimp only; omega)
 unfold qfz_
 rw[h]
 rfl
def lgF (L:List S4)(a:Int):Int:=L.foldl (fun m s=>maxB m ((s.2.1.l.length:Nat):Int)) a
theorem maxB_ge {a b:Int}:a≤maxB a b∧b≤maxB a b∧(maxB a b=a∨maxB a b=b):=by
 unfold maxB
 split<;>omega
theorem lgF_ge:∀ (L:List S4) (a:Int),a≤lgF L a∧(∀ s∈L,((s.2.1.l.length:Nat):Int)≤lgF L a)∧(lgF L a=a∨∃ s∈L,lgF L a=((s.2.1.l.length:Nat):Int))
 | [],a=>⟨Int.le_refl _,(fun s h=>by cases h),.inl rfl⟩
 | r::L,a=>by
  obtain⟨h1,h2,h3⟩:=lgF_ge L (maxB a ((r.2.1.l.length:Nat):Int))
  obtain⟨m1,m2,m3⟩:=maxB_ge (a:=a) (b:=((r.2.1.l.length:Nat):Int))
  have e:lgF (r::L) a=lgF L (maxB a ((r.2.1.l.length:Nat):Int)):=rfl
  rw[e]
  refine⟨by omega,fun s hs=>?_,?_⟩
  ·rcases List.mem_cons.1 hs with rfl | h
   ·omega
   ·exact h2 s h
  ·rcases h3 with h | ⟨s,hs,h⟩
   ·rcases m3 with g | g
    ·exact .inl (by omega)
    ·exact .inr ⟨r,List.mem_cons_self ..,by omega⟩
   ·exact .inr ⟨s,List.mem_cons_of_mem _ hs,h⟩
theorem ends_drop {W p:List Int}{q:Nat}(h:p.length≤q):endsL (W.drop (W.length-q)) p=endsL W p:=by
 unfold endsL
 rw[List.drop_drop,List.length_drop]
 by_cases c:p.length≤W.length
 ·have e:W.length-q+(W.length-(W.length-q)-p.length)=W.length-p.length:=by omega
  rw[e]
  congr 1
  simp only[c,true_and,eq_iff_iff]
  constructor
  ·exact fun g=>g.2
  ·exact fun g=>⟨by omega,g⟩
 ·rw[decide_eq_false (fun g=>by have:=g.1; omega),decide_eq_false (fun g=>c g.1)]
theorem sty_congr {k:Int}{w v:List Int}{L:List S4}(h:∀ s∈L,endsL w s.2.1.l=endsL v s.2.1.l):sty k w L=sty k v L:=by
 have e:∀ (L:List S4) (b:B3),(∀ s∈L,endsL w s.2.1.l=endsL v s.2.1.l)→L.foldl (stp k w) b=L.foldl (stp k v) b:=by
  intro L
  induction L with
  | nil=>intro b _; rfl
  | cons r L ih=>
   intro b h
   rw[List.foldl_cons,List.foldl_cons,ih _ fun s hs=>h s (List.mem_cons_of_mem _ hs)]
   congr 1
   unfold stp mat
   rw[h r (List.mem_cons_self ..)]
 unfold sty
 rw[e L _ h]
def wayOf (p:List Int):List Int:=p.take (p.length-1)
section
variable [Cur]
theorem up_walk {n:Nat}(hT:Tree){x1 par:NL}{L:WL rw_iLii}(hp:par.l=parL){a4 a5 c1 c2 c3 c4 c5 c6 c8 lg:Int}{c7:NL}{p:Nat}{U:List Nat}(hU:Up p U)(hlen:Cur.x.l.length≤1000):∀ (acc:List Int) (f:Nat),p<Cur.x.l.length→acc.length+U.length≤2000→U.length<f →
  iterM (qs_ n Cur.x x1 L par a4 a5 c1 c2 c3 c4 c5 c6 c7 c8 lg) f (acc,(p:Int))=some (acc++(syms U).reverse.take (lg-(acc.length:Int)).toNat):=by
 have hpl:parL.length=Cur.x.l.length:=parL_len
 have stop:∀ (acc:List Int) (f:Nat) (u:Int),(u<0∨lg≤(acc.length:Int))→0<f→iterM (qs_ n Cur.x x1 L par a4 a5 c1 c2 c3 c4 c5 c6 c7 c8 lg) f (acc,u)=some acc:=by
  intro acc f u h hf
  obtain⟨f,rfl⟩:∃ g,f=g+1:=⟨f-1,by omega⟩
  rw[qbe_]
  unfold qs_
  cases acc with
  | nil=>
   dsimp only
   by_cases c:u ≥ 0
   ·rw[if_pos c,if_neg (by simp at h; omega)]; rfl
   ·rw[if_neg c]; rfl
  | cons a t=>
   dsimp only
   by_cases c:u ≥ 0
   ·rw[if_pos c,if_neg (by omega)]; rfl
   ·rw[if_neg c]; rfl
 have go:∀ (acc:List Int) (f q:Nat),q<Cur.x.l.length→acc.length≤2000→(acc.length:Int)<lg→iterM (qs_ n Cur.x x1 L par a4 a5 c1 c2 c3 c4 c5 c6 c7 c8 lg) (f+1) (acc,(q:Int))=iterM (qs_ n Cur.x x1 L par a4 a5 c1 c2 c3 c4 c5 c6 c7 c8 lg) f (acc ++ [(pt q).1],parL.getD q 0):=by
  intro acc f q hq ha hlg
  rw[qbe_]
  have e:qs_ n Cur.x x1 L par a4 a5 c1 c2 c3 c4 c5 c6 c7 c8 lg (acc,(q:Int))=some (.inl (acc ++ [(pt q).1],parL.getD q 0)):=by
   unfold qs_
   cases acc with
   | nil=>
    dsimp only
    rw[if_pos (by omega),if_pos (by simpa using hlg),if_pos (by omega)]
    try dsimp only[Option.bind_some]
    rw[hp,hpl,if_pos (by omega),Int.toNat_natCast,if_pos hq]
    rfl
   | cons a t=>
    dsimp only
    rw[if_pos (by omega),if_pos hlg,if_pos (by omega)]
    try dsimp only[Option.bind_some]
    rw[if_pos (by omega),hp,hpl,if_pos (by omega),Int.toNat_natCast,if_pos hq]
    rfl
  rw[e]
  rfl
 induction hU with
 | root=>
  intro acc f hpn ha hf
  obtain⟨f,rfl⟩:∃ g,f=g+1:=⟨f-1,by omega⟩
  by_cases c:(acc.length:Int)<lg
  ·rw[go acc f 0 hpn (by simp at ha; omega) c,par_root hT,stop _ _ _ (.inl (by decide)) (by simp at hf; omega)]
   have:(lg-(acc.length:Int)).toNat=(lg-(acc.length:Int)).toNat-1+1:=by omega
   rw[this]
   simp[syms]
  ·rw[stop _ _ _ (.inr (by omega)) (by omega),show (lg-(acc.length:Int)).toNat=0 by omega]
   simp
 | @step p c U h hp' hc hk ih=>
  intro acc f hpn ha hf
  simp only[List.length_append,List.length_cons,List.length_nil] at ha hf
  obtain⟨f,rfl⟩:∃ g,f=g+1:=⟨f-1,by omega⟩
  by_cases cl:(acc.length:Int)<lg
  ·rw[go acc f c hpn (by omega) cl,par_of hT hp' hc hk,ih _ _ hp' (by simp; omega) (by omega)]
   rw[syms_app,List.reverse_append,List.append_assoc]
   congr 2
   have e1:(lg-(acc.length:Int)).toNat=(lg-((acc ++ [(pt c).1]).length:Int)).toNat+1:=by simp; omega
   rw[e1]
   rfl
  ·rw[stop _ _ _ (.inr (by omega)) (by omega),show (lg-(acc.length:Int)).toNat=0 by omega]
   simp
end

theorem range_foldl {σ α:Type}{d:α}(f:σ→α→σ)(l:List α)(s:σ):(List.range l.length).foldl (fun s j=>f s (l.getD j d)) s=l.foldl f s:=by
 have h:(List.range l.length).map (fun j=>l.getD j d)=l:=by have:=range_map (f:=id) (d:=d) (l:=l); simpa using this
 conv=>rhs; rw[←h]
 rw[List.foldl_map]
section
variable [Cur]
theorem longest {n:Nat}{x1 par:NL}{L:WL rw_iLii}{a4 a5 a6 c1 c2 c3 c4 c5 c6 c8:Int}{c7:NL}(hL:L.l.length≤1000000)(hn:L.l.length<n) :
  qd6_ n Cur.x x1 L par a4 a5 a6 c1 c2 c3 c4 c5 c6 c7 c8 (L.l.length:Int) (0,0)=some (lgF L.l 0):=by
 have h:=foldLoop (B:=qca_ n Cur.x x1 L par a4 a5 a6 c1 c2 c3 c4 c5 c6 c7 c8 (L.l.length:Int)) (fun m j=>maxB m (((L.l.getD j d4).2.1.l.length:Nat):Int)) L.l.length
  (fun i s hi=>by
   unfold qca_
   dsimp only
   rw[if_pos (by omega),if_pos (by omega),Int.toNat_natCast]
   dsimp only[Option.bind_some]
   rw[w64_inc (by omega)]
   rfl)
  (fun s=>by
   unfold qca_
   dsimp only
   rw[if_neg (by omega)]) n 0 hn
 unfold qd6_
 rw[h]
 exact congrArg some (range_foldl (d:=d4) (fun (m:Int) (s:S4)=>maxB m ((s.2.1.l.length:Nat):Int)) L.l 0)
theorem way_ok {n i:Nat}(hT:Tree){x1 par:NL}{L:WL rw_iLii}(hp:par.l=parL){a4 a5 c1 c2 c3 c4 c5 c6 c8 lg:Int}{c7:NL}{U:List Nat}(hU:Up i U)(hlen:Cur.x.l.length≤1000)(hi:i<Cur.x.l.length)(hn:2000<n) :
  qd5_ n Cur.x x1 L par a4 a5 c1 c2 c3 c4 c5 c6 c7 c8 lg ([],parL.getD i 0)=some ((wayOf (syms U)).reverse.take lg.toNat):=by
 unfold qd5_
 cases hU with
 | root=>
  obtain⟨m,rfl⟩:∃ m,n=m+1:=⟨n-1,by omega⟩
  rw[par_root hT,qbe_]
  unfold qs_
  dsimp only
  rw[if_neg (by decide)]
  simp[wayOf,syms]
 | @step p c U h hp' hc hk=>
  have hl:=h.len hT
  rw[par_of hT hp' hc hk,up_walk hT hp h hlen [] n hp' (by simp; omega) (by omega)]
  simp[wayOf,syms]
theorem canv_ok {n i:Nat}(hT:Tree){x1 par:NL}{L:WL rw_iLii}(hp:par.l=parL){a4 a5:Int}{U:List Nat}(hU:Up i U)(hlen:Cur.x.l.length≤1000)(hi:i<Cur.x.l.length)(hn:2000<n)(hL:L.l.length≤1000) :
  q4_ n Cur.x x1 L par a4 a5 (i:Int)=some (if (pt i).2.1=3∨(pt i).2.1=5 then (if (pt i).2.2.2.2.1≤a4∨(pt i).2.2.2.1 ≥ a5 then 0 else sty (pt i).1 (wayOf (syms U)) L.l) else 0):=by
 have hpl:parL.length=Cur.x.l.length:=parL_len
 have hl:=hU.len hT
 have row:Cur.x.l.getD i (0,0,0,0,0,0,nl0,0)=pt i:=rfl
 have fin:∀ (c10:List Int),c10=(wayOf (syms U)).reverse.take (lgF L.l 0).toNat→(match c10 with
   | []=>(qcl_ n).bind fun _=>(qfn_ n L (pt i).1).bind fun c12_=>some c12_
   | c10_a::c10_t=>(qb2_ n (c10_a::c10_t)).bind fun c11_=>(qfo_ n L (pt i).1 c11_ (((c10_a::c10_t)).length)).bind fun c12_=>some c12_)=some (sty (pt i).1 (wayOf (syms U)) L.l):=by
  intro c10 hc
  have hcl:c10.length≤1000:=by
   rw[hc]
   simp only[List.length_take,List.length_reverse,wayOf,q14_]
   omega
  have hrev:c10.reverse=(wayOf (syms U)).drop ((wayOf (syms U)).length-(lgF L.l 0).toNat):=by
   rw[hc,List.reverse_take,List.reverse_reverse,List.length_reverse]
  have hs:sty (pt i).1 c10.reverse L.l=sty (pt i).1 (wayOf (syms U)) L.l:=sty_congr fun s hs=>by
   rw[hrev]
   have:=(lgF_ge L.l 0).2.1 s hs
   exact ends_drop (by omega)
  rw[←hs]
  cases c10 with
  | nil=>
   obtain⟨m,rfl⟩:∃ m,n=m+1:=⟨n-1,by omega⟩
   dsimp only
   rw[style0 (by omega) (by omega) (by omega)]
   unfold qcl_ qfw_
   rw[qbe_]
   rfl
  | cons a t=>
   dsimp only
   rw[rev_ok (by simp) (by omega) (by omega)]
   try dsimp only[Option.bind_some]
   have h:=styleW (n:=n) (L:=L) (k:=(pt i).1) (w:=(a::t).reverse) (by omega) (by omega) (by rw[List.length_reverse]; omega) (by rw[List.length_reverse]; omega)
   rw[List.length_reverse] at h
   rw[h]
   rfl
 unfold q4_
 rw[if_pos (by omega),Int.toNat_natCast,row]
 try dsimp only[Option.bind_some]
 by_cases k3:(pt i).2.1=3
 ·rw[if_pos k3,if_pos (show (pt i).2.1=3∨(pt i).2.1=5 from .inl k3)]
  by_cases d1:(pt i).2.2.2.2.1≤a4
  ·rw[if_pos d1,if_pos (.inl d1)]
  ·rw[if_neg d1]
   by_cases d2:(pt i).2.2.2.1 ≥ a5
   ·rw[if_pos d2,if_pos (.inr d2)]
   ·rw[if_neg d2,if_neg (fun h=>h.elim d1 d2),longest (by omega) (by omega)]
    try dsimp only[Option.bind_some]
    rw[hp,hpl,if_pos (by omega),if_pos (by omega)]
    try dsimp only[Option.bind_some]
    rw[way_ok hT hp hU hlen hi hn]
    try dsimp only[Option.bind_some]
    exact fin _ rfl
 ·rw[if_neg k3]
  by_cases k5:(pt i).2.1=5
  ·rw[if_pos k5,if_pos (show (pt i).2.1=3∨(pt i).2.1=5 from .inr k5)]
   by_cases d1:(pt i).2.2.2.2.1≤a4
   ·rw[if_pos d1,if_pos (.inl d1)]
   ·rw[if_neg d1]
    by_cases d2:(pt i).2.2.2.1 ≥ a5
    ·rw[if_pos d2,if_pos (.inr d2)]
    ·rw[if_neg d2,if_neg (fun h=>h.elim d1 d2),longest (by omega) (by omega)]
     try dsimp only[Option.bind_some]
     rw[hp,hpl,if_pos (by omega),if_pos (by omega)]
     try dsimp only[Option.bind_some]
     rw[way_ok hT hp hU hlen hi hn]
     try dsimp only[Option.bind_some]
     exact fin _ rfl
  ·rw[if_neg k5,if_neg (fun h=>h.elim k3 k5)]
end


section
variable [Cur]

def inn (j:Nat):Bool:=decide ((pt j).2.1=1∨(pt j).2.1=2)
def lfs:Nat→Nat→List Int
 | _,0=>[]
 | a,n+1=>(if inn a=true then [] else [(a:Int)])++lfs (a+1) n
theorem qxl_:∀ (n m a:Nat),lfs a (n+m)=lfs a n++lfs (a+n) m
 | 0,m,a=>by rw[Nat.zero_add]; rfl
 | n+1,m,a=>by
  rw[show n+1+m=(n+m)+1 by omega]
  show _++lfs (a+1) (n+m)=(_++lfs (a+1) n)++lfs (a+(n+1)) m
  rw[qxl_ n m (a+1),List.append_assoc,show a+1+n=a+(n+1) by omega]
theorem qo3_:∀ (n a:Nat),(lfs a n).length≤n
 | 0,a=>Nat.le_refl _
 | n+1,a=>by
  have:=qo3_ n (a+1)
  show (_++lfs (a+1) n).length≤_
  rw[List.length_append]
  split<;>simp<;>omega
theorem mem_lfs {i:Nat}:∀ (n a:Nat),(i:Int)∈lfs a n ↔ (a≤i∧i<a+n∧inn i=false)
 | 0,a=>⟨(fun h=>by cases h),fun h=>by omega⟩
 | n+1,a=>by
  show (i:Int)∈(if inn a=true then [] else [(a:Int)])++lfs (a+1) n ↔ _
  rw[List.mem_append,mem_lfs n (a+1)]
  by_cases c:inn a=true
  ·rw[if_pos c]
   constructor
   ·rintro (h | ⟨h1,h2,h3⟩)
    ·cases h
    ·exact⟨by omega,by omega,h3⟩
   ·rintro ⟨h1,h2,h3⟩
    refine .inr ⟨?_,by omega,h3⟩
    rcases Nat.lt_or_ge a i with h | h
    ·omega
    ·obtain rfl:a=i:=by omega
     rw[c] at h3; cases h3
  ·rw[if_neg c,List.mem_singleton]
   constructor
   ·rintro (h | ⟨h1,h2,h3⟩)
    ·obtain rfl:i=a:=by omega
     exact⟨Nat.le_refl _,by omega,Bool.eq_false_iff.2 c⟩
    ·exact⟨by omega,by omega,h3⟩
   ·rintro ⟨h1,h2,h3⟩
    rcases Nat.lt_or_ge a i with h | h
    ·exact .inr ⟨by omega,by omega,h3⟩
    ·exact .inl (by omega)
theorem inner_ok (n j:Nat):qhf_ n (pt j).1 (pt j).2.1 (pt j).2.2.1 (pt j).2.2.2.1 (pt j).2.2.2.2.1 (pt j).2.2.2.2.2.1 (pt j).2.2.2.2.2.2.1 (pt j).2.2.2.2.2.2.2=some (inn j):=by
 unfold qhf_ inn
 by_cases c1:(pt j).2.1=1
 ·rw[if_pos c1]; simp[c1]
 ·rw[if_neg c1]
  by_cases c2:(pt j).2.1=2
  ·rw[if_pos c2]; simp[c2]
  ·rw[if_neg c2]; simp[c1,c2]
theorem leaf1 {n j:Nat}{y:WL rw_iiiiiiLu}{z:Int}(hj:j<Cur.x.l.length):qeg_ n Cur.x y z (j:Int)=some (lfs j 1):=by
 unfold qeg_
 rw[if_pos (by omega),Int.toNat_natCast]
 show ((some (pt j)).bind _)=_
 dsimp only[Option.bind_some]
 rw[inner_ok]
 dsimp only[Option.bind_some]
 show _=some ((if inn j=true then [] else [(j:Int)]) ++ [])
 by_cases c:inn j=true
 ·rw[if_pos c,if_pos c]; rfl
 ·rw[if_neg c,if_neg c]; rfl
theorem leaf2 {n j:Nat}{y:WL rw_iiiiiiLu}{z:Int}{L:List Int}(hj:j<Cur.x.l.length)(hL:L.length≤1000000):qeh_ n Cur.x L y z (j:Int)=some (L++lfs j 1):=by
 unfold qeh_
 rw[if_pos (by omega),Int.toNat_natCast]
 show ((some (pt j)).bind _)=_
 dsimp only[Option.bind_some]
 rw[inner_ok]
 dsimp only[Option.bind_some]
 show _=some (L++((if inn j=true then [] else [(j:Int)]) ++ []))
 by_cases c:inn j=true
 ·rw[if_pos c,if_pos c]; simp
 ·rw[if_neg c,if_neg c,if_pos (by omega)]; simp
theorem Ks.lv2 {K i k next e:Nat}{y:WL rw_iiiiiiLu}{a z:Int}(hA:Cur.x.l.length≤1000000)(hK:∀ j,(kd j).length≤K)(h:Ks i k next a e):i<next→i<Cur.x.l.length→∀ n f (L:List Int),L.length≤next→Cur.x.l.length-i+K+9<n→(kd i).length-k<f→iterM (qc3_ (qdh_ n) n Cur.x y z Cur.x (pt i).2.2.2.2.2.2.1 ((kd i).length:Int)) f (L,(k:Int))=some (L++lfs next (e-next)):=by
 induction h with
 | @done i k next a hk ha=>
  intro hin hi n f L hL hn hf
  obtain⟨f,rfl⟩:∃ g,f=g+1:=⟨f-1,by omega⟩
  rw[qbe_,Nat.sub_self]
  unfold qc3_
  dsimp only
  rw[if_neg (by omega)]
  show some L=some (L ++ [])
  rw[List.append_nil]
 | @kid i k next e' e a hk hv hn' ha h1 h2 ih1 ih2=>
  intro hin hi n f L hL hn hf
  obtain⟨f,rfl⟩:∃ g,f=g+1:=⟨f-1,by omega⟩
  have hkl:=kd_le i
  have hKn:=hK next
  have l1:=h1.lt
  have l2:=h2.lt
  obtain⟨m,rfl⟩:∃ m,n=m+1:=⟨n-1,by omega⟩
  have hl1:(L++lfs next 1).length≤next+1:=by rw[List.length_append]; have:=qo3_ 1 next; omega
  have e1:=ih1 (by omega) hn' m m (L++lfs next 1) hl1 (by omega) (by omega)
  have hrec:qdh_ (m+1) Cur.x (next:Int) Cur.x L y z=some (L++lfs next (e' - next)):=by
   show qg9_ (qdh_ m) m Cur.x (next:Int) Cur.x L y z=_
   unfold qg9_ qla_
   rw[leaf2 hn' (by omega)]
   dsimp only[Option.bind_some]
   rw[if_pos (by omega),Int.toNat_natCast]
   show ((iterM (qc3_ (qdh_ m) m Cur.x y z Cur.x (pt next).2.2.2.2.2.2.1 ((kd next).length:Int)) m (L++lfs next 1,((0:Nat):Int))).bind _)=_
   rw[e1]
   dsimp only[Option.bind_some]
   rw[List.append_assoc,←qxl_ 1 (e' - (next+1)) next,show 1+(e' - (next+1))=e' - next by omega]
  have hB:qc3_ (qdh_ (m+1)) (m+1) Cur.x y z Cur.x (pt i).2.2.2.2.2.2.1 ((kd i).length:Int) (L,(k:Int))=some (.inl (L++lfs next (e' - next),((k+1:Nat):Int))):=by
   unfold qc3_
   dsimp only
   rw[if_pos (by omega)]
   show (if 0≤(k:Int)∧(k:Int)<((kd i).length:Int) then (if (k:Int).toNat<(kd i).length then (some ((kd i).getD (k:Int).toNat 0)).bind _ else _) else _)=_
   rw[if_pos (by omega),Int.toNat_natCast,if_pos hk,hv]
   dsimp only[Option.bind_some]
   rw[hrec,w64_inc' (by omega)]
   rfl
  rw[qbe_,hB]
  have hl2:(L++lfs next (e' - next)).length≤e':=by rw[List.length_append]; have:=qo3_ (e' - next) next; omega
  have g:=ih2 (by omega) hi (m+1) f _ hl2 hn (by omega)
  show iterM _ f (L++lfs next (e' - next),((k+1:Nat):Int))=_
  rw[g,List.append_assoc,show e-next=(e' - next)+(e-e') by omega,qxl_,show next+(e' - next)=e' by omega]
theorem vis2 {K n j e:Nat}{y:WL rw_iiiiiiLu}{z:Int}{L:List Int}(hA:Cur.x.l.length≤1000000)(hK:∀ j,(kd j).length≤K)(hj:j<Cur.x.l.length)(h:Ks j 0 (j+1) (atF j) e)(hL:L.length≤j)(hn:Cur.x.l.length+K+12<n):qdh_ n Cur.x (j:Int) Cur.x L y z=some (L++lfs j (e-j)):=by
 have l1:=h.lt
 have hKj:=hK j
 obtain⟨m,rfl⟩:∃ m,n=m+1:=⟨n-1,by omega⟩
 have hl1:(L++lfs j 1).length≤j+1:=by rw[List.length_append]; have:=qo3_ 1 j; omega
 have e1:=h.lv2 (y:=y) (z:=z) hA hK (by omega) hj m m (L++lfs j 1) hl1 (by omega) (by omega)
 show qg9_ (qdh_ m) m Cur.x (j:Int) Cur.x L y z=_
 unfold qg9_ qla_
 rw[leaf2 hj (by omega)]
 dsimp only[Option.bind_some]
 rw[if_pos (by omega),Int.toNat_natCast]
 show ((iterM (qc3_ (qdh_ m) m Cur.x y z Cur.x (pt j).2.2.2.2.2.2.1 ((kd j).length:Int)) m (L++lfs j 1,((0:Nat):Int))).bind _)=_
 rw[e1]
 dsimp only[Option.bind_some]
 rw[List.append_assoc,←qxl_ 1 (e-(j+1)) j,show 1+(e-(j+1))=e-j by omega]
theorem Ks.lv1 {K i k next e:Nat}{y:WL rw_iiiiiiLu}{a z:Int}(hA:Cur.x.l.length≤1000000)(hK:∀ j,(kd j).length≤K)(h:Ks i k next a e):i<next→i<Cur.x.l.length→∀ n f (L:List Int),L.length≤next→Cur.x.l.length+K+12+(Cur.x.l.length-i)<n→(kd i).length-k<f→iterM (qcb_ (qck_ n) n Cur.x y z Cur.x (pt i).2.2.2.2.2.2.1 ((kd i).length:Int)) f (L,(k:Int))=some (L++lfs next (e-next)):=by
 induction h with
 | @done i k next a hk ha=>
  intro hin hi n f L hL hn hf
  obtain⟨f,rfl⟩:∃ g,f=g+1:=⟨f-1,by omega⟩
  rw[qbe_,Nat.sub_self]
  unfold qcb_
  cases L with
  | nil=>dsimp only; rw[if_neg (by omega)]; rfl
  | cons b T=>
   dsimp only
   rw[if_neg (by omega)]
   show some (b::T)=some ((b::T) ++ [])
   rw[List.append_nil]
 | @kid i k next e' e a hk hv hn' ha h1 h2 ih1 ih2=>
  intro hin hi n f L hL hn hf
  obtain⟨f,rfl⟩:∃ g,f=g+1:=⟨f-1,by omega⟩
  have hkl:=kd_le i
  have hKn:=hK next
  have l1:=h1.lt
  have l2:=h2.lt
  obtain⟨m,rfl⟩:∃ m,n=m+1:=⟨n-1,by omega⟩
  have hB:qcb_ (qck_ (m+1)) (m+1) Cur.x y z Cur.x (pt i).2.2.2.2.2.2.1 ((kd i).length:Int) (L,(k:Int))=some (.inl (L++lfs next (e' - next),((k+1:Nat):Int))):=by
   unfold qcb_
   cases L with
   | nil=>
    have hl1:(lfs next 1).length≤next+1:=by have:=qo3_ 1 next; omega
    have e1:=ih1 (by omega) hn' m m (lfs next 1) hl1 (by omega) (by omega)
    have hrec:qck_ (m+1) Cur.x (next:Int) Cur.x y z=some (lfs next (e' - next)):=by
     show qha_ (qck_ m) m Cur.x (next:Int) Cur.x y z=_
     unfold qha_ qia_
     rw[leaf1 hn']
     dsimp only[Option.bind_some]
     have fin:∀ X:List Int,X=lfs next 1→(if 0≤(next:Int)∧(next:Int)<((Cur.x.l.length:Nat):Int) then ((some (Cur.x.l.getD ((next:Int)).toNat (0,0,0,0,0,0,nl0,0))).bind fun c3_=>(iterM (qcb_ (qck_ m) m Cur.x y z Cur.x c3_.2.2.2.2.2.2.1 ((c3_.2.2.2.2.2.2.1.l.length:Nat):Int)) m (X,0)).bind fun c4_=>match c4_ with | []=>some ([]:List Int) | c4_a::c4_t=>some (c4_a::c4_t)) else Option.none)=some (lfs next (e' - next)):=by
      intro X hX
      subst hX
      rw[if_pos (by omega),Int.toNat_natCast]
      show ((iterM (qcb_ (qck_ m) m Cur.x y z Cur.x (pt next).2.2.2.2.2.2.1 ((kd next).length:Int)) m (lfs next 1,((0:Nat):Int))).bind _)=_
      rw[e1]
      dsimp only[Option.bind_some]
      rw[←qxl_ 1 (e' - (next+1)) next,show 1+(e' - (next+1))=e' - next by omega]
      cases lfs next (e' - next)<;>rfl
     cases hq:lfs next 1 with
     | nil=>exact fin [] hq.symm
     | cons b T=>exact fin (b::T) hq.symm
    dsimp only
    rw[if_pos (by omega)]
    show (if 0≤(k:Int)∧(k:Int)<((kd i).length:Int) then (if (k:Int).toNat<(kd i).length then (some ((kd i).getD (k:Int).toNat 0)).bind _ else _) else _)=_
    rw[if_pos (by omega),Int.toNat_natCast,if_pos hk,hv]
    dsimp only[Option.bind_some]
    rw[hrec,w64_inc' (by omega)]
    dsimp only[Option.bind_some,List.nil_append]
    cases lfs next (e' - next)<;>rfl
   | cons b T=>
    have hrec:=vis2 (n:=m+1) (y:=y) (z:=z) (L:=b::T) hA hK hn' h1 (by omega) (by omega)
    dsimp only
    rw[if_pos (by omega)]
    show (if 0≤(k:Int)∧(k:Int)<((kd i).length:Int) then (if (k:Int).toNat<(kd i).length then (some ((kd i).getD (k:Int).toNat 0)).bind _ else _) else _)=_
    rw[if_pos (by omega),Int.toNat_natCast,if_pos hk,hv]
    dsimp only[Option.bind_some]
    rw[hrec,w64_inc' (by omega)]
    rfl
  rw[qbe_,hB]
  have hl2:(L++lfs next (e' - next)).length≤e':=by rw[List.length_append]; have:=qo3_ (e' - next) next; omega
  have g:=ih2 (by omega) hi (m+1) f _ hl2 hn (by omega)
  show iterM _ f (L++lfs next (e' - next),((k+1:Nat):Int))=_
  rw[g,List.append_assoc,show e-next=(e' - next)+(e-e') by omega,qxl_,show next+(e' - next)=e' by omega]
abbrev lvs:List Int:=lfs 0 Cur.x.l.length
theorem leaves_ok {n K:Nat}(hT:Tree)(hA:Cur.x.l.length≤1000000)(hK:∀ j,(kd j).length≤K)(hn:2*Cur.x.l.length+K+14<n):∃ k:NL,qhh_ n Cur.x=some (.inl k)∧k.l=lvs:=by
 have hpos:=hT.pos
 obtain⟨m,rfl⟩:∃ m,n=m+1:=⟨n-1,by omega⟩
 have h:=hT.ks
 have hrec:qck_ (m+1) Cur.x 0 Cur.x Cur.x 0=some lvs:=by
  show qha_ (qck_ m) m Cur.x ((0:Nat):Int) Cur.x Cur.x 0=_
  have e1:=h.lv1 (y:=Cur.x) (z:=0) hA hK (by omega) hpos m m (lfs 0 1) (qo3_ 1 0) (by omega) (by have:=hK 0; omega)
  unfold qha_ qia_
  rw[leaf1 hpos]
  dsimp only[Option.bind_some]
  have fin:∀ X:List Int,X=lfs 0 1→(if 0≤((0:Nat):Int)∧((0:Nat):Int)<((Cur.x.l.length:Nat):Int) then ((some (Cur.x.l.getD (((0:Nat):Int)).toNat (0,0,0,0,0,0,nl0,0))).bind fun c3_=>(iterM (qcb_ (qck_ m) m Cur.x Cur.x 0 Cur.x c3_.2.2.2.2.2.2.1 ((c3_.2.2.2.2.2.2.1.l.length:Nat):Int)) m (X,0)).bind fun c4_=>match c4_ with | []=>some ([]:List Int) | c4_a::c4_t=>some (c4_a::c4_t)) else none)=some lvs:=by
   intro X hX
   subst hX
   rw[if_pos (by omega),Int.toNat_natCast]
   show ((iterM (qcb_ (qck_ m) m Cur.x Cur.x 0 Cur.x (pt 0).2.2.2.2.2.2.1 ((kd 0).length:Int)) m (lfs 0 1,((0:Nat):Int))).bind _)=_
   rw[e1]
   dsimp only[Option.bind_some]
   rw[←qxl_ 1 (Cur.x.l.length-1) 0,show 1+(Cur.x.l.length-1)=Cur.x.l.length by omega]
   show _=some (lfs 0 Cur.x.l.length)
   cases lfs 0 Cur.x.l.length<;>rfl
  cases hq:lfs 0 1 with
  | nil=>exact fin [] hq.symm
  | cons b T=>exact fin (b::T) hq.symm
 unfold qhh_ qmy_ qlc_
 rw[check_ok hT (by omega)]
 simp only[Option.bind_some]
 rw[if_pos trivial,hrec]
 dsimp only[Option.bind_some]
 have hl:lvs.length≤Cur.x.l.length:=qo3_ _ _
 cases hv:lvs with
 | nil=>exact⟨nl0,rfl,rfl⟩
 | cons a t=>
  rw[hv] at hl
  dsimp only[Option.bind_some]
  rw[dif_pos (by omega)]
  exact⟨_,rfl,rfl⟩
theorem lfs_nat:∀ (n a:Nat) (x:Int),x∈lfs a n→∃ c:Nat,x=c∧a≤c∧c<a+n
 | 0,_,_,h=>by cases h
 | n+1,a,x,h=>by
  rcases List.mem_append.1 h with h | h
  ·split at h
   ·cases h
   ·obtain rfl:=List.mem_singleton.1 h
    exact⟨a,rfl,Nat.le_refl _,by omega⟩
  ·obtain⟨c,h1,h2,h3⟩:=lfs_nat n (a+1) x h
   exact⟨c,h1,by omega,by omega⟩
end

section
variable [Cur]

theorem rleaf_inn (n j:Nat):qk_ n (pt j).2.1=some (!inn j):=by
 rw[leaf_ok]
 unfold inn
 by_cases c1:(pt j).2.1=1
 ·simp[c1]
 ·by_cases c2:(pt j).2.1=2
  ·simp[c2]
  ·simp[c1,c2]
theorem rleaves {n:Nat}(hc:qc_ n Cur.x=some 0)(hA:Cur.x.l.length≤1000000)(hn:Cur.x.l.length<n):∃ k:NL,qb1_ n Cur.x=some k∧k.l=lvs:=by
 obtain⟨r,rfl,h⟩:=hoare (B:=q5_ n Cur.x) (σ:=List Int) (fun L i=>(L,i)) (fun i L=>L=lfs 0 i) (fun r=>r=lvs) Cur.x.l.length
  (fun i L hi hI=>by
   have hl:L.length≤i:=by rw[hI]; exact qo3_ i 0
   have row:Cur.x.l.getD i (0,0,0,0,0,0,nl0,0)=pt i:=rfl
   have hs:lfs 0 (i+1)=lfs 0 i++(if inn i=true then [] else [(i:Int)]):=by
    rw[qxl_ i 1 0,Nat.zero_add]
    show _++((if inn i=true then [] else [(i:Int)]) ++ [])=_
    rw[List.append_nil]
   have e:q5_ n Cur.x (L,(i:Int))=some (.inl (L++(if inn i=true then [] else [(i:Int)]),((i+1:Nat):Int))):=by
    unfold q5_
    cases L with
    | nil=>
     dsimp only
     rw[if_pos (by omega),hc]
     try simp only[Option.bind_some]
     rw[if_pos trivial,if_pos (by omega),Int.toNat_natCast,row]
     try simp only[Option.bind_some]
     rw[rleaf_inn,w64_inc (by omega)]
     cases inn i<;>rfl
    | cons a t=>
     dsimp only
     rw[if_pos (by omega),hc]
     try simp only[Option.bind_some]
     rw[if_pos trivial,if_pos (by omega),Int.toNat_natCast,row]
     try simp only[Option.bind_some]
     rw[rleaf_inn,w64_inc (by omega)]
     try simp only[Option.bind_some]
     cases inn i with
     | true=>simp
     | false=>rw[if_pos (show (!false)=true from rfl),if_pos (by omega)]; rfl
   rw[e]
   exact .inl ⟨_,by rw[hs,hI],rfl⟩)
  (fun L hI=>⟨L,hI,by unfold q5_; cases L<;>(dsimp only; rw[if_neg (by omega)])⟩)
  n 0 [] (Nat.zero_le _) rfl (by omega)
 have h:qfv_ n Cur.x ([],0)=some lvs:=h
 unfold qb1_
 rw[h]
 dsimp only[Option.bind_some]
 have hl:lvs.length≤Cur.x.l.length:=qo3_ _ _
 cases hv:lvs with
 | nil=>exact⟨nl0,rfl,rfl⟩
 | cons a t=>
  rw[hv] at hl
  dsimp only
  rw[dif_pos (by omega)]
  exact⟨_,rfl,rfl⟩
theorem st2 {n i:Nat}{L:List Bool}(hT:Tree)(hi:i<Cur.x.l.length)(hn:(kd i).length<n)(hL:L.length=Cur.x.l.length):∃ M,qep_ n Cur.x Cur.x.l.length (i:Int) (L,0)=some M∧M.length=Cur.x.l.length:=by
 have hkl:=kd_le i
 have row:Cur.x.l.getD i (0,0,0,0,0,0,nl0,0)=pt i:=rfl
 obtain⟨r,hr,h⟩:=hoare (B:=qbu_ n Cur.x Cur.x.l.length (i:Int)) (σ:=List Bool) (fun s q=>(s,q)) (fun q s=>s.length=Cur.x.l.length) (fun r=>r.length=Cur.x.l.length) (kd i).length
  (fun q s hq hs=>by
   obtain⟨c,h1,h2,h3⟩:=hT.kid hi hq
   have h1:(pt i).2.2.2.2.2.2.1.l.getD q 0=(c:Int):=h1
   have hq:q<(pt i).2.2.2.2.2.2.1.l.length:=hq
   have hkl:(pt i).2.2.2.2.2.2.1.l.length≤140737488355328:=hkl
   unfold qbu_
   dsimp only
   rw[if_pos (by omega),Int.toNat_natCast,row]
   try simp only[Option.bind_some]
   rw[if_pos (by omega),if_pos (by omega),if_pos (by omega),w64_inc' (by omega)]
   by_cases c1:s.getD i false=true
   ·rw[if_pos c1]
    exact .inl ⟨s.set i true,by rw[List.length_set]; exact hs,rfl⟩
   ·rw[if_neg c1,if_pos (by omega),Int.toNat_natCast,if_pos hq,h1]
    try simp only[Option.bind_some]
    rw[if_pos (by omega),Int.toNat_natCast,if_pos (by omega)]
    exact .inl ⟨_,by rw[List.length_set]; exact hs,rfl⟩)
  (fun s hs=>by
   unfold qbu_
   dsimp only
   rw[if_pos (by omega),Int.toNat_natCast,row]
   try simp only[Option.bind_some]
   rw[if_neg (by show ¬ ((kd i).length:Int)<((kd i).length:Int); omega)]
   exact⟨s,hs,rfl⟩) n 0 L (Nat.zero_le _) hL (by omega)
 exact⟨r,h,hr⟩
theorem stale_some {n K:Nat}(hT:Tree)(hc:qc_ n Cur.x=some 0)(hA:Cur.x.l.length≤1000000)(hK:∀ j,(kd j).length≤K)(hn:Cur.x.l.length+K+2<n):∃ S,qd2_ n Cur.x=some S∧S.length=Cur.x.l.length:=by
 have hpos:=hT.pos
 have row:∀ i,Cur.x.l.getD i (0,0,0,0,0,0,nl0,0)=pt i:=fun _=>rfl
 obtain⟨r,hr,h⟩:=whileI (B:=qcc_ n Cur.x Cur.x.l.length) (fun s=>∃ j:Nat,s.2=(j:Int)-1∧j≤Cur.x.l.length∧s.1.length=Cur.x.l.length) (fun s=>(s.2+1).toNat) (fun r=>r.length=Cur.x.l.length)
  (fun s hI=>by
   obtain⟨L,v⟩:=s
   obtain⟨j,hj,hjl,hL⟩:=hI
   dsimp only at hj hL ⊢
   subst hj
   unfold qcc_
   dsimp only
   rcases Nat.eq_zero_or_pos j with rfl | h0
   ·rw[if_neg (by omega)]; exact .inr ⟨_,hL,rfl⟩
   ·obtain⟨i,rfl⟩:∃ i,j=i+1:=⟨j-1,by omega⟩
    have hKi:=hK i
    have e:((i+1:Nat):Int)-1=(i:Int):=by omega
    rw[e,if_pos (by omega),if_pos (by omega),Int.toNat_natCast,row,qqg_ (by omega) (by omega)]
    try simp only[Option.bind_some]
    by_cases c:(pt i).2.2.2.2.2.2.2=0
    ·obtain⟨M,h1,h2⟩:=st2 (n:=n) (i:=i) (L:=L.set i false) hT (by omega) (by omega) (by rw[List.length_set]; exact hL)
     rw[if_pos c,if_pos (by omega),if_pos (by omega),h1]
     exact .inl ⟨(M,(i:Int)-1),⟨i,rfl,by omega,h2⟩,by dsimp only; omega,rfl⟩
    ·obtain⟨M,h1,h2⟩:=st2 (n:=n) (i:=i) (L:=L.set i true) hT (by omega) (by omega) (by rw[List.length_set]; exact hL)
     rw[if_neg c,if_pos (by omega),if_pos (by omega),h1]
     exact .inl ⟨(M,(i:Int)-1),⟨i,rfl,by omega,h2⟩,by dsimp only; omega,rfl⟩)
  n (List.replicate Cur.x.l.length false,(Cur.x.l.length:Int)-1) ⟨Cur.x.l.length,rfl,Nat.le_refl _,by simp⟩ (by dsimp only; omega)
 unfold qd2_
 rw[hc]
 try simp only[Option.bind_some]
 rw[if_pos trivial,if_pos (by omega),Int.toNat_natCast,if_pos (by omega),qqg_ (by omega) (by omega)]
 have h:qf5_ n Cur.x Cur.x.l.length (List.replicate Cur.x.l.length false,(Cur.x.l.length:Int)-1)=some r:=h
 rw[h]
 exact⟨r,rfl,hr⟩
theorem lvs_at {q:Nat}(h:q<lvs.length):∃ c:Nat,lvs.getD q 0=(c:Int)∧c<Cur.x.l.length:=by
 obtain⟨c,h1,h2,h3⟩:=lfs_nat _ _ _ (qzx_ (d:=0) h)
 exact⟨c,h1,by omega⟩
theorem looks_some {n q:Nat}{y:NL}{k:Int}(hy:y.l=lvs)(hq:q<lvs.length)(hA:Cur.x.l.length≤1000)(hn:2000<n):∃ v,qd3_ n Cur.x y (q:Int) k=some v:=by
 have hl:lvs.length≤Cur.x.l.length:=qo3_ _ _
 obtain⟨r,-,h⟩:=hoare (B:=qbv_ n Cur.x y (q:Int) k) (σ:=Int) (fun s i=>(s,i)) (fun _ _=>True) (fun _=>True) (q+1)
  (fun i s hi _=>by
   obtain⟨c,h1,h2⟩:=lvs_at (show i<lvs.length by omega)
   unfold qbv_
   dsimp only
   rw[if_pos (by omega),hy,if_pos (by omega),Int.toNat_natCast,if_pos (by omega),h1]
   try simp only[Option.bind_some]
   rw[if_pos (by omega),w64_inc (by omega)]
   exact .inl ⟨_,trivial,rfl⟩)
  (fun s _=>⟨_,trivial,by unfold qbv_; dsimp only; rw[if_neg (by omega)]⟩) n 0 0 (Nat.zero_le _) trivial (by omega)
 obtain⟨r2,-,h2⟩:=whileI (B:=qcd_ n Cur.x y) (fun s=>∃ i:Nat,s.2.2=(i:Int)∧i≤lvs.length) (fun s=>lvs.length-s.2.2.toNat) (fun _=>True)
  (fun s hI=>by
   obtain⟨a,b,v⟩:=s
   obtain⟨i,hi,hil⟩:=hI
   dsimp only at hi ⊢
   subst hi
   unfold qcd_
   dsimp only
   rw[hy]
   by_cases c1:(i:Int)<((lvs.length:Nat):Int)
   ·obtain⟨c,h1,h2⟩:=lvs_at (show i<lvs.length by omega)
    rw[if_pos c1]
    by_cases c2:a > 0
    ·rw[if_pos c2,if_pos (by omega),Int.toNat_natCast,if_pos (by omega),h1]
     try simp only[Option.bind_some]
     rw[if_pos (by omega),w64_inc (by omega)]
     try simp only[Option.bind_some]
     split
     ·exact .inl ⟨(_,_,((i+1:Nat):Int)),⟨i+1,rfl,by omega⟩,by dsimp only; omega,rfl⟩
     ·exact .inl ⟨(_,_,((i+1:Nat):Int)),⟨i+1,rfl,by omega⟩,by dsimp only; omega,rfl⟩
    ·rw[if_neg c2]; exact .inr ⟨_,trivial,rfl⟩
   ·rw[if_neg c1]; exact .inr ⟨_,trivial,rfl⟩)
  n (k,r,((q+1:Nat):Int)) ⟨q+1,rfl,by omega⟩ (by dsimp only; omega)
 unfold qd3_
 rw[show qf7_ n Cur.x y (q:Int) k (0,0)=some r from h]
 try simp only[Option.bind_some]
 rw[w64_inc (by omega),show qf6_ n Cur.x y (k,r,((q+1:Nat):Int))=some r2 from h2]
 exact⟨r2,rfl⟩
theorem reach_some {n:Nat}{k:Int}(hT:Tree)(hc:qc_ n Cur.x=some 0)(hA:Cur.x.l.length≤1000)(hn:2000<n):∃ R:NL,qd4_ n Cur.x k=some R∧R.l.length=Cur.x.l.length:=by
 have hl:lvs.length≤Cur.x.l.length:=qo3_ _ _
 obtain⟨y,hy,hyl⟩:=rleaves hc (by omega) (by omega)
 obtain⟨r,hr,h⟩:=hoare (B:=qbw_ n Cur.x k Cur.x.l.length y) (σ:=List Int) (fun s i=>(s,i)) (fun _ s=>s.length=Cur.x.l.length) (fun r=>r.length=Cur.x.l.length) lvs.length
  (fun i s hi hs=>by
   obtain⟨c,h1,h2⟩:=lvs_at hi
   obtain⟨v,hv⟩:=looks_some (n:=n) (k:=k) hyl hi hA hn
   unfold qbw_
   dsimp only
   rw[hyl,if_pos (by omega),if_pos (by omega),Int.toNat_natCast,if_pos (by omega),h1,hv]
   try simp only[Option.bind_some]
   rw[if_pos (by omega),Int.toNat_natCast,if_pos (by omega),w64_inc (by omega)]
   exact .inl ⟨_,by rw[List.length_set]; exact hs,rfl⟩)
  (fun s hs=>⟨s,hs,by unfold qbw_; dsimp only; rw[hyl,if_neg (by omega)]⟩) n 0 (List.replicate Cur.x.l.length 0) (Nat.zero_le _) (by simp) (by omega)
 unfold qd4_
 rw[hc]
 try simp only[Option.bind_some]
 rw[if_pos trivial,if_pos (by omega),Int.toNat_natCast,if_pos (by omega),hy]
 try simp only[Option.bind_some]
 rw[show qf8_ n Cur.x k Cur.x.l.length y (List.replicate Cur.x.l.length 0,0)=some r from h]
 try simp only[Option.bind_some]
 rw[if_pos hr.symm,dif_pos (by omega)]
 exact⟨_,rfl,hr⟩
end

section
variable [Cur]
theorem marks2_some {n i:Nat}{f:Int}{S:List Bool}{R:NL}{O:List Int}{b:Bool}(hT:Tree)(hi:i<Cur.x.l.length)(hn:(kd i).length<n)(hO:O.length=Cur.x.l.length):∃ c,ql_ n Cur.x f S Cur.x.l.length R O Cur.x.l.length (i:Int) (b,0)=some c:=by
 have hkl:=kd_le i
 have row:Cur.x.l.getD i (0,0,0,0,0,0,nl0,0)=pt i:=rfl
 obtain⟨r,-,h⟩:=hoare (B:=qbx_ n Cur.x f S Cur.x.l.length R O Cur.x.l.length (i:Int)) (σ:=Bool) (fun s q=>(s,q)) (fun _ _=>True) (fun _=>True) (kd i).length
  (fun q s hq _=>by
   obtain⟨c,h1,h2,h3⟩:=hT.kid hi hq
   have h1:(pt i).2.2.2.2.2.2.1.l.getD q 0=(c:Int):=h1
   have hq:q<(pt i).2.2.2.2.2.2.1.l.length:=hq
   have hkl:(pt i).2.2.2.2.2.2.1.l.length≤140737488355328:=hkl
   unfold qbx_
   dsimp only
   rw[if_pos (by omega),Int.toNat_natCast,row]
   try simp only[Option.bind_some]
   rw[if_pos (by omega),w64_inc' (by omega)]
   by_cases c1:s=true
   ·rw[if_pos c1,if_pos (by omega),Int.toNat_natCast,if_pos hq,h1]
    try simp only[Option.bind_some]
    rw[if_pos (by omega),Int.toNat_natCast,if_pos (by omega)]
    try simp only[Option.bind_some]
    split
    ·exact .inl ⟨_,trivial,rfl⟩
    ·exact .inl ⟨_,trivial,rfl⟩
   ·rw[if_neg c1]; exact .inl ⟨_,trivial,rfl⟩)
  (fun s _=>by
   unfold qbx_
   dsimp only
   rw[if_pos (by omega),Int.toNat_natCast,row]
   try simp only[Option.bind_some]
   rw[if_neg (by show ¬ ((kd i).length:Int)<((kd i).length:Int); omega)]
   exact⟨s,trivial,rfl⟩) n 0 b (Nat.zero_le _) trivial (by omega)
 exact⟨r,h⟩
theorem marks_some {n K:Nat}{f:Int}(hT:Tree)(hc:qc_ n Cur.x=some 0)(hA:Cur.x.l.length≤1000)(hK:∀ j,(kd j).length≤K)(hn:3000+K<n):∃ k:NL,qct_ n Cur.x 1 f=some k∧k.l.length=Cur.x.l.length:=by
 obtain⟨S,hS,hSl⟩:=stale_some hT hc (by omega) hK (by omega)
 obtain⟨R,hR,hRl⟩:=reach_some (k:=1) hT hc hA (by omega)
 have hpos:=hT.pos
 have row:∀ i,Cur.x.l.getD i (0,0,0,0,0,0,nl0,0)=pt i:=fun _=>rfl
 obtain⟨r,hr,h⟩:=whileI (B:=qbh_ n Cur.x f S Cur.x.l.length R Cur.x.l.length) (fun s=>∃ j:Nat,s.2=(j:Int)-1∧j≤Cur.x.l.length∧s.1.length=Cur.x.l.length) (fun s=>(s.2+1).toNat) (fun r=>r.length=Cur.x.l.length)
  (fun s hI=>by
   obtain⟨L,v⟩:=s
   obtain⟨j,hj,hjl,hL⟩:=hI
   dsimp only at hj hL ⊢
   subst hj
   rcases Nat.eq_zero_or_pos j with rfl | h0
   ·unfold qbh_
    dsimp only
    rw[if_neg (by omega)]; exact .inr ⟨_,hL,rfl⟩
   ·obtain⟨i,rfl⟩:∃ i,j=i+1:=⟨j-1,by omega⟩
    have hKi:=hK i
    have e:((i+1:Nat):Int)-1=(i:Int):=by omega
    rw[e]
    have key:∃ M,qbh_ n Cur.x f S Cur.x.l.length R Cur.x.l.length (L,(i:Int))=some (.inl (M,(i:Int)-1))∧M.length=Cur.x.l.length:=by
     have hs2:(L.set i 2).length=Cur.x.l.length:=by rw[List.length_set]; exact hL
     have m2:∀ b,∃ c,ql_ n Cur.x f S Cur.x.l.length R (L.set i 2) Cur.x.l.length (i:Int) (b,0)=some c:=fun b=>marks2_some hT (by omega) (by omega) hs2
     obtain⟨b1,g1⟩:=m2 true
     obtain⟨b2,g2⟩:=m2 false
     have three:((L.set i 2).set i 3).length=Cur.x.l.length:=by rw[List.length_set]; exact hs2
     have one:((L.set i 2).set i 1).length=Cur.x.l.length:=by rw[List.length_set]; exact hs2
     have tail:∀ c:Bool,∃ M,(if c=true then (if i<(L.set i 2).length then some (Sum.inl ((L.set i 2).set i 3,(i:Int)-1)) else none) else some (Sum.inl (L.set i 2,(i:Int)-1)))=(some (Sum.inl (M,(i:Int)-1)):Option ((List Int×Int) ⊕ List Int))∧M.length=Cur.x.l.length:=fun c=>by
      cases c with
      | true=>rw[if_pos rfl,if_pos (by omega)]; exact⟨_,rfl,three⟩
      | false=>exact⟨_,rfl,hs2⟩
     unfold qbh_
     dsimp only
     rw[if_pos (by omega),if_pos (by omega),Int.toNat_natCast,if_pos (by omega),if_pos (by omega),if_pos (by omega),qqg_ (by omega) (by omega)]
     try simp only[Option.bind_some]
     by_cases c0:S.getD i false=true
     ·rw[if_pos c0,if_pos (by omega)]; exact⟨_,rfl,one⟩
     rw[if_neg c0,if_pos (by omega),row]
     try simp only[Option.bind_some]
     have body:∃ M,(if f=-1 then (ql_ n Cur.x f S Cur.x.l.length R (L.set i 2) Cur.x.l.length (i:Int) (true,0)).bind fun c=>(if c=true then (if i<(L.set i 2).length then some (Sum.inl ((L.set i 2).set i 3,(i:Int)-1)) else none) else some (Sum.inl (L.set i 2,(i:Int)-1)))
       else if (pt i).2.2.2.2.2.1≤f then (ql_ n Cur.x f S Cur.x.l.length R (L.set i 2) Cur.x.l.length (i:Int) (true,0)).bind fun c=>(if c=true then (if i<(L.set i 2).length then some (Sum.inl ((L.set i 2).set i 3,(i:Int)-1)) else none) else some (Sum.inl (L.set i 2,(i:Int)-1)))
       else (ql_ n Cur.x f S Cur.x.l.length R (L.set i 2) Cur.x.l.length (i:Int) (false,0)).bind fun c=>(if c=true then (if i<(L.set i 2).length then some (Sum.inl ((L.set i 2).set i 3,(i:Int)-1)) else none) else some (Sum.inl (L.set i 2,(i:Int)-1))))=(some (Sum.inl (M,(i:Int)-1)):Option ((List Int×Int) ⊕ List Int))∧M.length=Cur.x.l.length:=by
      rw[g1,g2]
      split
      ·exact tail b1
      ·split
       ·exact tail b1
       ·exact tail b2
     by_cases c1:(pt i).2.1=1
     ·rw[if_pos c1]; exact body
     rw[if_neg c1]
     by_cases c2:(pt i).2.1=2
     ·rw[if_pos c2]; exact body
     rw[if_neg c2]
     by_cases c3:f=-1
     ·rw[if_pos c3,if_pos (by omega)]; exact⟨_,rfl,three⟩
     rw[if_neg c3,if_pos (by omega),if_pos (by omega)]
     try simp only[Option.bind_some]
     by_cases c4:R.l.getD i 0≤f
     ·rw[if_pos c4,if_pos (by omega)]; exact⟨_,rfl,three⟩
     ·rw[if_neg c4]; exact⟨_,rfl,hs2⟩
    obtain⟨M,hM,hMl⟩:=key
    rw[hM]
    exact .inl ⟨(M,(i:Int)-1),⟨i,rfl,by omega,hMl⟩,by dsimp only; omega,rfl⟩)
  n (List.replicate Cur.x.l.length 0,(Cur.x.l.length:Int)-1) ⟨Cur.x.l.length,rfl,Nat.le_refl _,by simp⟩ (by dsimp only; omega)
 unfold qct_
 rw[hc]
 try simp only[Option.bind_some]
 rw[if_pos trivial,hS,hR]
 try simp only[Option.bind_some]
 rw[if_pos (by omega),Int.toNat_natCast,if_pos (by omega),qqg_ (by omega) (by omega)]
 have h:qf9_ n Cur.x f S Cur.x.l.length R Cur.x.l.length (List.replicate Cur.x.l.length 0,(Cur.x.l.length:Int)-1)=some r:=h
 rw[h]
 try simp only[Option.bind_some]
 rw[if_pos hr.symm,dif_pos (by omega)]
 exact⟨_,rfl,hr⟩
end

section
variable [Cur]

theorem Ks.low {i k next e:Nat}{a:Int}(h:Ks i k next a e)(hs:∀ j,j<Cur.x.l.length→atF j≤toF j):∀ q,next≤q→q<e→a≤atF q∧toF q≤toF i:=by
 induction h with
 | done=>exact fun q h1 h2=>absurd h1 (by omega)
 | @kid i k next e' e a hk hv hn ha h1 h2 ih1 ih2=>
  intro q g1 g2
  have m:=h2.mono hs
  have hsn:=hs next hn
  rcases Nat.lt_or_ge q e' with g | g
  ·rcases Nat.lt_or_ge next q with g3 | g3
   ·have:=ih1 q g3 g
    omega
   ·obtain rfl:q=next:=by omega
    exact⟨ha,m⟩
  ·have:=ih2 q g g2
   omega
theorem Ks.ord {i k next e:Nat}{a:Int}(h:Ks i k next a e)(hs:∀ j,j<Cur.x.l.length→atF j≤toF j):∀ p q,next≤p→p<q→q<e→(kd p).length=0→toF p≤atF q:=by
 induction h with
 | done=>exact fun p q h1 h2 h3=>absurd h1 (by omega)
 | @kid i k next e' e a hk hv hn ha h1 h2 ih1 ih2=>
  intro p q g1 g2 g3 g4
  rcases Nat.lt_or_ge p e' with g | g
  ·rcases Nat.lt_or_ge q e' with c | c
   ·rcases Nat.lt_or_ge next p with c2 | c2
    ·exact ih1 p q c2 g2 c g4
    ·obtain rfl:p=next:=by omega
     have:=h1.none g4
     omega
   ·have l2:=(h2.low hs q c g3).1
    rcases Nat.lt_or_ge next p with c2 | c2
    ·have:=(h1.low hs p c2 g).2
     omega
    ·obtain rfl:p=next:=by omega
     exact l2
  ·exact ih2 p q g g2 g3 g4
def inF (i:Nat):Int:=(pt i).2.2.2.1
theorem at_to (hT:Tree):∀ j,j<Cur.x.l.length→atF j≤toF j:=fun j hj=>(hT.sp j hj).at_
theorem leaf_pos (hT:Tree){i:Nat}(hi:i<Cur.x.l.length)(hl:inn i=false):0≤atF i∧atF i≤inF i∧inF i≤toF i∧(kd i).length=0:=by
 have h:=hT.sp i hi
 have hl:¬ ((pt i).2.1=1∨(pt i).2.1=2):=of_decide_eq_false hl
 have k1:=h.k1
 have k6:=h.k6
 have a0:=h.a0
 have at_:=h.at_
 have hk:=h.leaf (fun e=>hl (.inl e)) (fun e=>hl (.inr e))
 show 0≤(pt i).2.2.1∧(pt i).2.2.1≤(pt i).2.2.2.1∧(pt i).2.2.2.1≤(pt i).2.2.2.2.1∧_
 by_cases c4:(pt i).2.1=4
 ·have:=h.non (.inr (.inr c4))
  omega
 ·have:=h.tok (by omega)
  exact⟨a0,this.1,this.2,hk⟩
theorem leaf_ord (hT:Tree){i j:Nat}(hij:i<j)(hj:j<Cur.x.l.length)(hl:inn i=false):toF i≤atF j:=by
 have hs:=at_to hT
 have hk:=(leaf_pos hT (by omega) hl).2.2.2
 rcases Nat.eq_zero_or_pos i with rfl | h0
 ·have:=hT.ks.none hk
  omega
 ·exact hT.ks.ord hs i j h0 hij hj hk
theorem leaf_in (hT:Tree){j:Nat}(hj:j<Cur.x.l.length):toF j≤toF 0:=by
 rcases Nat.eq_zero_or_pos j with rfl | h0
 ·exact Int.le_refl _
 ·exact (hT.ks.low (at_to hT) j h0 hj).2

abbrev P4:=Int×Int×Int×Int
def Cov (F:Int→Int×Int):Int→Int→List P4→Prop
 | a,b,[]=>a=b
 | a,b,p::t=>p.1=a∧p.1<p.2.1∧(∀ x,p.1≤x→x<p.2.1→F x=(p.2.2.1,p.2.2.2))∧Cov F p.2.1 b t
theorem Cov.snoc {F:Int→Int×Int}{s m c:Int}:∀ {L:List P4} {a b:Int},Cov F a b L→b<c→(∀ x,b≤x→x<c→F x=(s,m))→Cov F a c (L ++ [(b,c,s,m)])
 | [],a,b,h,h1,h2=>by
  obtain rfl:a=b:=h
  exact⟨rfl,h1,h2,rfl⟩
 | p::t,a,b,h,h1,h2=>⟨h.1,h.2.1,h.2.2.1,h.2.2.2.snoc h1 h2⟩
theorem Cov.melt {F:Int→Int×Int}{q:P4}{c:Int}:∀ {L:List P4} {a b:Int},Cov F a b (L ++ [q])→b<c→(∀ x,b≤x→x<c→F x=(q.2.2.1,q.2.2.2))→q.2.1=b∧Cov F a c (L ++ [(q.1,c,q.2.2.1,q.2.2.2)])
 | [],a,b,h,h1,h2=>by
  obtain⟨g1,g2,g3,g4⟩:=h
  have g4:q.2.1=b:=g4
  refine⟨g4,g1,by dsimp only; omega,fun x k1 k2=>?_,rfl⟩
  dsimp only at k1 k2 ⊢
  rcases Int.lt_or_le x b with c | c
  ·exact g3 x k1 (by omega)
  ·exact h2 x c k2
 | p::t,a,b,h,h1,h2=>by
  obtain⟨k1,k2⟩:=Cov.melt (L:=t) h.2.2.2 h1 h2
  exact⟨k1,h.1,h.2.1,h.2.2.1,k2⟩
theorem Cov.le {F:Int→Int×Int}:∀ {L:List P4} {a b:Int},Cov F a b L→a+(L.length:Int)≤b
 | [],a,b,h=>by have h:a=b:=h; simp; omega
 | p::t,a,b,h=>by
  have:=Cov.le h.2.2.2
  have h1:=h.1
  have h2:=h.2.1
  simp only[List.length_cons]
  omega
theorem Cov.find {F:Int→Int×Int}{x:Int}:∀ {L:List P4} {a b:Int},Cov F a b L→a≤x→x<b→∃ q:Nat,q<L.length∧(∀ j,j<q→¬ ((L.getD j (0,0,0,0)).1≤x∧x<(L.getD j (0,0,0,0)).2.1))∧((L.getD q (0,0,0,0)).1≤x∧x<(L.getD q (0,0,0,0)).2.1)∧F x=((L.getD q (0,0,0,0)).2.2.1,(L.getD q (0,0,0,0)).2.2.2)
 | [],a,b,h,h1,h2=>by have h:a=b:=h; omega
 | p::t,a,b,h,h1,h2=>by
  obtain⟨g1,g2,g3,g4⟩:=h
  rcases Int.lt_or_le x p.2.1 with c | c
  ·exact⟨0,by simp,fun j hj=>absurd hj (Nat.not_lt_zero _),⟨by show p.1≤x; omega,c⟩,g3 x (by omega) c⟩
  ·obtain⟨q,k1,k2,k3,k4⟩:=Cov.find g4 c h2
   refine⟨q+1,by simp; omega,fun j hj=>?_,k3,k4⟩
   cases j with
   | zero=>exact fun g=>by have:x<p.2.1:=g.2; omega
   | succ j=>exact k2 j (by omega)
end

section
variable [Cur]

theorem minB_le {a b:Int}:minB a b≤a∧minB a b≤b∧(minB a b=a∨minB a b=b):=by
 unfold minB
 split<;>omega
def cl (lo hi e:Int):Int:=if e≤lo then lo else if hi≤e then hi else e
theorem last_cons {L:List P4}(h:L ≠ []):∃ M q,L=M ++ [q]:=⟨L.dropLast,L.getLast h,(List.dropLast_concat_getLast h).symm⟩
theorem get_last {M:List P4}{q d:P4}:(M ++ [q]).getD M.length d=q:=by
 simp[List.getD_eq_getElem?_getD]
theorem set_last {M:List P4}{q r:P4}:(M ++ [q]).set M.length r=M ++ [r]:=by
 simp
theorem joined_ok {n:Nat}{q:P4}{f t s m:Int}:qgm_ n q.1 q.2.1 q.2.2.1 q.2.2.2 f t s m=some (if q.2.2.1=s∧q.2.2.2=m∧q.2.1=f then (q.1,t,q.2.2.1,q.2.2.2,true) else (0,0,0,0,false)):=by
 unfold qgm_ qm7_
 by_cases c1:q.2.2.1=s
 ·rw[if_pos c1]
  by_cases c2:q.2.2.2=m
  ·rw[if_pos c2]
   try simp only[Option.bind_some]
   rw[if_pos trivial]
   by_cases c3:q.2.1=f
   ·rw[if_pos c3,if_pos ⟨c1,c2,c3⟩]
   ·rw[if_neg c3,if_neg (fun h=>c3 h.2.2)]
  ·rw[if_neg c2]
   try simp only[Option.bind_some]
   rw[if_neg (by decide),if_neg (fun h=>c2 h.2.1)]
 ·rw[if_neg c1]
  try simp only[Option.bind_some]
  rw[if_neg (by decide),if_neg (fun h=>c1 h.1)]
section
variable {n:Nat} {x:WL rw_iiiiiiLu} {mk par:NL} {L:WL rw_iLii} {lo hi:Int} {F:Int→Int×Int}
theorem y2_ok {L0:List P4}{a f t s m:Int}(h0:L0 ≠ [])(hc:Cov F a f L0)(hft:f<t)(hF:∀ x,f≤x→x<t→F x=(s,m))(hl:L0.length≤1000000000) :
  ∃ M,qcf_ n L0 x mk L par lo hi f t s m=some (M,M.length)∧M ≠ []∧Cov F a t M:=by
 obtain⟨M,q,rfl⟩:=last_cons h0
 have hlen:(M ++ [q]).length=M.length+1:=by simp
 unfold qcf_
 have ew:w64 ((((M ++ [q]).length:Nat):Int)-1)=(M.length:Int):=by rw[hlen,qqg_ (by omega) (by omega)]; omega
 rw[ew]
 try simp only[Option.bind_some]
 rw[if_pos (by omega),if_pos (by omega),Int.toNat_natCast,get_last]
 try simp only[Option.bind_some]
 rw[joined_ok]
 by_cases c:q.2.2.1=s∧q.2.2.2=m∧q.2.1=f
 ·rw[if_pos c]
  try simp only[Option.bind_some]
  rw[if_pos trivial,set_last]
  obtain⟨_,g⟩:=Cov.melt hc hft (by rw[c.1,c.2.1]; exact hF)
  refine⟨_,?_,by simp,g⟩
  simp
 ·rw[if_neg c]
  try simp only[Option.bind_some]
  rw[if_neg (by decide),if_pos (by omega)]
  exact⟨_,rfl,by simp,hc.snoc hft hF⟩
theorem y3_ok {L0:List P4}{a f t s m:Int}(h0:L0 ≠ [])(hc:Cov F a f L0)(hft:f<t)(hF:∀ x,f≤x→x<t→F x=(s,m))(hl:L0.length≤1000000000) :
  ∃ M,qcg_ n L0 L0.length x mk L par lo hi f t s m=some (M,M.length)∧M ≠ []∧Cov F a t M:=by
 obtain⟨M,q,rfl⟩:=last_cons h0
 have hlen:(M ++ [q]).length=M.length+1:=by simp
 unfold qcg_
 have ew:w64 ((((M ++ [q]).length:Nat):Int)-1)=(M.length:Int):=by rw[hlen,qqg_ (by omega) (by omega)]; omega
 rw[ew,if_pos (by omega),if_pos (by omega),Int.toNat_natCast,if_pos (by omega),get_last]
 try simp only[Option.bind_some]
 rw[joined_ok]
 by_cases c:q.2.2.1=s∧q.2.2.2=m∧q.2.1=f
 ·rw[if_pos c]
  try simp only[Option.bind_some]
  rw[if_pos trivial,set_last]
  obtain⟨_,g⟩:=Cov.melt hc hft (by rw[c.1,c.2.1]; exact hF)
  refine⟨_,?_,by simp,g⟩
  simp
 ·rw[if_neg c]
  try simp only[Option.bind_some]
  rw[if_neg (by decide),if_pos (Nat.le_refl _),if_pos (by omega),List.take_length]
  exact⟨_,rfl,by simp,hc.snoc hft hF⟩
theorem put_cl {f t:Int}(hlh:lo≤hi)(hft:f≤t):(maxB f lo ≥ minB t hi→cl lo hi t=cl lo hi f)∧(¬ maxB f lo ≥ minB t hi→cl lo hi f=maxB f lo∧cl lo hi t=minB t hi):=by
 obtain⟨m1,m2,m3⟩:=maxB_ge (a:=f) (b:=lo)
 obtain⟨k1,k2,k3⟩:=minB_le (a:=t) (b:=hi)
 unfold cl
 constructor
 ·intro h
  repeat' split
  all_goals omega
 ·intro h
  constructor<;>(repeat' split)<;>omega
theorem put1 {f t s m:Int}(hlh:lo≤hi)(hc:lo=cl lo hi f)(hft:f≤t)(hF:∀ x,f≤x→x<t→lo≤x→x<hi→F x=(s,m)) :
  ∃ M,qv_ n f t s m x mk L par lo hi=some M∧Cov F lo (cl lo hi t) M:=by
 obtain⟨h1,h2⟩:=put_cl (f:=f) (t:=t) hlh hft
 obtain⟨m1,m2,m3⟩:=maxB_ge (a:=f) (b:=lo)
 obtain⟨k1,k2,k3⟩:=minB_le (a:=t) (b:=hi)
 unfold qv_
 by_cases c:maxB f lo ≥ minB t hi
 ·rw[if_pos c]
  exact⟨[],rfl,by rw[h1 c]; exact hc⟩
 ·rw[if_neg c]
  obtain⟨e1,e2⟩:=h2 c
  refine⟨_,rfl,?_,by dsimp only; omega,fun x g1 g2=>?_,?_⟩
  ·show maxB f lo=lo
   omega
  ·dsimp only at g1 g2 ⊢
   exact hF x (by omega) (by omega) (by omega) (by omega)
  ·exact e2.symm
theorem put2 {L0:List P4}{f t s m:Int}(hlh:lo≤hi)(h0:L0 ≠ [])(hc:Cov F lo (cl lo hi f) L0)(hft:f≤t)(hF:∀ x,f≤x→x<t→lo≤x→x<hi→F x=(s,m))(hl:L0.length≤1000000000) :
  ∃ M,qbz_ n f t s m x mk L par lo hi L0=some (M,M.length)∧M ≠ []∧Cov F lo (cl lo hi t) M:=by
 obtain⟨h1,h2⟩:=put_cl (f:=f) (t:=t) hlh hft
 obtain⟨m1,m2,m3⟩:=maxB_ge (a:=f) (b:=lo)
 obtain⟨k1,k2,k3⟩:=minB_le (a:=t) (b:=hi)
 unfold qbz_
 by_cases c:maxB f lo ≥ minB t hi
 ·rw[if_pos c]
  exact⟨L0,rfl,h0,by rw[h1 c]; exact hc⟩
 ·rw[if_neg c]
  obtain⟨e1,e2⟩:=h2 c
  rw[e1] at hc
  obtain⟨M,g1,g2,g3⟩:=y2_ok (n:=n) (x:=x) (mk:=mk) (par:=par) (L:=L) (lo:=lo) (hi:=hi) (t:=minB t hi) (s:=s) (m:=m) h0 hc (by omega) (fun x g1 g2=>hF x (by omega) (by omega) (by omega) (by omega)) hl
  rw[g1]
  exact⟨M,rfl,g2,by rw[e2]; exact g3⟩
theorem put3 {L0:List P4}{f t s m:Int}(hlh:lo≤hi)(h0:L0 ≠ [])(hc:Cov F lo (cl lo hi f) L0)(hft:f≤t)(hF:∀ x,f≤x→x<t→lo≤x→x<hi→F x=(s,m))(hl:L0.length≤1000000000) :
  ∃ M,qq_ n f t s m x mk L par lo hi L0 L0.length=some (M,M.length)∧M ≠ []∧Cov F lo (cl lo hi t) M:=by
 obtain⟨h1,h2⟩:=put_cl (f:=f) (t:=t) hlh hft
 obtain⟨m1,m2,m3⟩:=maxB_ge (a:=f) (b:=lo)
 obtain⟨k1,k2,k3⟩:=minB_le (a:=t) (b:=hi)
 unfold qq_
 by_cases c:maxB f lo ≥ minB t hi
 ·rw[if_pos c]
  exact⟨L0,rfl,h0,by rw[h1 c]; exact hc⟩
 ·rw[if_neg c]
  obtain⟨e1,e2⟩:=h2 c
  rw[e1] at hc
  obtain⟨M,g1,g2,g3⟩:=y3_ok (n:=n) (x:=x) (mk:=mk) (par:=par) (L:=L) (lo:=lo) (hi:=hi) (t:=minB t hi) (s:=s) (m:=m) h0 hc (by omega) (fun x g1 g2=>hF x (by omega) (by omega) (by omega) (by omega)) hl
  rw[g1]
  exact⟨M,rfl,g2,by rw[e2]; exact g3⟩
theorem cov_len {L0:List P4}{e:Int}(hlo:0≤lo)(hhi:hi≤2000000)(hlh:lo≤hi)(h:Cov F lo (cl lo hi e) L0):L0.length≤1000000000:=by
 have:=h.le
 have:cl lo hi e≤hi:=by unfold cl; (repeat' split)<;>omega
 omega
end
end

section
variable [Cur]

def la (q:Nat):Nat:=(lvs.getD q 0).toNat
theorem la_ok {q:Nat}(h:q<lvs.length):lvs.getD q 0=(la q:Int)∧la q<Cur.x.l.length:=by
 obtain⟨c,h1,h2⟩:=lvs_at h
 unfold la
 rw[h1,Int.toNat_natCast]
 exact⟨rfl,h2⟩
def endp (q:Nat):Int:=match q with
 | 0=>0
 | q+1=>toF (la q)
structure Pnt (lo hi:Int) (F:Int→Int×Int) (mk:NL) (st:Nat→Int):Prop where
 gap:∀ q,q<lvs.length→∀ x,endp q≤x→x<atF (la q)→F x=(0,1)
 tri:∀ q,q<lvs.length→∀ x,atF (la q)≤x→x<inF (la q)→F x=(0,mk.l.getD (la q) 0)
 tok:∀ q,q<lvs.length→∀ x,inF (la q)≤x→x<toF (la q)→lo≤x→x<hi→F x=(st (la q),mk.l.getD (la q) 0)
 fin:∀ x,endp lvs.length≤x→x<toF 0→F x=(0,1)
 ord:∀ q,q<lvs.length→endp q≤atF (la q)∧atF (la q)≤inF (la q)∧inF (la q)≤toF (la q)
 top:endp lvs.length≤toF 0
section
variable {n:Nat} {mk par y:NL} {L:WL rw_iLii} {lo hi:Int} {F:Int→Int×Int} {st:Nat→Int}
theorem loopS (hP:Pnt lo hi F mk st)(hy:y.l=lvs)(hmk:mk.l.length=Cur.x.l.length)(hst:∀ i:Nat,i<Cur.x.l.length→q4_ n Cur.x mk L par lo hi (i:Int)=some (st i))(hlo:0≤lo)(hlh:lo≤hi)(hhi:hi≤2000000)(hA:Cur.x.l.length≤1000)(hn:2000<n) :
  ∃ out,qdn_ n Cur.x mk L par lo hi y (y.l.length:Int) ([],0,0,0)=some (out,out.length,endp lvs.length)∧Cov F lo (cl lo hi (endp lvs.length)) out:=by
 have hl:lvs.length≤Cur.x.l.length:=qo3_ _ _
 obtain⟨r,⟨out,rfl,hc⟩,h⟩:=hoare (B:=qt_ n Cur.x mk L par lo hi y (y.l.length:Int)) (σ:=List P4×Int) (fun s i=>(s.1,s.1.length,s.2,i)) (fun i s=>s.2=endp i∧Cov F lo (cl lo hi s.2) s.1) (fun r=>∃ out,r=(out,out.length,endp lvs.length)∧Cov F lo (cl lo hi (endp lvs.length)) out) lvs.length
  (fun q s hq hI=>by
   obtain⟨out,e⟩:=s
   obtain⟨he,hc⟩:=hI
   dsimp only at he hc ⊢
   obtain⟨h1,h2⟩:=la_ok hq
   obtain⟨o1,o2,o3⟩:=hP.ord q hq
   have hsu:endp (q+1)=toF (la q):=rfl
   have row:Cur.x.l.getD (la q) (0,0,0,0,0,0,nl0,0)=pt (la q):=rfl
   have ea:(pt (la q)).2.2.1=atF (la q):=rfl
   have ei:(pt (la q)).2.2.2.1=inF (la q):=rfl
   have et:(pt (la q)).2.2.2.2.1=toF (la q):=rfl
   have hs:=hst (la q) h2
   have fA:=fun x g1 g2 (_:lo≤x) (_:x<hi)=>hP.gap q hq x (he ▸ g1) g2
   have fB:=fun x g1 g2 (_:lo≤x) (_:x<hi)=>hP.tri q hq x g1 g2
   have fC:=hP.tok q hq
   have len:=fun {L0:List P4} {e:Int} (h:Cov F lo (cl lo hi e) L0)=>cov_len hlo hhi hlh h
   suffices key:∃ o,qt_ n Cur.x mk L par lo hi y (y.l.length:Int) (out,out.length,e,(q:Int))=some (.inl (o,o.length,toF (la q),((q+1:Nat):Int)))∧Cov F lo (cl lo hi (toF (la q))) o by
    obtain⟨o,k1,k2⟩:=key
    exact .inl ⟨(o,toF (la q)),⟨hsu.symm,k2⟩,k1⟩
   cases out with
   | nil=>
    obtain⟨p1,g1,c1⟩:=put1 (n:=n) (x:=Cur.x) (mk:=mk) (par:=par) (L:=L) hlh hc (by omega) fA
    unfold qt_
    dsimp only
    rw[hy,if_pos (by omega),if_pos (by omega),Int.toNat_natCast,if_pos hq,h1]
    try simp only[Option.bind_some]
    rw[if_pos (by omega),Int.toNat_natCast,row,ea,ei,et]
    try simp only[Option.bind_some]
    rw[g1,hmk]
    try simp only[Option.bind_some]
    cases p1 with
    | nil=>
     obtain⟨p2,g2,c2⟩:=put1 (n:=n) (x:=Cur.x) (mk:=mk) (par:=par) (L:=L) hlh c1 o2 fB
     dsimp only
     rw[if_pos (by omega),if_pos h2]
     try simp only[Option.bind_some]
     rw[g2]
     try simp only[Option.bind_some]
     cases p2 with
     | nil=>
      obtain⟨p3,g3,c3⟩:=put1 (n:=n) (x:=Cur.x) (mk:=mk) (par:=par) (L:=L) hlh c2 o3 fC
      dsimp only
      rw[hs]
      try simp only[Option.bind_some]
      rw[g3,w64_inc (by omega)]
      try simp only[Option.bind_some]
      cases p3 with
      | nil=>exact⟨[],rfl,c3⟩
      | cons a t=>exact⟨a::t,rfl,c3⟩
     | cons a t=>
      obtain⟨p3,g3,z3,c3⟩:=put2 (n:=n) (x:=Cur.x) (mk:=mk) (par:=par) (L:=L) hlh (List.cons_ne_nil a t) c2 o3 fC (len c2)
      dsimp only
      rw[hs]
      try simp only[Option.bind_some]
      rw[g3,w64_inc (by omega)]
      try simp only[Option.bind_some]
      cases p3 with
      | nil=>exact absurd rfl z3
      | cons b u=>exact⟨b::u,rfl,c3⟩
    | cons a t=>
     obtain⟨p2,g2,z2,c2⟩:=put2 (n:=n) (x:=Cur.x) (mk:=mk) (par:=par) (L:=L) hlh (List.cons_ne_nil a t) c1 o2 fB (len c1)
     dsimp only
     rw[if_pos (by omega),if_pos h2]
     try simp only[Option.bind_some]
     rw[g2]
     try simp only[Option.bind_some]
     cases p2 with
     | nil=>exact absurd rfl z2
     | cons b u=>
      obtain⟨p3,g3,z3,c3⟩:=put3 (n:=n) (x:=Cur.x) (mk:=mk) (par:=par) (L:=L) hlh (List.cons_ne_nil b u) c2 o3 fC (len c2)
      dsimp only
      rw[hs]
      try simp only[Option.bind_some]
      rw[g3,w64_inc (by omega)]
      try simp only[Option.bind_some]
      cases p3 with
      | nil=>exact absurd rfl z3
      | cons b u=>exact⟨b::u,rfl,c3⟩
   | cons a0 t0=>
    obtain⟨p1,g1,z1,c1⟩:=put3 (n:=n) (x:=Cur.x) (mk:=mk) (par:=par) (L:=L) hlh (List.cons_ne_nil a0 t0) hc (by omega) fA (len hc)
    unfold qt_
    dsimp only
    rw[hy,if_pos (by omega),if_pos (by omega),Int.toNat_natCast,if_pos hq,h1]
    try simp only[Option.bind_some]
    rw[if_pos (by omega),Int.toNat_natCast,row,ea,ei,et]
    try simp only[Option.bind_some]
    rw[g1,hmk]
    try simp only[Option.bind_some]
    cases p1 with
    | nil=>exact absurd rfl z1
    | cons a t=>
     obtain⟨p2,g2,z2,c2⟩:=put3 (n:=n) (x:=Cur.x) (mk:=mk) (par:=par) (L:=L) hlh (List.cons_ne_nil a t) c1 o2 fB (len c1)
     dsimp only
     rw[if_pos (by omega),if_pos h2]
     try simp only[Option.bind_some]
     rw[g2]
     try simp only[Option.bind_some]
     cases p2 with
     | nil=>exact absurd rfl z2
     | cons b u=>
      obtain⟨p3,g3,z3,c3⟩:=put3 (n:=n) (x:=Cur.x) (mk:=mk) (par:=par) (L:=L) hlh (List.cons_ne_nil b u) c2 o3 fC (len c2)
      dsimp only
      rw[hs]
      try simp only[Option.bind_some]
      rw[g3,w64_inc (by omega)]
      try simp only[Option.bind_some]
      cases p3 with
      | nil=>exact absurd rfl z3
      | cons b u=>exact⟨b::u,rfl,c3⟩)
  (fun s hI=>by
   obtain⟨out,e⟩:=s
   obtain⟨he,hc⟩:=hI
   dsimp only at he hc ⊢
   subst he
   refine⟨_,⟨out,rfl,hc⟩,?_⟩
   unfold qt_
   cases out<;>(dsimp only; rw[hy,if_neg (by omega)]; try rfl))
  n 0 ([],0) (Nat.zero_le _) ⟨rfl,by show lo=cl lo hi 0; unfold cl; rw[if_pos hlo]⟩ (by omega)
 exact⟨out,h,hc⟩
theorem stretch_ok (hT:Tree)(hP:Pnt lo hi F mk st)(hmk:mk.l.length=Cur.x.l.length)(hst:∀ i:Nat,i<Cur.x.l.length→q4_ n Cur.x mk L par lo hi (i:Int)=some (st i))(hlo:0≤lo)(hlh:lo<hi)(hhi:hi≤2000000)(htop:hi≤toF 0)(hA:Cur.x.l.length≤1000)(hn:4000<n) :
  ∃ out,qel_ n Cur.x mk L par lo hi=some (out,out.length)∧Cov F lo hi out:=by
 have hpos:=hT.pos
 obtain⟨y,hy,hyl⟩:=leaves_ok (n:=n) hT (by omega) (fun j=>hT.few j) (by omega)
 obtain⟨o1,h1,c1⟩:=loopS (n:=n) (y:=y) (par:=par) (L:=L) hP hyl hmk hst hlo (by omega) hhi hA (by omega)
 have row:Cur.x.l.getD 0 (0,0,0,0,0,0,nl0,0)=pt 0:=rfl
 have et:(pt 0).2.2.2.2.1=toF 0:=rfl
 have etop:cl lo hi (toF 0)=hi:=by unfold cl; rw[if_neg (by omega),if_pos htop]
 have fD:=fun x g1 g2 (_:lo≤x) (_:x<hi)=>hP.fin x g1 g2
 have ne:∀ {o:List P4},Cov F lo hi o→o ≠ []:=fun {o} h e=>by
  subst e
  have h:lo=hi:=h
  omega
 have key:∃ out,qcw_ n Cur.x mk L par lo hi=some (out,out.length)∧Cov F lo hi out:=by
  unfold qcw_
  rw[hy]
  dsimp only
  rw[h1]
  try simp only[Option.bind_some]
  cases o1 with
  | nil=>
   obtain⟨p,g,c⟩:=put1 (n:=n) (x:=Cur.x) (mk:=mk) (par:=par) (L:=L) (by omega:lo≤hi) c1 hP.top fD
   dsimp only
   rw[if_pos (by omega),show ((0:Int)).toNat=0 from rfl,row,et]
   try simp only[Option.bind_some]
   rw[g]
   try simp only[Option.bind_some]
   rw[etop] at c
   cases p with
   | nil=>exact absurd rfl (ne c)
   | cons a t=>exact⟨a::t,rfl,c⟩
  | cons a0 t0=>
   obtain⟨p,g,z,c⟩:=put3 (n:=n) (x:=Cur.x) (mk:=mk) (par:=par) (L:=L) (by omega:lo≤hi) (List.cons_ne_nil a0 t0) c1 hP.top fD (cov_len hlo hhi (by omega) c1)
   dsimp only
   rw[if_pos (by omega),show ((0:Int)).toNat=0 from rfl,row,et]
   try simp only[Option.bind_some]
   rw[g]
   try simp only[Option.bind_some]
   rw[etop] at c
   cases p with
   | nil=>exact absurd rfl z
   | cons a t=>exact⟨a::t,rfl,c⟩
 obtain⟨out,k1,k2⟩:=key
 unfold qel_
 rw[k1]
 try simp only[Option.bind_some]
 cases out with
 | nil=>exact absurd rfl (ne k2)
 | cons a t=>exact⟨a::t,rfl,k2⟩
end
end

section
variable [Cur]

theorem up_ex (hT:Tree):∀ (m i:Nat),i≤m→i<Cur.x.l.length→∃ U,Up i U:=by
 intro m
 induction m with
 | zero=>
  intro i h1 h2
  obtain rfl:i=0:=by omega
  exact⟨_,.root⟩
 | succ m ih=>
  intro i h1 h2
  rcases Nat.eq_zero_or_pos i with rfl | h0
  ·exact⟨_,.root⟩
  ·obtain⟨p,g1,g2,g3⟩:=hT.ks.par Nat.zero_lt_one hT.pos i h0 h2
   obtain⟨U,hU⟩:=ih p (by omega) g2
   exact⟨_,.step hU g2 h2 g3⟩
theorem lfs_mem_ge:∀ (n a:Nat),∀ z∈lfs a n,(a:Int)≤z:=fun n a z hz=>by
 obtain⟨c,rfl,h,_⟩:=lfs_nat n a z hz
 omega
theorem lfs_sorted:∀ (n a:Nat),(lfs a n).Pairwise (· < ·)
 | 0,a=>.nil
 | n+1,a=>by
  show ((if inn a=true then [] else [(a:Int)])++lfs (a+1) n).Pairwise (· < ·)
  refine List.pairwise_append.2 ⟨?_,lfs_sorted n (a+1),fun z hz w hw=>?_⟩
  ·split
   ·exact .nil
   ·exact List.pairwise_singleton ..
  ·split at hz
   ·cases hz
   ·rw[List.mem_singleton.1 hz]
    have:=lfs_mem_ge n (a+1) w hw
    omega
theorem la_lt {q r:Nat}(h:q<r)(hr:r<lvs.length):la q<la r:=by
 have h1:=(la_ok (show q<lvs.length by omega)).1
 have h2:=(la_ok hr).1
 have hq:q<lvs.length:=by omega
 have:=(List.pairwise_iff_getElem.1 (lfs_sorted Cur.x.l.length 0)) q r hq hr h
 rw[List.getD_eq_getElem?_getD,List.getElem?_eq_getElem (by omega:q<lvs.length)] at h1
 rw[List.getD_eq_getElem?_getD,List.getElem?_eq_getElem hr] at h2
 have h1:lvs[q]=(la q:Int):=h1
 have h2:lvs[r]=(la r:Int):=h2
 have this:lvs[q]<lvs[r]:=this
 omega
theorem la_inn {q:Nat}(h:q<lvs.length):inn (la q)=false:=by
 have h1:=(la_ok h).1
 have h2:(la q:Int)∈lfs 0 Cur.x.l.length:=h1 ▸ qzx_ h
 exact ((mem_lfs _ _).1 h2).2.2
theorem la_ord (hT:Tree){q r:Nat}(h:q<r)(hr:r<lvs.length):toF (la q)≤atF (la r):=
 leaf_ord hT (la_lt h hr) (la_ok hr).2 (la_inn (by omega))
def Has (x:Int)(q:Nat):Prop:=q<lvs.length∧atF (la q)≤x∧x<toF (la q)
theorem Has.uniq (hT:Tree){x:Int}{q r:Nat}(h:Has x q)(g:Has x r):q=r:=by
 rcases Nat.lt_trichotomy q r with c | c | c
 ·have:=la_ord hT c g.1; have:=h.2; have:=g.2; omega
 ·exact c
 ·have:=la_ord hT c h.1; have:=h.2; have:=g.2; omega
open Classical in
def byteF (mk:NL)(sv:Nat→Int)(x:Int):Int×Int:=if h:∃ q,Has x q then (if inF (la h.choose)≤x then sv (la h.choose) else 0,mk.l.getD (la h.choose) 0) else (0,1)
theorem q15_ (hT:Tree){mk:NL}{sv:Nat→Int}{x:Int}{q:Nat}(h:Has x q):byteF mk sv x=(if inF (la q)≤x then sv (la q) else 0,mk.l.getD (la q) 0):=by
 unfold byteF
 have hh:∃ q,Has x q:=⟨q,h⟩
 rw[dif_pos hh,hh.choose_spec.uniq hT h]
theorem byteF_no {mk:NL}{sv:Nat→Int}{x:Int}(h:¬ ∃ q,Has x q):byteF mk sv x=(0,1):=by
 unfold byteF
 rw[dif_neg h]
theorem la_pos (hT:Tree){q:Nat}(h:q<lvs.length):0≤atF (la q)∧atF (la q)≤inF (la q)∧inF (la q)≤toF (la q):=by
 have:=leaf_pos hT (la_ok h).2 (la_inn h)
 exact⟨this.1,this.2.1,this.2.2.1⟩
theorem endp_has (hT:Tree){q r:Nat}(hr:r<q)(hq:q≤lvs.length):toF (la r)≤endp q:=by
 cases q with
 | zero=>omega
 | succ q=>
  show toF (la r)≤toF (la q)
  rcases Nat.lt_or_ge r q with c | c
  ·have h1:=la_ord hT c (by omega)
   have h2:=la_pos hT (show q<lvs.length by omega)
   omega
  ·obtain rfl:r=q:=by omega
   exact Int.le_refl _
theorem pnt (hT:Tree){lo hi:Int}{mk:NL}{sv st:Nat→Int}(hs:∀ i,i<Cur.x.l.length→¬ (toF i≤lo∨inF i ≥ hi)→st i=sv i):Pnt lo hi (byteF mk sv) mk st where
 gap:=fun q hq x h1 h2=>byteF_no fun⟨r,g1,g2,g3⟩=>by
  rcases Nat.lt_or_ge r q with c | c
  ·have:=endp_has hT c (by omega); omega
  ·rcases Nat.lt_or_ge q r with c2 | c2
   ·have:=la_ord hT c2 g1; have:=la_pos hT hq; omega
   ·obtain rfl:r=q:=by omega
    omega
 tri:=fun q hq x h1 h2=>by
  have hp:=la_pos hT hq
  rw[q15_ hT (q:=q) ⟨hq,h1,by omega⟩,if_neg (by omega)]
 tok:=fun q hq x h1 h2 h3 h4=>by
  have hp:=la_pos hT hq
  rw[q15_ hT (q:=q) ⟨hq,by omega,h2⟩,if_pos h1,hs _ (la_ok hq).2 (by omega)]
 fin:=fun x h1 h2=>byteF_no fun⟨r,g1,g2,g3⟩=>by
  have:=endp_has hT g1 (Nat.le_refl _); omega
 ord:=fun q hq=>by
  have hp:=la_pos hT hq
  refine⟨?_,hp.2⟩
  cases q with
  | zero=>exact hp.1
  | succ q=>exact la_ord hT (Nat.lt_succ_self q) hq
 top:=by
  have hpos:=hT.pos
  cases h:lvs.length with
  | zero=>
   have h1:=(hT.sp 0 hpos).a0
   have h2:=at_to hT 0 hpos
   show 0≤toF 0
   have h1:0≤atF 0:=h1
   omega
  | succ q=>exact leaf_in hT (la_ok (show q<lvs.length by omega)).2
section
variable {n:Nat} {L:WL rw_iLii} {lo hi:Int} {F:Int→Int×Int}
theorem of_ok {mk:NL}{st:Nat→Int}(hT:Tree)(h0:atF 0=0)(hP:Pnt lo hi F mk st)(hmk:mk.l.length=Cur.x.l.length)(hst:∀ (par:NL),par.l=parL→∀ i:Nat,i<Cur.x.l.length→q4_ n Cur.x mk L par lo hi (i:Int)=some (st i))(hlo:0≤lo)(hlh:lo<hi)(hhi:hi≤2000000)(htop:hi≤toF 0)(hA:Cur.x.l.length≤1000)(hn:4000<n) :
  ∃ W:WL qm_,qhi_ n Cur.x mk L lo hi=some (W,0)∧Cov F lo hi W.l:=by
 have hpos:=hT.pos
 obtain⟨par,hp,hpl⟩:=prgPar (n:=n) (K:=Cur.x.l.length) hT (fun j=>hT.few j) (by omega)
 obtain⟨out,h1,h2⟩:=stretch_ok (n:=n) (par:=par) (L:=L) hT hP hmk (hst par hpl) hlo hlh hhi htop hA hn
 have row:Cur.x.l.getD 0 (0,0,0,0,0,0,nl0,0)=pt 0:=rfl
 have hle:=h2.le
 unfold qhi_
 rw[check_ok hT (by omega)]
 try simp only[Option.bind_some]
 rw[if_pos trivial,if_pos (by omega),show ((0:Int)).toNat=0 from rfl,row]
 try simp only[Option.bind_some]
 rw[if_pos (show (pt 0).2.2.1=0 from h0),if_pos (by omega),if_neg (by omega),if_neg (by omega),if_neg (show ¬ hi > (pt 0).2.2.2.2.1 by have:hi≤(pt 0).2.2.2.2.1:=htop; omega),hp]
 try simp only[Option.bind_some]
 unfold qew_
 try simp only[Option.bind_some]
 rw[h1]
 try simp only[Option.bind_some]
 rw[if_pos trivial,dif_pos (by omega)]
 exact⟨_,rfl,h2⟩
theorem at_ok {W:WL qm_}{x:Int}(hc:Cov F lo hi W.l)(h1:lo≤x)(h2:x<hi)(hl:W.l.length≤1000000000)(hn:W.l.length<n):∃ a b,qqc_ n W x=some (a,b,(F x).1,(F x).2,true):=by
 obtain⟨q,g1,g2,g3,g4⟩:=hc.find h1 h2
 obtain⟨r,rfl,h⟩:=hoare (B:=qjk_ n x W (W.l.length:Int)) (σ:=Unit) (fun _ i=>i) (fun i _=>i≤q) (fun r=>r=.inl ((W.l.getD q (0,0,0,0)).1,(W.l.getD q (0,0,0,0)).2.1,(W.l.getD q (0,0,0,0)).2.2.1,(W.l.getD q (0,0,0,0)).2.2.2)) W.l.length
  (fun i _ hi hI=>by
   unfold qjk_
   dsimp only
   rw[if_pos (by omega),if_pos (by omega),Int.toNat_natCast]
   try simp only[Option.bind_some]
   rcases Nat.lt_or_ge i q with c | c
   ·have hno:=g2 i c
    rw[w64_inc (by omega)]
    by_cases c1:(W.l.getD i (0,0,0,0)).1≤x
    ·rw[if_pos c1,if_neg (fun c2=>hno ⟨c1,c2⟩)]
     exact .inl ⟨(),by omega,rfl⟩
    ·rw[if_neg c1]
     exact .inl ⟨(),by omega,rfl⟩
   ·obtain rfl:i=q:=by omega
    rw[if_pos g3.1,if_pos g3.2]
    exact .inr ⟨_,rfl,rfl⟩)
  (fun _ hI=>absurd hI (by omega)) n 0 () (Nat.zero_le _) (Nat.zero_le _) (by omega)
 unfold qqc_
 rw[show qo0_ n x W (W.l.length:Int) 0=_ from h]
 rw[g4]
 exact⟨_,_,rfl⟩
theorem one_ok {x:Int}:∀ {M:List P4},Cov F x (x+1) M→M.length=1∧F x=((M.getD 0 (0,0,0,0)).2.2.1,(M.getD 0 (0,0,0,0)).2.2.2)
 | [],h=>by have h:x=x+1:=h; omega
 | p::t,h=>by
  have hl:=h.le
  obtain⟨h1,h2,h3,h4⟩:=h
  simp only[List.length_cons] at hl
  have ht:t.length=0:=by omega
  refine⟨by simp only[List.length_cons]; omega,h3 x (by omega) (by omega)⟩
end
theorem pickI {n:Nat}{a m:Int}(h0:1≤m)(hm:m≤1000000000):∃ e,qfi_ n a m=some e∧0≤e∧e<m:=by
 unfold qfi_
 have h1:Int.tmod a m<m:=Int.tmod_lt_of_pos a (by omega)
 have h2:-m<Int.tmod a m:=by
  have:=Int.tmod_lt_of_pos (-a) (show 0<m by omega)
  rw[Int.neg_tmod] at this
  omega
 rw[if_neg (by omega),if_pos (by omega)]
 by_cases c:Int.tmod a m<0
 ·rw[if_pos c,qqg_ (by omega) (by omega)]
  exact⟨_,rfl,by omega,by omega⟩
 ·rw[if_neg c]
  exact⟨_,rfl,by omega,by omega⟩
end


theorem lightP {n mo:Nat}{x:WL rw_iiiiiiLu}(hm:mo≤1000)(hn:mo+5<n):∃ b,qb6_ n x (mo:Int)=some b∧(b=true→x.l.length≤mo∧∀ r∈x.l,r.2.2.1≤1048576∧r.2.2.2.2.1≤1048576∧r.2.2.2.2.2.1≤1048576∧-1048576≤r.2.2.1∧-1048576≤r.2.2.2.2.1∧-1048576≤r.2.2.2.2.2.1):=by
 obtain⟨r,hr,h⟩:=whileI (B:=qbp_ n x (mo:Int)) (fun s=>∃ i:Nat,s.2=i∧i≤mo+1∧∀ j,j<i→j<x.l.length→(x.l.getD j d8).2.2.1≤1048576∧(x.l.getD j d8).2.2.2.2.1≤1048576∧(x.l.getD j d8).2.2.2.2.2.1≤1048576∧-1048576≤(x.l.getD j d8).2.2.1∧-1048576≤(x.l.getD j d8).2.2.2.2.1∧-1048576≤(x.l.getD j d8).2.2.2.2.2.1) (fun s=>mo+1-s.2.toNat) (fun r=>r=.inl ()∨∀ j,j<mo+1→j<x.l.length→(x.l.getD j d8).2.2.1≤1048576∧(x.l.getD j d8).2.2.2.2.1≤1048576∧(x.l.getD j d8).2.2.2.2.2.1≤1048576∧-1048576≤(x.l.getD j d8).2.2.1∧-1048576≤(x.l.getD j d8).2.2.2.2.1∧-1048576≤(x.l.getD j d8).2.2.2.2.2.1)
  (fun s hI=>by
   obtain⟨c,q⟩:=s
   obtain⟨i,rfl,hi,hI⟩:=hI
   unfold qbp_
   dsimp only
   by_cases c1:(i:Int)<((x.l.length:Nat):Int)
   ·rw[if_pos c1]
    by_cases c2:(i:Int)≤(mo:Int)
    ·rw[if_pos c2,if_pos (by omega),w64_inc (by omega),Int.toNat_natCast]
     simp only[Option.bind_some]
     have hx:x.l.getD i (0,0,0,0,0,0,nl0,0)=x.l.getD i d8:=rfl
     rw[hx]
     by_cases d1:(x.l.getD i d8).2.2.1 > 1048576
     ·rw[if_pos d1]; exact .inr ⟨_,.inl rfl,rfl⟩
     rw[if_neg d1]
     by_cases d2:(x.l.getD i d8).2.2.2.2.1 > 1048576
     ·rw[if_pos d2]; exact .inr ⟨_,.inl rfl,rfl⟩
     rw[if_neg d2]
     by_cases d3:(x.l.getD i d8).2.2.2.2.2.1 > 1048576
     ·rw[if_pos d3]; exact .inr ⟨_,.inl rfl,rfl⟩
     rw[if_neg d3]
     by_cases d4:(x.l.getD i d8).2.2.1 < -1048576
     ·rw[if_pos d4]; exact .inr ⟨_,.inl rfl,rfl⟩
     rw[if_neg d4]
     by_cases d5:(x.l.getD i d8).2.2.2.2.1 < -1048576
     ·rw[if_pos d5]; exact .inr ⟨_,.inl rfl,rfl⟩
     rw[if_neg d5]
     by_cases d6:(x.l.getD i d8).2.2.2.2.2.1 < -1048576
     ·rw[if_pos d6]; exact .inr ⟨_,.inl rfl,rfl⟩
     rw[if_neg d6]
     refine .inl ⟨(_,((i+1:Nat):Int)),⟨i+1,rfl,by omega,fun j h1 h2=>?_⟩,by dsimp only; omega,rfl⟩
     rcases Nat.lt_or_ge j i with h | h
     ·exact hI j h h2
     ·obtain rfl:j=i:=by omega
      omega
    ·rw[if_neg c2]; exact .inr ⟨_,.inr fun j h1 h2=>hI j (by omega) h2,rfl⟩
   ·rw[if_neg c1]; exact .inr ⟨_,.inr fun j h1 h2=>hI j (by omega) h2,rfl⟩) n (0,0) ⟨0,rfl,by omega,fun j h=>absurd h (Nat.not_lt_zero _)⟩ (by dsimp only; omega)
 unfold qb6_ qdj_
 rw[h]
 rcases r with r | r
 ·exact⟨_,rfl,fun h=>by cases h⟩
 ·have hr:=hr.resolve_left (fun h=>by cases h)
  dsimp only
  by_cases c1:((x.l.length:Nat):Int)≤(mo:Int)
  ·rw[if_pos c1]
   have key:x.l.length≤mo∧∀ r∈x.l,r.2.2.1≤1048576∧r.2.2.2.2.1≤1048576∧r.2.2.2.2.2.1≤1048576∧-1048576≤r.2.2.1∧-1048576≤r.2.2.2.2.1∧-1048576≤r.2.2.2.2.2.1:=⟨by omega,fun r hm=>by
    obtain⟨j,hj,rfl⟩:=q13_ d8 hm
    exact hr j (by omega) hj⟩
   split
   ·exact⟨_,rfl,fun _=>key⟩
   ·exact⟨_,rfl,fun h=>by cases h⟩
  ·rw[if_neg c1]; exact⟨_,rfl,fun h=>by cases h⟩
def r8 (x:WL rw_iiiiiiLu)(i:Nat):P8:=x.l.getD i (0,0,0,0,0,0,nl0,0)
theorem way_sub {p:NL}(h:0≤p.l.length-1∧p.l.length-1≤p.l.length):(nlSub p 0 (p.l.length-1) h).l=wayOf p.l:=by
 show (p.l.drop 0).take (p.l.length-1-0)=_
 rw[List.drop_zero,Nat.sub_zero]; rfl
theorem way_len (p:List Int):(wayOf p).length≤p.length:=by unfold wayOf; rw[List.length_take]; omega
section
variable {n i:Nat} {L:WL rw_iLii} {x:WL rw_iiiiiiLu} {p:NL} (hL:L.l.length≤1000000) (hn:L.l.length<n) (hr:∀ i,i<L.l.length→(L.l.getD i d4).2.1.l.length<n) (hi:i<x.l.length) (h1:1≤p.l.length) (h2:p.l.length≤1000000) (hpn:p.l.length<n)
include hL hn hi h1 h2
include hr
theorem leaf_ref (hc:qc_ n x=some 0)(hp:qcj_ n x (i:Int)=some p) :
  qde_ n L x (i:Int)=some (if (r8 x i).2.1=3∨(r8 x i).2.1=5 then sty (r8 x i).1 (wayOf p.l) L.l else 0):=by
 unfold qde_
 have hs:=fun h:0≤p.l.length-1∧p.l.length-1≤p.l.length=>sref_ok (n:=n) (L:=L) (k:=(r8 x i).1) (w:=nlSub p 0 (p.l.length-1) h) hL hn (by rw[way_sub h]; have:=way_len p.l; omega) hr
 have row:x.l.getD i (0,0,0,0,0,0,nl0,0)=r8 x i:=rfl
 have e2:((p.l.length:Int)-1).toNat=p.l.length-1:=by omega
 rw[hc,Option.bind_some,if_pos rfl,if_neg (by omega),if_neg (by omega),if_pos (by omega),Int.toNat_natCast,row,hp]
 simp only[Option.bind_some]
 by_cases c1:(r8 x i).2.1=3
 ·rw[if_pos c1,if_pos (show (r8 x i).2.1=3∨(r8 x i).2.1=5 from .inl c1),qqg_ (by omega) (by omega),if_pos (by omega),dif_pos (by omega)]
  simp only[e2]
  rw[hs (by omega),way_sub (by omega)]
  rfl
 ·by_cases c2:(r8 x i).2.1=5
  ·rw[if_neg c1,if_pos c2,if_pos (show (r8 x i).2.1=3∨(r8 x i).2.1=5 from .inr c2),qqg_ (by omega) (by omega),if_pos (by omega),dif_pos (by omega)]
   simp only[e2]
   rw[hs (by omega),way_sub (by omega)]
   rfl
  ·rw[if_neg c1,if_neg c2,if_neg (fun h=>h.elim c1 c2)]
end

section
variable [Cur]
def sv (L:WL rw_iLii)(U:Nat→List Nat)(i:Nat):Int:=if (pt i).2.1=3∨(pt i).2.1=5 then sty (pt i).1 (wayOf (syms (U i))) L.l else 0
theorem rleaf_ok {n K:Nat}{L:WL rw_iLii}{U:Nat→List Nat}{i:Nat}(hT:Tree)(hc:qc_ n Cur.x=some 0)(hK:∀ j,(kd j).length≤K)(hA:Cur.x.l.length≤1000)(hL:L.l.length≤1000)(hn:4000+K<n)(hr:∀ i,i<L.l.length→(L.l.getD i d4).2.1.l.length<n)(hi:i<Cur.x.l.length)(hU:Up i (U i)):qde_ n L Cur.x (i:Int)=some (sv L U i):=by
 obtain⟨y,h1,h2⟩:=refPath (n:=n) hT hK (by omega) hc hi hU
 have hl:=hU.len hT
 have e:y.l.length=(U i).length:=by rw[h2,q14_]
 have:=leaf_ref (n:=n) (i:=i) (L:=L) (x:=Cur.x) (p:=y) (by omega) (by omega) hr hi (by omega) (by omega) hc h1
 rw[this,h2]
 rfl
theorem lawLoop {n K:Nat}{L:WL rw_iLii}{U:Nat→List Nat}{mk y:NL}{x a b:Int}(hT:Tree)(hc:qc_ n Cur.x=some 0)(hK:∀ j,(kd j).length≤K)(hA:Cur.x.l.length≤1000)(hL:L.l.length≤1000)(hn:4000+K<n)(hr:∀ i,i<L.l.length→(L.l.getD i d4).2.1.l.length<n)(hU:∀ i,i<Cur.x.l.length→Up i (U i))(hy:y.l=lvs)(hmk:mk.l.length=Cur.x.l.length) :
  ∃ r,qch_ n Cur.x L x mk a b (byteF mk (sv L U) x).1 (byteF mk (sv L U) x).2 y 0=some r∧(r=.inl ()∨(r=.inr ()∧byteF mk (sv L U) x=(0,1))):=by
 have hl:lvs.length≤Cur.x.l.length:=qo3_ _ _
 obtain⟨r,hr2,h⟩:=hoare (B:=qbd_ n Cur.x L x mk a b (byteF mk (sv L U) x).1 (byteF mk (sv L U) x).2 y) (σ:=Unit) (fun _ i=>i) (fun i _=>∀ q,q<i→¬ Has x q) (fun r=>r=.inl ()∨(r=.inr ()∧byteF mk (sv L U) x=(0,1))) lvs.length
  (fun q _ hq hI=>by
   obtain⟨h1,h2⟩:=la_ok hq
   have row:Cur.x.l.getD (la q) (0,0,0,0,0,0,nl0,0)=pt (la q):=rfl
   have ea:(pt (la q)).2.2.1=atF (la q):=rfl
   have ei:(pt (la q)).2.2.2.1=inF (la q):=rfl
   have et:(pt (la q)).2.2.2.2.1=toF (la q):=rfl
   have go:¬ Has x q→∀ p,p<q+1→¬ Has x p:=fun h p hp=>by
    rcases Nat.lt_or_ge p q with c | c
    ·exact hI p c
    ·obtain rfl:p=q:=by omega
     exact h
   unfold qbd_
   dsimp only
   rw[hy,if_pos (by omega),if_pos (by omega),Int.toNat_natCast,if_pos hq,h1]
   try simp only[Option.bind_some]
   rw[if_pos (by omega),Int.toNat_natCast,row,ea,ei,et]
   try simp only[Option.bind_some]
   rw[w64_inc (by omega)]
   by_cases c1:x<atF (la q)
   ·rw[if_pos c1]
    exact .inl ⟨(),go (fun h=>by have:=h.2.1; omega),rfl⟩
   rw[if_neg c1]
   by_cases c2:x ≥ toF (la q)
   ·rw[if_pos c2]
    exact .inl ⟨(),go (fun h=>by have:=h.2.2; omega),rfl⟩
   rw[if_neg c2]
   have hF:byteF mk (sv L U) x=_:=q15_ hT (q:=q) ⟨hq,by omega,by omega⟩
   rw[hF]
   by_cases c3:x ≥ inF (la q)
   ·rw[if_pos c3,rleaf_ok hT hc hK hA hL hn hr h2 (hU _ h2)]
    try simp only[Option.bind_some]
    rw[if_pos (show inF (la q)≤x from c3),if_pos rfl,if_pos (by omega),if_pos (by omega)]
    try simp only[Option.bind_some]
    rw[if_pos trivial]
    exact .inr ⟨_,.inl rfl,rfl⟩
   ·rw[if_neg c3,if_neg (show ¬ inF (la q)≤x from c3),if_pos rfl,if_pos (by omega),if_pos (by omega)]
    try simp only[Option.bind_some]
    rw[if_pos trivial]
    exact .inr ⟨_,.inl rfl,rfl⟩)
  (fun _ hI=>⟨_,.inr ⟨rfl,byteF_no fun⟨q,hq⟩=>hI q hq.1 hq⟩,by unfold qbd_; dsimp only; rw[hy,if_neg (by omega)]⟩)
  n 0 () (Nat.zero_le _) (fun q hq=>absurd hq (Nat.not_lt_zero _)) (by omega)
 exact⟨r,h,hr2⟩
theorem of2 {n:Nat}{L:WL rw_iLii}{U:Nat→List Nat}{mk:NL}{lo hi:Int}(hT:Tree)(h0:atF 0=0)(hA:Cur.x.l.length≤1000)(hL:L.l.length≤1000)(hn:4000<n)(hU:∀ i,i<Cur.x.l.length→Up i (U i))(hmk:mk.l.length=Cur.x.l.length)(hlo:0≤lo)(hlh:lo<hi)(hhi:hi≤2000000)(htop:hi≤toF 0) :
  ∃ W:WL qm_,qhi_ n Cur.x mk L lo hi=some (W,0)∧Cov (byteF mk (sv L U)) lo hi W.l:=by
 refine of_ok (st:=fun i=>if (pt i).2.1=3∨(pt i).2.1=5 then (if toF i≤lo∨inF i ≥ hi then 0 else sty (pt i).1 (wayOf (syms (U i))) L.l) else 0) hT h0 (pnt hT fun i hi h=>?_) hmk (fun par hp i hi=>?_) hlo hlh hhi htop hA hn
 ·unfold sv
  rw[if_neg h]
 ·exact canv_ok hT hp (hU i hi) hA hi (by omega) hL
end
theorem q0d_ (g1 g3:Int):∃ n,qee_ n g1 g3=some ():=by
 obtain⟨K,hK⟩:=@bound_kd _ ⟨wA⟩
 obtain⟨n,hn⟩:∃ n,n=1200000+K+2*wA.l.length+wB.l.length:=⟨_,rfl⟩
 refine⟨n,?_⟩
 letI:Cur:=⟨wA⟩
 have hK:∀ j,(kd j).length≤K:=hK
 unfold qee_ qix_ qfg_
 obtain⟨b,hb,hb2⟩:=lightP (n:=n) (mo:=100) (x:=wA) (by decide) (by omega)
 have hb:qb6_ n wA 100=some b:=hb
 rw[hb]
 simp only[Option.bind_some]
 cases b with
 | false=>rfl
 | true=>
 obtain⟨hA,hbox⟩:=hb2 rfl
 obtain⟨b2,hs,hs2⟩:=lightS (n:=n) (x:=wB) (by omega)
 rw[if_pos rfl,hs]
 simp only[Option.bind_some]
 cases b2 with
 | false=>rfl
 | true=>
 obtain⟨hL,hrL⟩:=hs2 rfl
 obtain⟨c,hc,hcT⟩:=refCheck_ok (n:=n) hK (by show wA.l.length+K+20<n; omega) (by show wA.l.length≤1000000; omega)
 have hc:qc_ n wA=some c:=hc
 rw[if_pos rfl,hc]
 simp only[Option.bind_some]
 by_cases c0:c=0
 case neg=>rw[if_neg c0]
 subst c0
 have hT:Tree:=hcT rfl
 have hpos:0<wA.l.length:=hT.pos
 rw[if_pos rfl,if_pos (by omega)]
 have row:wA.l.getD ((0:Int)).toNat (0,0,0,0,0,0,nl0,0)=pt 0:=rfl
 rw[row]
 by_cases c1:(pt 0).2.2.1=0
 case neg=>rw[if_neg c1]
 rw[if_pos c1]
 by_cases c2:(pt 0).2.2.2.2.1=0
 ·rw[if_pos c2]
 rw[if_neg c2]
 have htop:0<toF 0:=by
  have h1:=at_to hT 0 hpos
  have h2:atF 0=0:=c1
  have h3:toF 0 ≠ 0:=c2
  omega
 have hmax:toF 0≤1048576:=(hbox (pt 0) (qzx_ hpos)).2.1
 obtain⟨mk,hm,hml⟩:=marks_some (n:=n) (f:=g1) hT hc (by show wA.l.length≤1000; omega) hK (by omega)
 have hm:qct_ n wA 1 g1=some mk:=hm
 have hml:mk.l.length=wA.l.length:=hml
 rw[hm]
 simp only[Option.bind_some]
 have et:(pt 0).2.2.2.2.1=toF 0:=rfl
 rw[et]
 obtain⟨e,he,e0,e1⟩:=pickI (n:=n) (a:=g3) (m:=toF 0) (by omega) (by omega)
 rw[he]
 simp only[Option.bind_some]
 obtain⟨U,hU⟩:∃ U:Nat→List Nat,∀ i,i<wA.l.length→Up i (U i):=by
  classical
  refine⟨fun i=>if h:i<wA.l.length then (up_ex hT i i (Nat.le_refl _) h).choose else [],fun i hi=>?_⟩
  show Up i (if h:i<wA.l.length then (up_ex hT i i (Nat.le_refl _) h).choose else [])
  rw[dif_pos hi]
  exact (up_ex hT i i (Nat.le_refl _) hi).choose_spec
 obtain⟨W1,p1,q1⟩:=of2 (n:=n) (L:=wB) (U:=U) (mk:=mk) (lo:=0) (hi:=toF 0) hT c1 (by show wA.l.length≤1000; omega) (by omega) (by omega) hU hml (Int.le_refl _) htop (by omega) (Int.le_refl _)
 obtain⟨W2,p2,q2⟩:=of2 (n:=n) (L:=wB) (U:=U) (mk:=mk) (lo:=e) (hi:=e+1) hT c1 (by show wA.l.length≤1000; omega) (by omega) (by omega) hU hml e0 (by omega) (by omega) (by omega)
 have p1:qhi_ n wA mk wB 0 (toF 0)=some (W1,0):=p1
 have p2:qhi_ n wA mk wB e (e+1)=some (W2,0):=p2
 rw[p1]
 simp only[Option.bind_some]
 rw[qqg_ (by omega) (by omega),p2]
 simp only[Option.bind_some]
 have hle:=q1.le
 obtain⟨a,b,ha⟩:=at_ok (n:=n) (W:=W1) q1 e0 e1 (by omega) (by omega)
 obtain⟨l1,f1⟩:=one_ok q2
 obtain⟨y,hy,hyl⟩:=rleaves (n:=n) hc (by show wA.l.length≤1000000; omega) (by show wA.l.length<n; omega)
 have hy:qb1_ n wA=some y:=hy
 obtain⟨r,hr1,hr2⟩:=lawLoop (n:=n) (K:=K) (L:=wB) (U:=U) (mk:=mk) (y:=y) (x:=e) (a:=a) (b:=b) hT hc hK (by show wA.l.length≤1000; omega) (by omega) (by omega) (fun i hi=>by have:=hrL i hi; omega) hU hyl hml
 have hr1:qch_ n wA wB e mk a b (byteF mk (sv wB U) e).1 (byteF mk (sv wB U) e).2 y 0=some r:=hr1
 rw[ha]
 dsimp only[Option.bind_some]
 rw[if_pos rfl,if_pos trivial,if_pos trivial,if_pos (by omega),if_pos (by omega)]
 rw[if_pos (show (W2.l.getD ((0:Int)).toNat (0,0,0,0)).2.2.1=(byteF mk (sv wB U) e).1 by rw[f1]; rfl),if_pos (show (W2.l.getD ((0:Int)).toNat (0,0,0,0)).2.2.2=(byteF mk (sv wB U) e).2 by rw[f1]; rfl),hy]
 dsimp only[Option.bind_some]
 rw[hr1]
 rcases hr2 with rfl | ⟨rfl,h⟩
 ·rfl
 ·rw[h]; rfl

end Go.Proofs.YthlikofobjhcoaaGreat.ptb28
