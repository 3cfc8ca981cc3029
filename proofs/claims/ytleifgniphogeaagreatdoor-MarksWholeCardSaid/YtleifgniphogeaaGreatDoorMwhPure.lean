/-
  The pure side. No condition.
-/
import Derived.Test.YtleifgniphogeaaGreatDoorMwhTold
import Derived.IntWalk
set_option linter.unusedSimpArgs false
set_option linter.unusedVariables false
set_option linter.unusedSectionVars false
set_option linter.unnecessarySimpa false
noncomputable section
namespace Go.Proofs.YtleifgniphogeaaGreatDoor.mwh19
open Go Go.Proofs.YtleifgniphogeaaGreatDoor Ax
variable [Args]
theorem rwo_iiiiiiLu:∀ a,okVs (rw_iiiiiiLu a)=true:=fun _=>rfl


theorem w64_id {x:Int}(h1:-9223372036854775808≤x)(h2:x<9223372036854775808):w64 x=x:=IntWalk.i64_in _ (by omega)
theorem w64_sm {x:Int}(h1:-1000000000000≤x)(h2:x≤1000000000000):w64 x=x:=w64_id (by omega) (by omega)
theorem w64_inc {i:Nat}(h:i≤1000000000):w64 ((i:Int)+1)=((i+1:Nat):Int):=by rw[w64_sm (by omega) (by omega)]; rfl
theorem whileI {st ρ:Type}{B:st→Option (st ⊕ ρ)}(I:st→Prop)(μ:st→Nat)(Q:ρ→Prop)(h:∀ s,I s→(∃ s',I s'∧μ s' < μ s∧B s=some (.inl s'))∨∃ r,Q r∧B s=some (.inr r)):∀ (n:Nat) (s:st),I s→μ s<n→∃ r,Q r∧iterM B n s=some r
 | 0,s,_,hm=>absurd hm (Nat.not_lt_zero _)
 | n+1,s,hi,hm=>by
  rcases h s hi with⟨s',h1,h2,h3⟩ | ⟨r,h1,h2⟩
  ·obtain⟨r,q1,q2⟩:=whileI I μ Q h n s' h1 (by omega)
   exact⟨r,q1,by rw[qbh_,h3]; exact q2⟩
  ·exact⟨r,h1,by rw[qbh_,h2]; rfl⟩
theorem hoare {σ st ρ:Type}{B:st→Option (st ⊕ ρ)}(S:σ→Int→st)(I:Nat→σ→Prop)(Q:ρ→Prop)(len:Nat)
  (h1:∀ (i:Nat) (s:σ),i<len→I i s→(∃ s',I (i+1) s'∧B (S s (i:Int))=some (.inl (S s' ((i+1:Nat):Int))))∨∃ r,Q r∧B (S s (i:Int))=some (.inr r))
  (h2:∀ s,I len s→∃ r,Q r∧B (S s (len:Int))=some (.inr r)):∀ (n i:Nat) (s:σ),i≤len→I i s→len-i<n→∃ r,Q r∧iterM B n (S s (i:Int))=some r
 | 0,i,s,_,_,hm=>absurd hm (Nat.not_lt_zero _)
 | n+1,i,s,hl,hi,hm=>by
  have main:(∃ s',i<len∧I (i+1) s'∧B (S s (i:Int))=some (.inl (S s' ((i+1:Nat):Int))))∨∃ r,Q r∧B (S s (i:Int))=some (.inr r):=by
   by_cases hlt:i<len
   ·rcases h1 i s hlt hi with⟨s',a,b⟩ | h
    ·exact .inl ⟨s',hlt,a,b⟩
    ·exact .inr h
   ·obtain rfl:i=len:=by omega
    exact .inr (h2 s hi)
  rcases main with⟨s',g0,g1,g3⟩ | ⟨r,g1,g2⟩
  ·obtain⟨r,q1,q2⟩:=hoare S I Q len h1 h2 n (i+1) s' (by omega) g1 (by omega)
   exact⟨r,q1,by rw[qbh_,g3]; exact q2⟩
  ·exact⟨r,g1,by rw[qbh_,g2]; rfl⟩
theorem qtr_ {α:Type}{l:List α}{i:Nat}{d:α}(h:i<l.length):l.getD i d∈l:=by
 rw[List.getD_eq_getElem?_getD,List.getElem?_eq_getElem h]; exact List.getElem_mem h
theorem qlo_ {α:Type}{l:List α}{x:α}(d:α)(h:x∈l):∃ i,i<l.length∧l.getD i d=x:=by
 obtain⟨i,hi,rfl⟩:=List.mem_iff_getElem.1 h
 exact⟨i,hi,by simp[List.getD_eq_getElem?_getD,hi]⟩
theorem qlp_ {α:Type}{l:List α}{i j:Nat}{x d:α}(h:i<l.length):(l.set i x).getD j d=if j=i then x else l.getD j d:=by
 simp only[List.getD_eq_getElem?_getD,List.getElem?_set]
 by_cases hj:i=j
 ·subst hj; simp[h]
 ·rw[if_neg hj,if_neg (Ne.symm hj)]
class Cur where
 x:WL rw_iiiiiiLu

section
variable [Cur]

abbrev P8:=Int×Int×Int×Int×Int×Int×NL×Int
def d8:P8:=(0,0,0,0,0,0,nl0,0)
def pt (i:Nat):P8:=Cur.x.l.getD i (0,0,0,0,0,0,nl0,0)
def kd (i:Nat):List Int:=(pt i).2.2.2.2.2.2.1.l
def atF (i:Nat):Int:=(pt i).2.2.1
def toF (i:Nat):Int:=(pt i).2.2.2.2.1
theorem kd_le (i:Nat):(kd i).length≤140737488355328:=(pt i).2.2.2.2.2.2.1.le
theorem w64_inc' {i:Nat}(h:i<9223372036854775807):w64 ((i:Int)+1)=((i+1:Nat):Int):=by
 rw[w64_id (by omega) (by omega)]; rfl
theorem bound_all {α:Type}(f:α→Nat):∀ l:List α,∃ K,∀ x∈l,f x≤K
 | []=>⟨0,fun x h=>by cases h⟩
 | a::l=>by
  obtain⟨K,hK⟩:=bound_all f l
  refine⟨max (f a) K,fun x hx=>?_⟩
  rcases List.mem_cons.1 hx with rfl | hx
  ·exact Nat.le_max_left _ _
  ·exact Nat.le_trans (hK x hx) (Nat.le_max_right _ _)
theorem bound_kd:∃ K,∀ i,(kd i).length≤K:=by
 obtain⟨K,hK⟩:=bound_all (fun x:P8=>x.2.2.2.2.2.2.1.l.length) Cur.x.l
 refine⟨K,fun i=>?_⟩
 rcases Nat.lt_or_ge i Cur.x.l.length with h | h
 ·exact hK (pt i) (qtr_ h)
 ·have:pt i=d8:=by unfold pt; rw[List.getD_eq_getElem?_getD,List.getElem?_eq_none h]; rfl
  unfold kd; rw[this]; exact Nat.zero_le _
inductive Ks:Nat→Nat→Nat→Int→Nat→Prop
 | done {i k next:Nat} {a:Int} (hk:k=(kd i).length) (ha:a≤toF i):Ks i k next a next
 | kid {i k next e' e:Nat} {a:Int} (hk:k<(kd i).length) (hv:(kd i).getD k 0=(next:Int)) (hn:next<Cur.x.l.length) (ha:a≤atF next) (h1:Ks next 0 (next+1) (atF next) e') (h2:Ks i (k+1) e' (toF next) e):Ks i k next a e
theorem Ks.lt {i k next e:Nat}{a:Int}(h:Ks i k next a e):next≤e:=by
 induction h with
 | done=>exact Nat.le_refl _
 | kid _ _ _ _ _ _ ih1 ih2=>omega
theorem Ks.len {i k next e:Nat}{a:Int}(h:Ks i k next a e):k≤(kd i).length:=by
 cases h with
 | done hk=>omega
 | kid hk=>omega
theorem Ks.hi {i k next e:Nat}{a:Int}(h:Ks i k next a e):next≤Cur.x.l.length→e≤Cur.x.l.length:=by
 induction h with
 | done=>exact id
 | kid hk hv hn ha _ _ ih1 ih2=>exact fun _=>ih2 (ih1 (by omega))
theorem Ks.cover {i k next e:Nat}{a:Int}(h:Ks i k next a e):∀ j,next≤j→j<e→∃ f,f≤e∧Ks j 0 (j+1) (atF j) f:=by
 induction h with
 | done=>exact fun j h1 h2=>absurd h1 (by omega)
 | @kid i k next e' e a hk hv hn ha h1 h2 ih1 ih2=>
  intro j h3 h4
  have l2:=h2.lt
  by_cases e1:j=next
  ·subst e1; exact⟨e',l2,h1⟩
  ·rcases Nat.lt_or_ge j e' with h5 | h5
   ·obtain⟨f,g1,g2⟩:=ih1 j (by omega) h5
    exact⟨f,by omega,g2⟩
   ·exact ih2 j h5 h4
theorem Ks.kids {i k next e:Nat}{a:Int}(h:Ks i k next a e):∀ q,k≤q→q<(kd i).length→∃ c:Nat,(kd i).getD q 0=(c:Int)∧next≤c∧c<e∧c<Cur.x.l.length:=by
 induction h with
 | done hk=>exact fun q h1 h2=>by omega
 | @kid i k next e' e a hk hv hn ha h1 h2 ih1 ih2=>
  intro q h3 h4
  have l1:=h1.lt
  have l2:=h2.lt
  by_cases e1:q=k
  ·subst e1; exact⟨next,hv,Nat.le_refl _,by omega,hn⟩
  ·obtain⟨c,g1,g2,g3,g4⟩:=ih2 q (by omega) h4
   exact⟨c,g1,by omega,g3,g4⟩
theorem Ks.mono {i k next e:Nat}{a:Int}(h:Ks i k next a e)(hs:∀ j,j<Cur.x.l.length→atF j≤toF j):a≤toF i:=by
 induction h with
 | done _ ha=>exact ha
 | @kid i k next e' e a hk hv hn ha h1 h2 ih1 ih2=>
  have:=hs next hn
  omega

theorem end_ok:∀ (n i:Nat) (K:Nat),(∀ j,(kd j).length≤K)→i<Cur.x.l.length→Cur.x.l.length-i+K+10<n→∃ r,qe_ n Cur.x (i:Int)=some r∧(0≤r→∃ e:Nat,r=e∧Ks i 0 (i+1) (atF i) e)
 | 0,i,K,hK,hi,hn=>absurd hn (Nat.not_lt_zero _)
 | n+1,i,K,hK,hi,hn=>by
  have hrec:∀ j:Nat,i<j→j<Cur.x.l.length→∃ r,qe_ n Cur.x (j:Int)=some r∧(0≤r→∃ e:Nat,r=e∧Ks j 0 (j+1) (atF j) e):=fun j h1 h2=>end_ok n j K hK h2 (by omega)
  have hkl:=kd_le i
  have loop:∀ (f k:Nat) (next:Int) (a:Int),k≤(kd i).length→(i:Int)<next→(kd i).length-k<f →
    ∃ r,iterM (qh_ (qe_ n) n Cur.x (i:Int)) f (next,a,(k:Int))=some r∧(r=.inl ()∨∃ (e:Nat) (b:Int),r=.inr ((e:Int),b)∧(b≤toF i→∃ q:Nat,next=q∧Ks i k q a e)):=by
   intro f
   induction f with
   | zero=>intro k next a _ _ h; exact absurd h (Nat.not_lt_zero _)
   | succ f ih=>
    intro k next a hk hnx hf
    rw[qbh_]
    unfold qh_
    dsimp only
    rw[if_pos (by omega)]
    simp only[Option.bind_some,Int.toNat_natCast]
    change ∃ r,((if (k:Int)<((((kd i).length:Nat)):Int) then _ else _:Option _).bind _)=some r∧_
    by_cases hlt:k<(kd i).length
    ·rw[if_pos (by omega)]
     change ∃ r,((if 0≤(k:Int)∧(k:Int)<(((kd i).length:Nat):Int) then (if k<(kd i).length then (if (kd i).getD k 0=next then _ else _) else _) else _:Option _).bind _)=some r∧_
     rw[if_pos (by omega),if_pos hlt]
     by_cases hv:(kd i).getD k 0=next
     ·rw[if_pos hv]
      by_cases hN:next ≥ ((Cur.x.l.length:Nat):Int)
      ·rw[if_pos hN]
       exact⟨_,rfl,.inl rfl⟩
      ·rw[if_neg hN,if_pos (by omega)]
       obtain⟨q,rfl⟩:∃ q:Nat,next=q:=⟨next.toNat,by omega⟩
       simp only[Int.toNat_natCast]
       change ∃ r,((if atF q<a then _ else _:Option _).bind _)=some r∧_
       by_cases ha:atF q<a
       ·rw[if_pos ha]; exact⟨_,rfl,.inl rfl⟩
       ·rw[if_neg ha]
        obtain⟨r,e1,e2⟩:=hrec q (by omega) (by omega)
        rw[e1]
        simp only[Option.bind_some]
        by_cases hr:r<0
        ·rw[if_pos hr]; exact⟨_,rfl,.inl rfl⟩
        ·rw[if_neg hr]
         obtain⟨e',rfl,hks⟩:=e2 (by omega)
         have l1:=hks.lt
         rw[w64_inc' (by omega)]
         simp only[Option.bind_some]
         obtain⟨r2,g1,g2⟩:=ih (k+1) (e':Int) (toF q) (by omega) (by omega) (by omega)
         refine⟨r2,g1,?_⟩
         rcases g2 with g2 | ⟨e,b,g3,g4⟩
         ·exact .inl g2
         ·refine .inr ⟨e,b,g3,fun hb=>?_⟩
          obtain⟨q',h1,h2⟩:=g4 hb
          obtain rfl:e'=q':=by omega
          exact⟨q,rfl,.kid hlt hv (by omega) (by omega) hks h2⟩
     ·rw[if_neg hv]; exact⟨_,rfl,.inl rfl⟩
    ·rw[if_neg (by omega)]
     refine⟨_,rfl,.inr ⟨next.toNat,a,?_,fun hb=>⟨next.toNat,by omega,.done (by omega) hb⟩⟩⟩
     rw[Int.toNat_of_nonneg (by omega)]
  show ∃ r,qb3_ (qe_ n) n Cur.x (i:Int)=some r∧_
  unfold qb3_ qcz_
  rw[if_pos (by omega)]
  simp only[Option.bind_some,Int.toNat_natCast]
  rw[w64_inc' (by have:=Cur.x.le; omega)]
  obtain⟨r,e1,e2⟩:=loop n 0 ((i+1:Nat):Int) (atF i) (Nat.zero_le _) (by omega) (by have:=hK i; omega)
  have e1:iterM (qh_ (qe_ n) n Cur.x (i:Int)) n (((i+1:Nat):Int),(Cur.x.l.getD i (0,0,0,0,0,0,nl0,0)).2.2.1,0)=some r:=e1
  rw[e1]
  rcases e2 with rfl | ⟨e,b,rfl,e3⟩
  ·exact⟨_,rfl,fun h=>absurd h (by decide)⟩
  ·change ∃ r,(if b > toF i then some (-1) else some (e:Int))=some r∧_
   by_cases hb:b > toF i
   ·rw[if_pos hb]; exact⟨_,rfl,fun h=>absurd h (by decide)⟩
   ·rw[if_neg hb]
    refine⟨_,rfl,fun _=>⟨e,rfl,?_⟩⟩
    obtain⟨q,h1,h2⟩:=e3 (by omega)
    obtain rfl:i+1=q:=by omega
    exact h2
end

section
variable [Cur]

structure SP (a1 a2 a3 a4 a5:Int) (len:Nat):Prop where
 k1:1≤a1
 k6:a1≤6
 a0:0≤a2
 at_:a2≤a4
 lk:a2<a5
 tok:(a1=3∨a1=5∨a1=6)→a2≤a3∧a3≤a4
 non:(a1=1∨a1=2∨a1=4)→a3=a2
 mis:a1=4→a2=a4
 leaf:a1 ≠ 1→a1 ≠ 2→len=0
theorem leaf_ok (n:Nat)(a:Int):ql_ n a=some (if a=1 then false else if a=2 then false else true):=by
 unfold ql_
 repeat' split
 all_goals rfl
theorem bare_ok' (n:Nat)(a0 a1 a2 a3 a4 a5:Int)(a6:NL)(a7:Int)(o:Option Bool)(h:qp_ n a0 a1 a2 a3 a4 a5 a6 a7=o):o=some false∨(o=some true∧SP a1 a2 a3 a4 a5 a6.l.length):=by
 unfold qp_ at h
 simp only[leaf_ok,Option.bind_some] at h
 have leaf:∀ o,(if (if a1=1 then false else if a1=2 then false else true)=true then if ((a6.l.length:Nat):Int)=0 then some true else some false else some true)=o→o=some false∨(o=some true∧(a1 ≠ 1→a1 ≠ 2→a6.l.length=0)):=by
  intro o h
  by_cases c1:a1=1
  ·rw[if_pos c1,if_neg (by decide)] at h
   exact .inr ⟨h.symm,fun h=>absurd c1 h⟩
  rw[if_neg c1] at h
  by_cases c2:a1=2
  ·rw[if_pos c2,if_neg (by decide)] at h
   exact .inr ⟨h.symm,fun _ h=>absurd c2 h⟩
  rw[if_neg c2,if_pos rfl] at h
  by_cases cl:((a6.l.length:Nat):Int)=0
  ·rw[if_pos cl] at h
   exact .inr ⟨h.symm,fun _ _=>by omega⟩
  ·rw[if_neg cl] at h
   exact .inl h.symm
 by_cases c1:a1<1
 ·rw[if_pos c1] at h; exact .inl h.symm
 rw[if_neg c1] at h
 by_cases c2:a1 > 6
 ·rw[if_pos c2] at h; exact .inl h.symm
 rw[if_neg c2] at h
 by_cases c3:a2<0
 ·rw[if_pos c3] at h; exact .inl h.symm
 rw[if_neg c3] at h
 by_cases c4:a2 > a4
 ·rw[if_pos c4] at h; exact .inl h.symm
 rw[if_neg c4] at h
 by_cases c5:a5≤a2
 ·rw[if_pos c5] at h; exact .inl h.symm
 rw[if_neg c5] at h
 have tok:∀ (g:Option Bool) (k:a1=3∨a1=5∨a1=6),(if a3<a2 then some false else if a3 > a4 then some false else if a1=4 then g else (if (if a1=1 then false else if a1=2 then false else true)=true then if ((a6.l.length:Nat):Int)=0 then some true else some false else some true))=o→o=some false∨(o=some true∧SP a1 a2 a3 a4 a5 a6.l.length):=by
  intro g k h
  by_cases d1:a3<a2
  ·rw[if_pos d1] at h; exact .inl h.symm
  rw[if_neg d1] at h
  by_cases d2:a3 > a4
  ·rw[if_pos d2] at h; exact .inl h.symm
  rw[if_neg d2,if_neg (by omega)] at h
  rcases leaf o h with h | ⟨h,hl⟩
  ·exact .inl h
  ·exact .inr ⟨h,by omega,by omega,by omega,by omega,by omega,fun _=>by omega,fun _=>by omega,fun _=>by omega,hl⟩
 by_cases k3:a1=3
 ·rw[if_pos k3] at h; exact tok _ (by omega) h
 rw[if_neg k3] at h
 by_cases k5:a1=5
 ·rw[if_pos k5] at h; exact tok _ (by omega) h
 rw[if_neg k5] at h
 by_cases k6:a1=6
 ·rw[if_pos k6] at h; exact tok _ (by omega) h
 rw[if_neg k6] at h
 by_cases d3:¬ a3=a2
 ·rw[if_neg d3] at h; exact .inl h.symm
 have d3:=Decidable.not_not.1 d3
 rw[if_pos d3] at h
 by_cases k4:a1=4
 ·rw[if_pos k4] at h
  by_cases d4:a2=a4
  ·rw[if_pos d4] at h
   rcases leaf o h with h | ⟨h,hl⟩
   ·exact .inl h
   ·exact .inr ⟨h,by omega,by omega,by omega,by omega,by omega,fun _=>by omega,fun _=>by omega,fun _=>by omega,hl⟩
  ·rw[if_neg d4] at h; exact .inl h.symm
 ·rw[if_neg k4] at h
  rcases leaf o h with h | ⟨h,hl⟩
  ·exact .inl h
  ·exact .inr ⟨h,by omega,by omega,by omega,by omega,by omega,fun _=>by omega,fun _=>by omega,fun _=>by omega,hl⟩
theorem bare_ok (n:Nat)(a0 a1 a2 a3 a4 a5:Int)(a6:NL)(a7:Int):∃ b,qp_ n a0 a1 a2 a3 a4 a5 a6 a7=some b∧(b=true→SP a1 a2 a3 a4 a5 a6.l.length):=by
 rcases bare_ok' n a0 a1 a2 a3 a4 a5 a6 a7 _ rfl with h | ⟨h,h2⟩
 ·exact⟨false,h,fun h=>by cases h⟩
 ·exact⟨true,h,fun _=>h2⟩
theorem sound_ok (n:Nat)(a0 a1 a2 a3 a4 a5:Int)(a6:NL)(a7:Int)(h:SP a1 a2 a3 a4 a5 a6.l.length):qhb_ n a0 a1 a2 a3 a4 a5 a6 a7=some true:=by
 obtain⟨h1,h2,h3,h4,h5,h6,h7,h8,h9⟩:=h
 unfold qhb_
 rw[if_neg (by omega),if_neg (by omega),if_neg (by omega)]
 by_cases c1:a1=1
 ·rw[if_pos c1,if_pos (h7 (by omega))]
 rw[if_neg c1]
 by_cases c2:a1=2
 ·rw[if_pos c2,if_pos (h7 (by omega))]
 rw[if_neg c2]
 have hl:=h9 c1 c2
 by_cases c4:a1=4
 ·have:=h8 c4
  rw[if_pos c4,if_pos (h7 (by omega)),if_pos (by omega),if_pos (by omega)]
 rw[if_neg c4]
 have ht:=h6 (by omega)
 by_cases c3:a1=3
 ·rw[if_pos c3,if_pos (by omega),if_pos (by omega),if_pos (by omega)]
 rw[if_neg c3]
 by_cases c5:a1=5
 ·rw[if_pos c5,if_pos (by omega),if_pos (by omega),if_pos (by omega)]
 rw[if_neg c5,if_pos (by omega),if_pos (by omega),if_pos (by omega),if_pos (by omega)]

def SPi (i:Nat):Prop:=SP (pt i).2.1 (pt i).2.2.1 (pt i).2.2.2.1 (pt i).2.2.2.2.1 (pt i).2.2.2.2.2.1 (kd i).length
structure Tree:Prop where
 pos:0<Cur.x.l.length
 max:Cur.x.l.length≤524288
 sp:∀ i,i<Cur.x.l.length→SPi i
 root:∀ i,0<i→i<Cur.x.l.length→(pt i).2.1 ≠ 1
 ks:Ks 0 0 1 (atF 0) Cur.x.l.length
theorem check1_ok {n:Nat}(hn:Cur.x.l.length<n)(hL:Cur.x.l.length≤1000000):∃ r,qdd_ n Cur.x 0=some r∧(r=.inr ()→∀ i,i<Cur.x.l.length→SPi i∧(0<i→(pt i).2.1 ≠ 1)):=by
 obtain⟨r,q1,q2⟩:=hoare (B:=qw_ n Cur.x) (σ:=Unit) (fun _ i=>i) (fun i _=>∀ j,j<i→SPi j∧(0<j→(pt j).2.1 ≠ 1)) (fun r=>r=.inr ()→∀ i,i<Cur.x.l.length→SPi i∧(0<i→(pt i).2.1 ≠ 1)) Cur.x.l.length
  (fun i s hi hI=>by
   obtain⟨b,e1,e2⟩:=bare_ok n (pt i).1 (pt i).2.1 (pt i).2.2.1 (pt i).2.2.2.1 (pt i).2.2.2.2.1 (pt i).2.2.2.2.2.1 (pt i).2.2.2.2.2.2.1 (pt i).2.2.2.2.2.2.2
   have hB:qw_ n Cur.x (i:Int)=((qp_ n (pt i).1 (pt i).2.1 (pt i).2.2.1 (pt i).2.2.2.1 (pt i).2.2.2.2.1 (pt i).2.2.2.2.2.1 (pt i).2.2.2.2.2.2.1 (pt i).2.2.2.2.2.2.2).bind fun y=>if y=true then (if (i:Int) > 0 then (if (pt i).2.1=1 then some (.inr (.inl ())) else some (.inl (w64 ((i:Int)+1)))) else some (.inl (w64 ((i:Int)+1)))) else some (.inr (.inl ()))):=by
    unfold qw_
    dsimp only
    rw[if_pos (by omega),if_pos (by omega)]
    simp only[Option.bind_some,Int.toNat_natCast]
    rfl
   rw[hB]
   rw[e1,w64_inc (by omega)]
   simp only[Option.bind_some]
   cases b with
   | false=>
    rw[if_neg (by decide)]
    exact .inr ⟨.inl (),(fun h=>by cases h),rfl⟩
   | true=>
    have hsp:SPi i:=e2 rfl
    rw[if_pos rfl]
    have go:(0<i→(pt i).2.1 ≠ 1)→∀ j,j<i+1→SPi j∧(0<j→(pt j).2.1 ≠ 1):=fun h j hj=>by
     rcases Nat.lt_or_ge j i with h1 | h1
     ·exact hI j h1
     ·obtain rfl:j=i:=by omega
      exact⟨hsp,h⟩
    by_cases c1:(i:Int) > 0
    ·rw[if_pos c1]
     by_cases c2:(pt i).2.1=1
     ·rw[if_pos c2]
      exact .inr ⟨.inl (),(fun h=>by cases h),rfl⟩
     ·rw[if_neg c2]
      exact .inl ⟨(),go fun _=>c2,rfl⟩
    ·rw[if_neg c1]
     exact .inl ⟨(),go fun h=>absurd h (by omega),rfl⟩)
  (fun s hI=>by
   unfold qw_
   dsimp only
   rw[if_neg (by omega)]
   exact⟨_,fun _=>hI,rfl⟩) n 0 () (Nat.zero_le _) (fun j hj=>absurd hj (Nat.not_lt_zero _)) (by omega)
 exact⟨r,q2,q1⟩
theorem refCheck_ok {n K:Nat}(hK:∀ j,(kd j).length≤K)(hn:Cur.x.l.length+K+20<n)(hL:Cur.x.l.length≤1000000):∃ c,q2_ n Cur.x=some c∧(c=0→Tree):=by
 unfold q2_
 by_cases c1:((Cur.x.l.length:Nat):Int) > 524288
 ·rw[if_pos c1]; exact⟨_,rfl,fun h=>absurd h (by decide)⟩
 rw[if_neg c1]
 obtain⟨r,e1,e2⟩:=check1_ok (n:=n) (by omega) hL
 rw[e1]
 rcases r with r | r
 ·exact⟨_,rfl,fun h=>absurd h (by decide)⟩
 ·dsimp only
  have e2:=e2 rfl
  by_cases c2:((Cur.x.l.length:Nat):Int)=0
  ·rw[if_pos c2]; exact⟨_,rfl,fun h=>absurd h (by decide)⟩
  rw[if_neg c2]
  obtain⟨q,g1,g2⟩:=end_ok n 0 K hK (by omega) (by omega)
  have g1:qe_ n Cur.x 0=some q:=g1
  rw[g1]
  simp only[Option.bind_some]
  by_cases c3:q=((Cur.x.l.length:Nat):Int)
  ·rw[if_pos c3]
   refine⟨_,rfl,fun _=>?_⟩
   obtain⟨e,h1,h2⟩:=g2 (by omega)
   obtain rfl:e=Cur.x.l.length:=by omega
   exact⟨by omega,by omega,fun i hi=>(e2 i hi).1,fun i h0 hi=>(e2 i hi).2 h0,h2⟩
  ·rw[if_neg c3]; exact⟨_,rfl,fun h=>absurd h (by decide)⟩
end

section
variable [Cur]

abbrev E3:=Int×Int×Int
abbrev OSt:=List E3×Nat×Int
def Rch (n:Nat)(x y:OSt)(m:Nat):Prop:=∀ f,iterM (qi_ n Cur.x.l Cur.x.l.length (Cur.x.l.length:Int)) (f+m) x=iterM (qi_ n Cur.x.l Cur.x.l.length (Cur.x.l.length:Int)) f y
theorem Rch.refl (n:Nat)(x:OSt):Rch n x x 0:=fun _=>rfl
theorem Rch.step {n:Nat}{x y z:OSt}{m:Nat}(h:qi_ n Cur.x.l Cur.x.l.length (Cur.x.l.length:Int) x=some (.inl y))(k:Rch n y z m):Rch n x z (m+1):=fun f=>by
 rw[←Nat.add_assoc,qbh_,h]
 exact k f
theorem Rch.trans {n:Nat}{x y z:OSt}{m k:Nat}(h:Rch n x y m)(j:Rch n y z k):Rch n x z (m+k):=fun f=>by
 have:=h (f+k)
 rw[show f+k+m=f+(m+k) by omega] at this
 rw[this,j f]
theorem take_last {S:List E3}{s:Nat}{R:List E3}{x:E3}(hs:s≤S.length)(h:S.take s=R ++ [x]):s=R.length+1∧S.getD R.length (0,0,0)=x∧S.take R.length=R:=by
 have hl:=congrArg List.length h
 rw[List.length_take,Nat.min_eq_left hs,List.length_append,List.length_singleton] at hl
 subst hl
 refine⟨rfl,?_,?_⟩
 ·have h2:(S.take (R.length+1))[R.length]?=(R ++ [x])[R.length]?:=by rw[h]
  rw[List.getElem?_take_of_lt (Nat.lt_succ_self _),List.getElem?_append_right (Nat.le_refl _),Nat.sub_self] at h2
  rw[List.getD_eq_getElem?_getD,h2]; rfl
 ·have h2:=congrArg (List.take R.length) h
  rw[List.take_take,Nat.min_eq_left (Nat.le_succ _),List.take_left] at h2
  exact h2
theorem take_set {S R:List E3}{y:E3}(hs:R.length<S.length)(h:S.take R.length=R):(S.set R.length y).take (R.length+1)=R ++ [y]:=by
 rw[List.take_add_one,List.take_set_of_le (Nat.le_refl _),h,List.getElem?_set_self hs]; rfl
theorem take_set0 {S R:List E3}{y:E3}(h:S.take R.length=R):(S.set R.length y).take R.length=R:=by
 rw[List.take_set_of_le (Nat.le_refl _),h]
theorem ne_cons {S:List E3}(h:0<S.length):∃ a t,S=a::t:=by
 cases S with
 | nil=>simp at h
 | cons a t=>exact⟨a,t,rfl⟩
theorem inB {n i p k s:Nat}{a:Int}{S R:List E3}(h0:0<i)(hi:i<Cur.x.l.length)(hL:Cur.x.l.length≤1000000)(hs:s≤S.length)(h:S.take s=R ++ [((p:Int),(k:Int),a)])(hp:p<Cur.x.l.length)(hk:k<(kd p).length)(hv:(kd p).getD k 0=(i:Int))(ha:a≤atF i)(ht:toF i≤toF p)(hR:R.length≤1000000) :
  ∃ S' s',qi_ n Cur.x.l Cur.x.l.length (Cur.x.l.length:Int) (S,s,(i:Int))=some (.inl (S',s',((i+1:Nat):Int)))∧s'≤S'.length∧0<S'.length∧S'.take s'=(if k+1<(kd p).length then R ++ [((p:Int),((k+1:Nat):Int),toF i)] else R)++(if 0<(kd i).length then [((i:Int),0,atF i)] else []):=by
 obtain⟨rfl,hx,hR0⟩:=take_last hs h
 have hkl:=kd_le p
 have hw:w64 (((R.length+1:Nat):Int)-1)=((R.length:Nat):Int):=by rw[w64_sm (by omega) (by omega)]; omega
 have hw2:w64 ((i:Int)+1)=((i+1:Nat):Int):=w64_inc (by omega)
 have hw3:w64 ((k:Int)+1)=((k+1:Nat):Int):=w64_inc' (by omega)
 obtain⟨b,T,rfl⟩:=ne_cons (S:=S) (by omega)
 have e1:qi_ n Cur.x.l Cur.x.l.length (Cur.x.l.length:Int) (b::T,R.length+1,(i:Int)) =
   (if (w64 ((k:Int)+1))=(((kd p).length:Nat):Int) then
    if (((kd i).length:Nat):Int) > 0 then
     if R.length≤((b::T).set R.length ((p:Int),w64 ((k:Int)+1),toF i)).length then
      if (R.length+1)*24≤140737488355328 then
       some (.inl (List.take R.length ((b::T).set R.length ((p:Int),w64 ((k:Int)+1),toF i)) ++ [((i:Int),0,atF i)],(List.take R.length ((b::T).set R.length ((p:Int),w64 ((k:Int)+1),toF i)) ++ [((i:Int),(0:Int),atF i)]).length,w64 ((i:Int)+1)))
      else none
     else none
    else some (.inl ((b::T).set R.length ((p:Int),w64 ((k:Int)+1),toF i),R.length,w64 ((i:Int)+1)))
   else
    if (((kd i).length:Nat):Int) > 0 then
     if R.length+1≤((b::T).set R.length ((p:Int),w64 ((k:Int)+1),toF i)).length then
      if (R.length+1+1)*24≤140737488355328 then
       some (.inl (List.take (R.length+1) ((b::T).set R.length ((p:Int),w64 ((k:Int)+1),toF i)) ++ [((i:Int),0,atF i)],(List.take (R.length+1) ((b::T).set R.length ((p:Int),w64 ((k:Int)+1),toF i)) ++ [((i:Int),(0:Int),atF i)]).length,w64 ((i:Int)+1)))
      else none
     else none
    else some (.inl ((b::T).set R.length ((p:Int),w64 ((k:Int)+1),toF i),R.length+1,w64 ((i:Int)+1)))):=by
  unfold qi_
  dsimp only
  rw[if_pos (by omega),if_pos (by omega),if_pos (by omega)]
  simp only[Option.bind_some,Int.toNat_natCast]
  rw[if_pos (by omega),if_neg (by omega),hw]
  simp only[Int.toNat_natCast]
  rw[if_pos (by omega),if_pos (by omega),hx]
  simp only[Option.bind_some,Int.toNat_natCast]
  rw[if_pos (by omega),if_pos (by omega)]
  have hk2:((0:Int)≤(k:Int)∧(k:Int)<(((Cur.x.l.getD p (0,0,0,0,0,0,nl0,0)).2.2.2.2.2.2.1.l.length:Nat):Int)):=⟨by omega,by have:k<(Cur.x.l.getD p (0,0,0,0,0,0,nl0,0)).2.2.2.2.2.2.1.l.length:=hk; omega⟩
  rw[if_pos hk2,if_pos (show k<(Cur.x.l.getD p (0,0,0,0,0,0,nl0,0)).2.2.2.2.2.2.1.l.length from hk)]
  have hv2:(Cur.x.l.getD p (0,0,0,0,0,0,nl0,0)).2.2.2.2.2.2.1.l.getD k 0=(i:Int):=hv
  rw[hv2]
  simp only[Option.bind_some]
  rw[if_pos trivial,if_neg (show ¬ (Cur.x.l.getD i (0,0,0,0,0,0,nl0,0)).2.2.1<a from fun h=>absurd (show atF i<a from h) (by omega)),if_neg (show ¬ (Cur.x.l.getD i (0,0,0,0,0,0,nl0,0)).2.2.2.2.1 > (Cur.x.l.getD p (0,0,0,0,0,0,nl0,0)).2.2.2.2.1 from fun h=>absurd (show toF i > toF p from h) (by omega)),if_pos (show (0:Int)≤((R.length:Nat):Int)∧((R.length:Nat):Int)≤((R.length+1:Nat):Int) by omega)]
  rfl
 rw[e1,hw2,hw3]
 by_cases c1:((k+1:Nat):Int)=(((kd p).length:Nat):Int)
 ·rw[if_pos c1,if_neg (show ¬ k+1<(kd p).length by omega)]
  have ht0:=take_set0 (y:=((p:Int),((k+1:Nat):Int),toF i)) hR0
  by_cases c2:(((kd i).length:Nat):Int) > 0
  ·rw[if_pos c2,if_pos (show 0<(kd i).length by omega),if_pos (by rw[List.length_set]; omega),if_pos (by omega),ht0]
   exact⟨_,_,rfl,Nat.le_refl _,by simp,by rw[List.take_length]⟩
  ·rw[if_neg c2,if_neg (show ¬ 0<(kd i).length by omega),List.append_nil]
   exact⟨_,_,rfl,by rw[List.length_set]; omega,by rw[List.length_set]; omega,ht0⟩
 ·rw[if_neg c1,if_pos (show k+1<(kd p).length by omega)]
  have ht1:=take_set (y:=((p:Int),((k+1:Nat):Int),toF i)) (by omega) hR0
  by_cases c2:(((kd i).length:Nat):Int) > 0
  ·rw[if_pos c2,if_pos (show 0<(kd i).length by omega),if_pos (by rw[List.length_set]; omega),if_pos (by omega),ht1]
   exact⟨_,_,rfl,Nat.le_refl _,by simp,by rw[List.take_length]⟩
  ·rw[if_neg c2,if_neg (show ¬ 0<(kd i).length by omega),List.append_nil]
   exact⟨_,_,rfl,by rw[List.length_set]; omega,by rw[List.length_set]; omega,ht1⟩
theorem Ks.sim {n i k next e:Nat}{a:Int}(h:Ks i k next a e)(hL:Cur.x.l.length≤1000000)(hs:∀ j,j<Cur.x.l.length→atF j≤toF j):i<next→i<Cur.x.l.length→∀ (S:List E3) (s:Nat) (R:List E3),R.length+1≤next→0<S.length→s≤S.length→S.take s=(if k<(kd i).length then R ++ [((i:Int),(k:Int),a)] else R) →
  ∃ S' s',s'≤S'.length∧0<S'.length∧S'.take s'=R∧Rch n (S,s,(next:Int)) (S',s',(e:Int)) (e-next):=by
 induction h with
 | @done i k next a hk ha=>
  intro _ hi S s R hR h0 hs h
  rw[if_neg (by omega)] at h
  exact⟨S,s,hs,h0,h,by rw[Nat.sub_self]; exact Rch.refl n _⟩
 | @kid i k next e' e a hk hv hn ha h1 h2 ih1 ih2=>
  intro hin hi S s R hR h0 hs' h
  rw[if_pos hk] at h
  have l1:=h1.lt
  have l2:=h2.lt
  have hm:=h2.mono hs
  obtain⟨S1,s1,b1,b2,b3,b4⟩:=inB (n:=n) (by omega) hn hL hs' h hi hk hv ha hm (by omega)
  obtain⟨S2,s2,c1,c2,c3,c4⟩:=ih1 (by omega) hn S1 s1 (if k+1<(kd i).length then R ++ [((i:Int),((k+1:Nat):Int),toF next)] else R) (by split<;>simp<;>omega) b3 b2 (by
   rw[b4]
   by_cases hz:0<(kd next).length
   ·rw[if_pos hz,if_pos hz]; rfl
   ·rw[if_neg hz,if_neg hz,List.append_nil])
  obtain⟨S3,s3,d1,d2,d3,d4⟩:=ih2 (by omega) hi S2 s2 R (by omega) c2 c1 c3
  refine⟨S3,s3,d1,d2,d3,?_⟩
  have:=(Rch.step b1 c4).trans d4
  rwa [show e' - (next+1)+1+(e-e')=e-next by omega] at this
theorem inOrder_ok {n:Nat}(hT:Tree)(hn:Cur.x.l.length<n):qgq_ n Cur.x.l Cur.x.l.length=some true:=by
 have hL:Cur.x.l.length≤1000000:=by have:=hT.max; omega
 have hs:∀ j,j<Cur.x.l.length→atF j≤toF j:=fun j hj=>(hT.sp j hj).at_
 have hpos:=hT.pos
 have hw:w64 ((0:Int)+1)=((0+1:Nat):Int):=by decide
 unfold qgq_ qgy_
 obtain⟨m,rfl⟩:∃ m,n=m+1:=⟨n-1,by omega⟩
 rw[qbh_]
 have hB0:qi_ (m+1) Cur.x.l Cur.x.l.length (Cur.x.l.length:Int) ([],0,0)=if (((kd 0).length:Nat):Int) > 0 then some (.inl ([(0,0,atF 0)],1,w64 ((0:Int)+1))) else some (.inl ([],0,w64 ((0:Int)+1))):=by
  unfold qi_
  dsimp only
  rw[if_pos (by omega),if_pos (by omega),if_pos (show (0:Int).toNat<Cur.x.l.length from hpos)]
  simp only[Option.bind_some]
  rw[if_neg (by omega)]
  rfl
 rw[hB0,hw]
 by_cases hz:0<(kd 0).length
 ·rw[if_pos (by omega)]
  simp only[Option.bind_some]
  obtain⟨S,s,h1,h2,h3,h4⟩:=hT.ks.sim (n:=m+1) hL hs (by omega) hpos [(0,0,atF 0)] 1 [] (by simp) (by simp) (by simp) (by rw[if_pos hz]; rfl)
  have h4:=h4 (m-(Cur.x.l.length-1))
  rw[show m-(Cur.x.l.length-1)+(Cur.x.l.length-(0+1))=m by omega] at h4
  have h4:iterM (qi_ (m+1) Cur.x.l Cur.x.l.length (Cur.x.l.length:Int)) m ([(0,0,atF 0)],1,((0+1:Nat):Int))=_:=h4
  rw[h4]
  obtain⟨q,hq⟩:∃ q,m-(Cur.x.l.length-1)=q+1:=⟨m-(Cur.x.l.length-1)-1,by omega⟩
  rw[hq,qbh_]
  have hs0:s=0:=by
   have:=congrArg List.length h3
   rw[List.length_take,List.length_nil] at this
   omega
  subst hs0
  obtain⟨b,T,rfl⟩:=ne_cons h2
  have:qi_ (m+1) Cur.x.l Cur.x.l.length (Cur.x.l.length:Int) (b::T,0,(Cur.x.l.length:Int))=some (.inr (.inr (b::T,0))):=by
   unfold qi_
   dsimp only
   rw[if_neg (by omega)]
  rw[this]
  rfl
 ·rw[if_neg (by omega)]
  simp only[Option.bind_some]
  have h1:Cur.x.l.length=1:=by
   have hh:=hT.ks
   generalize Cur.x.l.length=N at hh
   cases hh with
   | done=>rfl
   | kid hk=>omega
  obtain⟨q,rfl⟩:∃ q,m=q+1:=⟨m-1,by omega⟩
  rw[qbh_]
  have:qi_ (q+1+1) Cur.x.l Cur.x.l.length (Cur.x.l.length:Int) ([],0,((0+1:Nat):Int))=some (.inr (.inr ([],0))):=by
   unfold qi_
   dsimp only
   rw[if_neg (by omega)]
  rw[this]
  rfl
theorem check_ok {n:Nat}(hT:Tree)(hn:Cur.x.l.length<n):qff_ n Cur.x.l Cur.x.l.length=some 0:=by
 have hpos:=hT.pos
 have hmax:=hT.max
 unfold qff_
 rw[if_neg (by omega),if_neg (by omega),inOrder_ok hT hn]
 simp only[Option.bind_some]
 rw[if_pos trivial]
 obtain⟨r,rfl,q2⟩:=hoare (B:=qdk_ n Cur.x.l Cur.x.l.length (Cur.x.l.length:Int)) (σ:=Unit) (fun _ i=>i) (fun i _=>True) (fun r=>r=.inr ()) Cur.x.l.length
  (fun i s hi hI=>by
   have hsp:=sound_ok n (pt i).1 (pt i).2.1 (pt i).2.2.1 (pt i).2.2.2.1 (pt i).2.2.2.2.1 (pt i).2.2.2.2.2.1 (pt i).2.2.2.2.2.2.1 (pt i).2.2.2.2.2.2.2 (hT.sp i hi)
   have hB:qdk_ n Cur.x.l Cur.x.l.length (Cur.x.l.length:Int) (i:Int)=((qhb_ n (pt i).1 (pt i).2.1 (pt i).2.2.1 (pt i).2.2.2.1 (pt i).2.2.2.2.1 (pt i).2.2.2.2.2.1 (pt i).2.2.2.2.2.2.1 (pt i).2.2.2.2.2.2.2).bind fun y=>if y=true then (if (pt i).2.1=1 then (if (i:Int) > 0 then some (.inr (.inl ())) else some (.inl (w64 ((i:Int)+1)))) else some (.inl (w64 ((i:Int)+1)))) else some (.inr (.inl ()))):=by
    unfold qdk_
    dsimp only
    rw[if_pos (by omega),if_pos (by omega),if_pos (by omega)]
    simp only[Option.bind_some,Int.toNat_natCast]
    rfl
   rw[hB,hsp,w64_inc (by omega)]
   simp only[Option.bind_some]
   rw[if_pos trivial]
   by_cases c1:(pt i).2.1=1
   ·rw[if_pos c1,if_neg (show ¬ (i:Int) > 0 from fun h=>hT.root i (by omega) hi c1)]
    exact .inl ⟨(),trivial,rfl⟩
   ·rw[if_neg c1]
    exact .inl ⟨(),trivial,rfl⟩)
  (fun s hI=>by
   unfold qdk_
   dsimp only
   rw[if_neg (by omega)]
   exact⟨_,rfl,rfl⟩) n 0 () (Nat.zero_le _) trivial (by omega)
 have q2:qik_ n Cur.x.l Cur.x.l.length (Cur.x.l.length:Int) 0=some (.inr ()):=q2
 rw[q2]
end

section
variable [Cur]

theorem Ks.run {K i k next e:Nat}{a:Int}(hK:∀ j,(kd j).length≤K)(h:Ks i k next a e):i<next→i<Cur.x.l.length→∀ n f,Cur.x.l.length-i+K+9<n→(kd i).length-k<f→∃ b,b≤toF i∧iterM (qh_ (qe_ n) n Cur.x (i:Int)) f ((next:Int),a,(k:Int))=some (.inr ((e:Int),b)):=by
 induction h with
 | @done i k next a hk ha=>
  intro hin hi n f hn hf
  obtain⟨f,rfl⟩:∃ g,f=g+1:=⟨f-1,by omega⟩
  refine⟨a,ha,?_⟩
  rw[qbh_]
  unfold qh_
  dsimp only
  rw[if_pos (by omega)]
  simp only[Option.bind_some,Int.toNat_natCast]
  rw[if_neg (show ¬ (k:Int)<((((Cur.x.l.getD i (0,0,0,0,0,0,nl0,0)).2.2.2.2.2.2.1.l.length:Nat)):Int) from fun hc=>absurd (show k<(kd i).length from Int.ofNat_lt.1 hc) (by omega))]
  rfl
 | @kid i k next e' e a hk hv hn' ha h1 h2 ih1 ih2=>
  intro hin hi n f hn hf
  obtain⟨f,rfl⟩:∃ g,f=g+1:=⟨f-1,by omega⟩
  have hkl:=kd_le i
  have l1:=h1.lt
  obtain⟨m,rfl⟩:∃ m,n=m+1:=⟨n-1,by omega⟩
  obtain⟨b1,hb1,e1⟩:=ih1 (by omega) hn' m m (by omega) (by have:=hK next; omega)
  have hrec:qe_ (m+1) Cur.x (next:Int)=some (e':Int):=by
   show qb3_ (qe_ m) m Cur.x (next:Int)=_
   unfold qb3_ qcz_
   rw[if_pos (by omega)]
   simp only[Option.bind_some,Int.toNat_natCast]
   rw[w64_inc' (by have:=Cur.x.le; omega)]
   have e1:iterM (qh_ (qe_ m) m Cur.x (next:Int)) m (((next+1:Nat):Int),(Cur.x.l.getD next (0,0,0,0,0,0,nl0,0)).2.2.1,0)=some (.inr ((e':Int),b1)):=e1
   rw[e1]
   dsimp only
   rw[if_neg (show ¬ b1 > (Cur.x.l.getD next (0,0,0,0,0,0,nl0,0)).2.2.2.2.1 from fun hc=>absurd (show b1 > toF next from hc) (by omega))]
  obtain⟨b,hb,e2⟩:=ih2 (by omega) hi (m+1) f hn (by omega)
  refine⟨b,hb,?_⟩
  rw[qbh_]
  have hB:qh_ (qe_ (m+1)) (m+1) Cur.x (i:Int) ((next:Int),a,(k:Int))=some (.inl ((e':Int),toF next,((k+1:Nat):Int))):=by
   unfold qh_
   dsimp only
   rw[if_pos (by omega)]
   simp only[Option.bind_some,Int.toNat_natCast]
   rw[if_pos (show (k:Int)<((((Cur.x.l.getD i (0,0,0,0,0,0,nl0,0)).2.2.2.2.2.2.1.l.length:Nat)):Int) from Int.ofNat_lt.2 hk),if_pos (show (0:Int)≤(k:Int)∧(k:Int)<((((Cur.x.l.getD i (0,0,0,0,0,0,nl0,0)).2.2.2.2.2.2.1.l.length:Nat)):Int) from⟨Int.natCast_nonneg _,Int.ofNat_lt.2 hk⟩),if_pos (show k<(Cur.x.l.getD i (0,0,0,0,0,0,nl0,0)).2.2.2.2.2.2.1.l.length from hk),if_pos (show (Cur.x.l.getD i (0,0,0,0,0,0,nl0,0)).2.2.2.2.2.2.1.l.getD k 0=(next:Int) from hv),if_neg (by omega),if_pos (by omega),if_neg (show ¬ (Cur.x.l.getD next (0,0,0,0,0,0,nl0,0)).2.2.1<a from fun hc=>absurd (show atF next<a from hc) (by omega)),hrec]
   simp only[Option.bind_some]
   rw[if_neg (by omega),w64_inc' (by omega)]
   rfl
  rw[hB]
  exact e2
theorem Tree.end (hT:Tree){i:Nat}(hi:i<Cur.x.l.length):∃ e,Ks i 0 (i+1) (atF i) e∧i<e∧e≤Cur.x.l.length:=by
 rcases Nat.eq_zero_or_pos i with rfl | h0
 ·exact⟨_,hT.ks,hi,Nat.le_refl _⟩
 ·obtain⟨f,h1,h⟩:=hT.ks.cover i (by omega) hi
  have:=h.lt
  exact⟨f,h,by omega,h1⟩
theorem Tree.kid (hT:Tree){i q:Nat}(hi:i<Cur.x.l.length)(hq:q<(kd i).length):∃ c:Nat,(kd i).getD q 0=(c:Int)∧i<c∧c<Cur.x.l.length:=by
 obtain⟨f,h,_⟩:=hT.end hi
 obtain⟨c,h1,h2,h3,h4⟩:=h.kids q (Nat.zero_le _) hq
 exact⟨c,h1,by omega,h4⟩
theorem Ks.none {i next e:Nat}{a:Int}(h:Ks i 0 next a e)(h0:(kd i).length=0):e=next:=by
 cases h with
 | done _ _=>rfl
 | kid hk=>omega
end

section
variable [Cur]

def metF (i:Nat):Int:=(pt i).2.2.2.2.2.2.2
theorem qwj_ {L:List Bool}{i j:Nat}{x:Bool}(h:i<L.length):(L.set i x).getD j false=if j=i then x else L.getD j false:=qlp_ h
def anyK (S:List Bool)(ks:List Int):Bool:=ks.any fun k=>S.getD k.toNat false
def stepS (S:List Bool)(i:Nat):List Bool:=S.set i (decide (metF i ≠ 0)||anyK S (kd i))
theorem stepS_len {S:List Bool}{i:Nat}:(stepS S i).length=S.length:=by unfold stepS; rw[List.length_set]
def stN:Nat→List Bool
 | 0=>List.replicate Cur.x.l.length false
 | m+1=>stepS (stN m) (Cur.x.l.length-(m+1))
theorem qrk_:∀ m,(stN m).length=Cur.x.l.length
 | 0=>by unfold stN; rw[List.length_replicate]
 | m+1=>by
  show (stepS (stN m) _).length=_
  rw[stepS_len,qrk_ m]
def stL:List Bool:=stN Cur.x.l.length
theorem kid_mem (hT:Tree){i:Nat}(hi:i<Cur.x.l.length):∀ k∈kd i,∃ c:Nat,k=c∧i<c∧c<Cur.x.l.length:=fun k hk=>by
 obtain⟨q,hq,rfl⟩:=qlo_ 0 hk
 obtain⟨c,h1,h2,h3⟩:=hT.kid hi hq
 exact⟨c,h1,h2,h3⟩
theorem take_snocI {L:List Int}{q:Nat}(h:q<L.length):L.take (q+1)=L.take q ++ [L.getD q 0]:=by
 rw[List.take_add_one,List.getElem?_eq_getElem h,List.getD_eq_getElem?_getD,List.getElem?_eq_getElem h]; rfl
theorem prgAny {n i:Nat}{S:List Bool}(hT:Tree)(hi:i<Cur.x.l.length)(hn:(kd i).length<n)(hS:S.length=Cur.x.l.length):qbi_ n (pt i).2.2.2.2.2.2.1 S Cur.x.l.length Cur.x.l.length=some (anyK S (kd i)):=by
 have hkl:=kd_le i
 obtain⟨r,q1,h⟩:=hoare (B:=qm_ n S Cur.x.l.length Cur.x.l.length (pt i).2.2.2.2.2.2.1 ((kd i).length:Int)) (σ:=Unit) (fun _ q=>q) (fun q _=>anyK S ((kd i).take q)=false) (fun r=>(∃ q:Nat,r=.inl (q:Int)∧anyK S (kd i)=true)∨(r=.inr ()∧anyK S (kd i)=false)) (kd i).length
  (fun q s hq hI=>by
   obtain⟨c,h1,h2,h3⟩:=hT.kid hi hq
   have hB:qm_ n S Cur.x.l.length Cur.x.l.length (pt i).2.2.2.2.2.2.1 ((kd i).length:Int) (q:Int)=(some ((kd i).getD q 0)).bind fun y=>(qh0_ n y S Cur.x.l.length Cur.x.l.length).bind fun z=>if z=true then some (.inr (.inl (q:Int))) else some (.inl (w64 ((q:Int)+1))):=by
    unfold qm_
    dsimp only
    rw[if_pos (by omega),if_pos (show (0:Int)≤(q:Int)∧(q:Int)<(((pt i).2.2.2.2.2.2.1.l.length:Nat):Int) from⟨Int.natCast_nonneg _,Int.ofNat_lt.2 hq⟩),if_pos (show ((q:Int)).toNat<(pt i).2.2.2.2.2.2.1.l.length from by rw[Int.toNat_natCast]; exact hq)]
    simp only[Int.toNat_natCast]
    rfl
   have hany:anyK S ((kd i).take (q+1))=(anyK S ((kd i).take q)||S.getD c false):=by
    rw[take_snocI hq,h1]
    unfold anyK
    rw[List.any_append]
    simp
   rw[hB,h1]
   unfold qh0_
   simp only[Option.bind_some]
   rw[if_pos (by omega)]
   simp only[Int.toNat_natCast]
   rw[if_pos (by omega)]
   simp only[Option.bind_some]
   by_cases hb:S.getD c false=true
   ·rw[if_pos hb]
    refine .inr ⟨_,.inl ⟨q,rfl,?_⟩,rfl⟩
    unfold anyK
    rw[List.any_eq_true]
    exact⟨(c:Int),by rw[←h1]; exact qtr_ hq,by rw[Int.toNat_natCast]; exact hb⟩
   ·rw[if_neg hb,w64_inc' (by omega)]
    refine .inl ⟨(),?_,rfl⟩
    rw[hany,hI,Bool.eq_false_iff.2 hb]; rfl)
  (fun s hI=>by
   unfold qm_
   dsimp only
   rw[if_neg (by omega)]
   rw[List.take_length] at hI
   exact⟨_,.inr ⟨rfl,hI⟩,rfl⟩) n 0 () (Nat.zero_le _) (by show anyK S []=false; rfl) (by omega)
 have h:qco_ n S Cur.x.l.length Cur.x.l.length (pt i).2.2.2.2.2.2.1 (((pt i).2.2.2.2.2.2.1.l.length:Nat):Int) 0=some r:=h
 unfold qbi_ qc5_
 rw[h]
 rcases q1 with⟨q,rfl,h2⟩ | ⟨rfl,h2⟩
 ·simp only[Option.bind_some]
  rw[if_pos (by omega),h2]
 ·simp only[Option.bind_some]
  rw[if_neg (by decide),h2]
theorem prgStale {n K:Nat}(hT:Tree)(hK:∀ j,(kd j).length≤K)(hn:Cur.x.l.length+K+2<n):qi4_ n Cur.x.l Cur.x.l.length=some stL:=by
 have hmax:=hT.max
 have hpos:=hT.pos
 have loop:∀ (f m:Nat),m≤Cur.x.l.length→Cur.x.l.length-m<f→iterM (qg_ n Cur.x.l.length Cur.x.l.length Cur.x.l Cur.x.l.length) f (stN m,((Cur.x.l.length:Nat):Int)-(m:Int)-1)=some stL:=by
  intro f
  induction f with
  | zero=>intro m _ h; exact absurd h (Nat.not_lt_zero _)
  | succ f ih=>
   intro m hm hf
   rw[qbh_]
   by_cases hlt:m<Cur.x.l.length
   ·obtain⟨i,hi⟩:∃ i:Nat,i=Cur.x.l.length-(m+1):=⟨_,rfl⟩
    have e1:((Cur.x.l.length:Nat):Int)-(m:Int)-1=(i:Int):=by omega
    have e2:w64 ((i:Int)-1)=((Cur.x.l.length:Nat):Int)-((m+1:Nat):Int)-1:=by rw[w64_sm (by omega) (by omega)]; omega
    rw[e1]
    have hB:qg_ n Cur.x.l.length Cur.x.l.length Cur.x.l Cur.x.l.length (stN m,(i:Int))=some (.inl (stN (m+1),((Cur.x.l.length:Nat):Int)-((m+1:Nat):Int)-1)):=by
     have h2:=prgAny (n:=n) (i:=i) (S:=stN m) hT (by omega) (by have:=hK i; omega) (qrk_ m)
     have e3:stN (m+1)=(stN m).set i (decide (metF i ≠ 0)||anyK (stN m) (kd i)):=by
      show stepS (stN m) (Cur.x.l.length-(m+1))=_
      rw[←hi]; rfl
     rw[e3]
     have hBB:qg_ n Cur.x.l.length Cur.x.l.length Cur.x.l Cur.x.l.length (stN m,(i:Int))=(qdp_ n (stN m) Cur.x.l.length Cur.x.l.length Cur.x.l Cur.x.l.length (i:Int) (pt i).1 (pt i).2.1 (pt i).2.2.1 (pt i).2.2.2.1 (pt i).2.2.2.2.1 (pt i).2.2.2.2.2.1 (pt i).2.2.2.2.2.2.1 (metF i)).bind fun y=>some (.inl (y,w64 ((i:Int)-1))):=by
      unfold qg_
      dsimp only
      rw[if_pos (by omega),if_pos (by omega),if_pos (by omega)]
      simp only[Option.bind_some,Int.toNat_natCast]
      rfl
     rw[hBB,e2]
     unfold qdp_
     by_cases hm0:metF i=0
     ·rw[if_pos hm0,h2]
      simp only[Option.bind_some]
      rw[if_pos (by omega),if_pos (by rw[qrk_]; omega),show decide (metF i ≠ 0)=false by simp[hm0],Bool.false_or,Int.toNat_natCast]
      rfl
     ·rw[if_neg hm0,if_pos (by omega),if_pos (by rw[qrk_]; omega),show decide (metF i ≠ 0)=true by simp[hm0],Bool.true_or,Int.toNat_natCast]
      rfl
    rw[hB]
    exact ih (m+1) (by omega) (by omega)
   ·obtain rfl:m=Cur.x.l.length:=by omega
    unfold qg_
    dsimp only
    rw[if_neg (by omega)]
    rfl
 unfold qi4_ qc4_ qcw_
 rw[check_ok hT (by omega)]
 simp only[Option.bind_some]
 rw[if_pos trivial,if_pos (by omega)]
 simp only[Int.toNat_natCast]
 rw[if_pos (by omega),w64_sm (by omega) (by omega)]
 have h:=loop n 0 (Nat.zero_le _) (by omega)
 rw[show ((Cur.x.l.length:Nat):Int)-((0:Nat):Int)-1=((Cur.x.l.length:Nat):Int)-1 by omega] at h
 have h:qdq_ n Cur.x.l.length Cur.x.l.length Cur.x.l Cur.x.l.length (List.replicate Cur.x.l.length false,((Cur.x.l.length:Nat):Int)-1)=some stL:=h
 rw[h]
 rfl
def inn (j:Nat):Bool:=decide ((pt j).2.1=1∨(pt j).2.1=2)
def lfs:Nat→Nat→List Int
 | _,0=>[]
 | a,n+1=>(if inn a=true then [] else [(a:Int)])++lfs (a+1) n
theorem qts_:∀ (n m a:Nat),lfs a (n+m)=lfs a n++lfs (a+n) m
 | 0,m,a=>by rw[Nat.zero_add]; rfl
 | n+1,m,a=>by
  rw[show n+1+m=(n+m)+1 by omega]
  show _++lfs (a+1) (n+m)=(_++lfs (a+1) n)++lfs (a+(n+1)) m
  rw[qts_ n m (a+1),List.append_assoc,show a+1+n=a+(n+1) by omega]
theorem qqc_:∀ (n a:Nat),(lfs a n).length≤n
 | 0,a=>Nat.le_refl _
 | n+1,a=>by
  have:=qqc_ n (a+1)
  show (_++lfs (a+1) n).length≤_
  rw[List.length_append]
  split<;>simp<;>omega
theorem inner_ok (n j:Nat):qd0_ n (pt j).1 (pt j).2.1 (pt j).2.2.1 (pt j).2.2.2.1 (pt j).2.2.2.2.1 (pt j).2.2.2.2.2.1 (pt j).2.2.2.2.2.2.1 (pt j).2.2.2.2.2.2.2=some (inn j):=by
 unfold qd0_ inn
 by_cases c1:(pt j).2.1=1
 ·rw[if_pos c1]; simp[c1]
 ·rw[if_neg c1]
  by_cases c2:(pt j).2.1=2
  ·rw[if_pos c2]; simp[c2]
  ·rw[if_neg c2]; simp[c1,c2]
theorem leaf1 {n j y:Nat}{z:Int}(hj:j<Cur.x.l.length):qda_ n Cur.x.l Cur.x.l.length y z (j:Int)=some (lfs j 1):=by
 unfold qda_
 rw[if_pos (by omega),Int.toNat_natCast,if_pos hj]
 show ((some (pt j)).bind _)=_
 dsimp only[Option.bind_some]
 rw[inner_ok]
 dsimp only[Option.bind_some]
 show _=some ((if inn j=true then [] else [(j:Int)]) ++ [])
 by_cases c:inn j=true
 ·rw[if_pos c,if_pos c]; rfl
 ·rw[if_neg c,if_neg c]; rfl
theorem leaf2 {n j y:Nat}{z:Int}{L:List Int}(hj:j<Cur.x.l.length)(hL:L.length≤1000000):qdb_ n Cur.x.l Cur.x.l.length L y z (j:Int)=some (L++lfs j 1):=by
 unfold qdb_
 rw[if_pos (by omega),Int.toNat_natCast,if_pos hj]
 show ((some (pt j)).bind _)=_
 dsimp only[Option.bind_some]
 rw[inner_ok]
 dsimp only[Option.bind_some]
 show _=some (L++((if inn j=true then [] else [(j:Int)]) ++ []))
 by_cases c:inn j=true
 ·rw[if_pos c,if_pos c]; simp
 ·rw[if_neg c,if_neg c,if_pos (by omega)]; simp
theorem Ks.lv2 {K i k next e y:Nat}{a z:Int}(hA:Cur.x.l.length≤1000000)(hK:∀ j,(kd j).length≤K)(h:Ks i k next a e):i<next→i<Cur.x.l.length→∀ n f (L:List Int),L.length≤next→Cur.x.l.length-i+K+9<n→(kd i).length-k<f→iterM (qcd_ (qcl_ n) n Cur.x.l Cur.x.l.length y z Cur.x.l.length (pt i).2.2.2.2.2.2.1 ((kd i).length:Int)) f (L,(k:Int))=some (L++lfs next (e-next)):=by
 induction h with
 | @done i k next a hk ha=>
  intro hin hi n f L hL hn hf
  obtain⟨f,rfl⟩:∃ g,f=g+1:=⟨f-1,by omega⟩
  rw[qbh_,Nat.sub_self]
  unfold qcd_
  dsimp only
  rw[if_neg (by omega)]
  show some L=some (L ++ [])
  rw[List.append_nil]
 | @kid i k next e' e a hk hv hn' ha h1 h2 ih1 ih2=>
  intro hin hi n f L hL hn hf
  obtain⟨f,rfl⟩:∃ g,f=g+1:=⟨f-1,by omega⟩
  have hkl:=kd_le i
  have hKn:=hK next
  have l1:=h1.lt
  have l2:=h2.lt
  obtain⟨m,rfl⟩:∃ m,n=m+1:=⟨n-1,by omega⟩
  have hl1:(L++lfs next 1).length≤next+1:=by rw[List.length_append]; have:=qqc_ 1 next; omega
  have e1:=ih1 (by omega) hn' m m (L++lfs next 1) hl1 (by omega) (by omega)
  have hrec:qcl_ (m+1) Cur.x.l Cur.x.l.length (next:Int) Cur.x.l.length L y z=some (L++lfs next (e' - next)):=by
   show qfi_ (qcl_ m) m Cur.x.l Cur.x.l.length (next:Int) Cur.x.l.length L y z=_
   unfold qfi_ qil_
   rw[leaf2 hn' (by omega)]
   dsimp only[Option.bind_some]
   rw[if_pos (by omega),Int.toNat_natCast,if_pos hn']
   show ((iterM (qcd_ (qcl_ m) m Cur.x.l Cur.x.l.length y z Cur.x.l.length (pt next).2.2.2.2.2.2.1 ((kd next).length:Int)) m (L++lfs next 1,((0:Nat):Int))).bind _)=_
   rw[e1]
   dsimp only[Option.bind_some]
   rw[List.append_assoc,←qts_ 1 (e' - (next+1)) next,show 1+(e' - (next+1))=e' - next by omega]
  have hB:qcd_ (qcl_ (m+1)) (m+1) Cur.x.l Cur.x.l.length y z Cur.x.l.length (pt i).2.2.2.2.2.2.1 ((kd i).length:Int) (L,(k:Int))=some (.inl (L++lfs next (e' - next),((k+1:Nat):Int))):=by
   unfold qcd_
   dsimp only
   rw[if_pos (by omega)]
   show (if 0≤(k:Int)∧(k:Int)<((kd i).length:Int) then (if (k:Int).toNat<(kd i).length then (some ((kd i).getD (k:Int).toNat 0)).bind _ else _) else _)=_
   rw[if_pos (by omega),Int.toNat_natCast,if_pos hk,hv]
   dsimp only[Option.bind_some]
   rw[hrec,w64_inc' (by omega)]
   rfl
  rw[qbh_,hB]
  have hl2:(L++lfs next (e' - next)).length≤e':=by rw[List.length_append]; have:=qqc_ (e' - next) next; omega
  have g:=ih2 (by omega) hi (m+1) f _ hl2 hn (by omega)
  show iterM _ f (L++lfs next (e' - next),((k+1:Nat):Int))=_
  rw[g,List.append_assoc,show e-next=(e' - next)+(e-e') by omega,qts_,show next+(e' - next)=e' by omega]
theorem vis2 {K n j e y:Nat}{z:Int}{L:List Int}(hA:Cur.x.l.length≤1000000)(hK:∀ j,(kd j).length≤K)(hj:j<Cur.x.l.length)(h:Ks j 0 (j+1) (atF j) e)(hL:L.length≤j)(hn:Cur.x.l.length+K+12<n):qcl_ n Cur.x.l Cur.x.l.length (j:Int) Cur.x.l.length L y z=some (L++lfs j (e-j)):=by
 have l1:=h.lt
 have hKj:=hK j
 obtain⟨m,rfl⟩:∃ m,n=m+1:=⟨n-1,by omega⟩
 have hl1:(L++lfs j 1).length≤j+1:=by rw[List.length_append]; have:=qqc_ 1 j; omega
 have e1:=h.lv2 (y:=y) (z:=z) hA hK (by omega) hj m m (L++lfs j 1) hl1 (by omega) (by omega)
 show qfi_ (qcl_ m) m Cur.x.l Cur.x.l.length (j:Int) Cur.x.l.length L y z=_
 unfold qfi_ qil_
 rw[leaf2 hj (by omega)]
 dsimp only[Option.bind_some]
 rw[if_pos (by omega),Int.toNat_natCast,if_pos hj]
 show ((iterM (qcd_ (qcl_ m) m Cur.x.l Cur.x.l.length y z Cur.x.l.length (pt j).2.2.2.2.2.2.1 ((kd j).length:Int)) m (L++lfs j 1,((0:Nat):Int))).bind _)=_
 rw[e1]
 dsimp only[Option.bind_some]
 rw[List.append_assoc,←qts_ 1 (e-(j+1)) j,show 1+(e-(j+1))=e-j by omega]
theorem Ks.lv1 {K i k next e y:Nat}{a z:Int}(hA:Cur.x.l.length≤1000000)(hK:∀ j,(kd j).length≤K)(h:Ks i k next a e):i<next→i<Cur.x.l.length→∀ n f (L:List Int),L.length≤next→Cur.x.l.length+K+12+(Cur.x.l.length-i)<n→(kd i).length-k<f→iterM (qbn_ (qbv_ n) n Cur.x.l Cur.x.l.length y z Cur.x.l.length (pt i).2.2.2.2.2.2.1 ((kd i).length:Int)) f (L,(k:Int))=some (L++lfs next (e-next)):=by
 induction h with
 | @done i k next a hk ha=>
  intro hin hi n f L hL hn hf
  obtain⟨f,rfl⟩:∃ g,f=g+1:=⟨f-1,by omega⟩
  rw[qbh_,Nat.sub_self]
  unfold qbn_
  cases L with
  | nil=>dsimp only; rw[if_neg (by omega)]; rfl
  | cons b T=>
   dsimp only
   rw[if_neg (by omega)]
   show some (b::T)=some ((b::T) ++ [])
   rw[List.append_nil]
 | @kid i k next e' e a hk hv hn' ha h1 h2 ih1 ih2=>
  intro hin hi n f L hL hn hf
  obtain⟨f,rfl⟩:∃ g,f=g+1:=⟨f-1,by omega⟩
  have hkl:=kd_le i
  have hKn:=hK next
  have l1:=h1.lt
  have l2:=h2.lt
  obtain⟨m,rfl⟩:∃ m,n=m+1:=⟨n-1,by omega⟩
  have hB:qbn_ (qbv_ (m+1)) (m+1) Cur.x.l Cur.x.l.length y z Cur.x.l.length (pt i).2.2.2.2.2.2.1 ((kd i).length:Int) (L,(k:Int))=some (.inl (L++lfs next (e' - next),((k+1:Nat):Int))):=by
   unfold qbn_
   cases L with
   | nil=>
    have hl1:(lfs next 1).length≤next+1:=by have:=qqc_ 1 next; omega
    have e1:=ih1 (by omega) hn' m m (lfs next 1) hl1 (by omega) (by omega)
    have hrec:qbv_ (m+1) Cur.x.l Cur.x.l.length (next:Int) Cur.x.l.length y z=some (lfs next (e' - next)):=by
     show qfl_ (qbv_ m) m Cur.x.l Cur.x.l.length (next:Int) Cur.x.l.length y z=_
     unfold qfl_ qgs_
     rw[leaf1 hn']
     dsimp only[Option.bind_some]
     have fin:∀ X:List Int,X=lfs next 1→(if 0≤(next:Int)∧(next:Int)<((Cur.x.l.length:Nat):Int) then (if ((next:Int)).toNat<Cur.x.l.length then ((some (Cur.x.l.getD ((next:Int)).toNat (0,0,0,0,0,0,nl0,0))).bind fun c3_=>(iterM (qbn_ (qbv_ m) m Cur.x.l Cur.x.l.length y z Cur.x.l.length c3_.2.2.2.2.2.2.1 ((c3_.2.2.2.2.2.2.1.l.length:Nat):Int)) m (X,0)).bind fun c4_=>match c4_ with | []=>some ([]:List Int) | c4_a::c4_t=>some (c4_a::c4_t)) else Option.none) else Option.none)=some (lfs next (e' - next)):=by
      intro X hX
      subst hX
      rw[if_pos (by omega),Int.toNat_natCast,if_pos hn']
      show ((iterM (qbn_ (qbv_ m) m Cur.x.l Cur.x.l.length y z Cur.x.l.length (pt next).2.2.2.2.2.2.1 ((kd next).length:Int)) m (lfs next 1,((0:Nat):Int))).bind _)=_
      rw[e1]
      dsimp only[Option.bind_some]
      rw[←qts_ 1 (e' - (next+1)) next,show 1+(e' - (next+1))=e' - next by omega]
      cases lfs next (e' - next)<;>rfl
     cases hq:lfs next 1 with
     | nil=>exact fin [] hq.symm
     | cons b T=>exact fin (b::T) hq.symm
    dsimp only
    rw[if_pos (by omega)]
    show (if 0≤(k:Int)∧(k:Int)<((kd i).length:Int) then (if (k:Int).toNat<(kd i).length then (some ((kd i).getD (k:Int).toNat 0)).bind _ else _) else _)=_
    rw[if_pos (by omega),Int.toNat_natCast,if_pos hk,hv]
    dsimp only[Option.bind_some]
    rw[hrec,w64_inc' (by omega)]
    dsimp only[Option.bind_some,List.nil_append]
    cases lfs next (e' - next)<;>rfl
   | cons b T=>
    have hrec:=vis2 (n:=m+1) (y:=y) (z:=z) (L:=b::T) hA hK hn' h1 (by omega) (by omega)
    dsimp only
    rw[if_pos (by omega)]
    show (if 0≤(k:Int)∧(k:Int)<((kd i).length:Int) then (if (k:Int).toNat<(kd i).length then (some ((kd i).getD (k:Int).toNat 0)).bind _ else _) else _)=_
    rw[if_pos (by omega),Int.toNat_natCast,if_pos hk,hv]
    dsimp only[Option.bind_some]
    rw[hrec,w64_inc' (by omega)]
    rfl
  rw[qbh_,hB]
  have hl2:(L++lfs next (e' - next)).length≤e':=by rw[List.length_append]; have:=qqc_ (e' - next) next; omega
  have g:=ih2 (by omega) hi (m+1) f _ hl2 hn (by omega)
  show iterM _ f (L++lfs next (e' - next),((k+1:Nat):Int))=_
  rw[g,List.append_assoc,show e-next=(e' - next)+(e-e') by omega,qts_,show next+(e' - next)=e' by omega]
end

section
variable [Cur]

abbrev lvs:List Int:=lfs 0 Cur.x.l.length
theorem leaves_ok {n K:Nat}(hT:Tree)(hA:Cur.x.l.length≤1000000)(hK:∀ j,(kd j).length≤K)(hn:2*Cur.x.l.length+K+14<n):qf1_ n Cur.x.l Cur.x.l.length=some (.inl lvs):=by
 have hpos:=hT.pos
 obtain⟨m,rfl⟩:∃ m,n=m+1:=⟨n-1,by omega⟩
 have h:=hT.ks
 have hrec:qbv_ (m+1) Cur.x.l Cur.x.l.length 0 Cur.x.l.length Cur.x.l.length 0=some lvs:=by
  show qfl_ (qbv_ m) m Cur.x.l Cur.x.l.length ((0:Nat):Int) Cur.x.l.length Cur.x.l.length 0=_
  have e1:=h.lv1 (y:=Cur.x.l.length) (z:=0) hA hK (by omega) hpos m m (lfs 0 1) (qqc_ 1 0) (by omega) (by have:=hK 0; omega)
  unfold qfl_ qgs_
  rw[leaf1 hpos]
  dsimp only[Option.bind_some]
  have fin:∀ X:List Int,X=lfs 0 1→(if 0≤((0:Nat):Int)∧((0:Nat):Int)<((Cur.x.l.length:Nat):Int) then (if (((0:Nat):Int)).toNat<Cur.x.l.length then ((some (Cur.x.l.getD (((0:Nat):Int)).toNat (0,0,0,0,0,0,nl0,0))).bind fun c3_=>(iterM (qbn_ (qbv_ m) m Cur.x.l Cur.x.l.length Cur.x.l.length 0 Cur.x.l.length c3_.2.2.2.2.2.2.1 ((c3_.2.2.2.2.2.2.1.l.length:Nat):Int)) m (X,0)).bind fun c4_=>match c4_ with | []=>some ([]:List Int) | c4_a::c4_t=>some (c4_a::c4_t)) else none) else none)=some lvs:=by
   intro X hX
   subst hX
   rw[if_pos (by omega),Int.toNat_natCast,if_pos hpos]
   show ((iterM (qbn_ (qbv_ m) m Cur.x.l Cur.x.l.length Cur.x.l.length 0 Cur.x.l.length (pt 0).2.2.2.2.2.2.1 ((kd 0).length:Int)) m (lfs 0 1,((0:Nat):Int))).bind _)=_
   rw[e1]
   dsimp only[Option.bind_some]
   rw[←qts_ 1 (Cur.x.l.length-1) 0,show 1+(Cur.x.l.length-1)=Cur.x.l.length by omega]
   show _=some (lfs 0 Cur.x.l.length)
   cases lfs 0 Cur.x.l.length<;>rfl
  cases hq:lfs 0 1 with
  | nil=>exact fin [] hq.symm
  | cons b T=>exact fin (b::T) hq.symm
 unfold qf1_ qjx_ qin_
 rw[check_ok hT (by omega)]
 simp only[Option.bind_some]
 rw[if_pos trivial,hrec]
 dsimp only[Option.bind_some]
 cases lvs<;>rfl
theorem lfs_nat:∀ (n a:Nat) (x:Int),x∈lfs a n→∃ c:Nat,x=c∧a≤c∧c<a+n
 | 0,_,_,h=>by cases h
 | n+1,a,x,h=>by
  rcases List.mem_append.1 h with h | h
  ·split at h
   ·cases h
   ·obtain rfl:=List.mem_singleton.1 h
    exact⟨a,rfl,Nat.le_refl _,by omega⟩
  ·obtain⟨c,h1,h2,h3⟩:=lfs_nat n (a+1) x h
   exact⟨c,h1,by omega,by omega⟩
def la (q:Nat):Nat:=(lvs.getD q 0).toNat
theorem la_ok {q:Nat}(h:q<lvs.length):lvs.getD q 0=(la q:Int)∧la q<Cur.x.l.length:=by
 obtain⟨c,h1,h2,h3⟩:=lfs_nat _ _ _ (qtr_ (d:=0) h)
 unfold la
 rw[h1,Int.toNat_natCast]
 exact⟨rfl,by omega⟩
def pr (q:Nat):Bool:=decide (¬ (pt (la q)).2.1=4)
def lk (i:Nat):Int:=(pt i).2.2.2.2.2.1
def lv (q:Nat):Int:=lk (la q)
def pq:Nat→Nat→List Int
 | _,0=>[]
 | a,d+1=>(if pr a=true then [lv a] else [])++pq (a+1) d
theorem pq_snoc:∀ (d a:Nat),pq a (d+1)=pq a d++(if pr (a+d)=true then [lv (a+d)] else [])
 | 0,a=>by simp[pq]
 | d+1,a=>by
  show _++pq (a+1) (d+1)=(_++pq (a+1) d)++_
  rw[pq_snoc d (a+1),List.append_assoc,show a+1+d=a+(d+1) by omega]
theorem pq_mono:∀ (d e a:Nat),d≤e→(pq a d).length≤(pq a e).length
 | d,0,a,h=>by
  obtain rfl:d=0:=by omega
  exact Nat.le_refl _
 | d,e+1,a,h=>by
  rcases Nat.lt_or_ge e d with h1 | h1
  ·obtain rfl:d=e+1:=by omega
   exact Nat.le_refl _
  ·have:=pq_mono d e a h1
   rw[pq_snoc,List.length_append]; omega
theorem pq_tail {d a:Nat}:(pq (a+1) d).length≤(pq a (d+1)).length:=by
 show _≤(_++pq (a+1) d).length
 rw[List.length_append]; omega
def fp:Nat→Int
 | 0=>0
 | b+1=>if pr b=true then maxB (fp b) (lv b) else fp b
def fl:Nat→Int
 | 0=>0
 | b+1=>maxB (fl b) (lv b)
theorem maxB_swap {a b c:Int}:maxB (maxB a b) c=maxB (maxB a c) b:=by unfold maxB; (repeat' split)<;>omega
theorem maxB_assoc {a b c:Int}:maxB (maxB a b) c=maxB a (maxB b c):=by unfold maxB; (repeat' split)<;>omega
structure NX (k:Int) (q x:Nat):Prop where
 lo:q+1≤x
 hi:x≤lvs.length
 full:x=lvs.length∨k≤((pq (q+1) (x-(q+1))).length:Int)
 least:x=q+1∨((pq (q+1) (x-1-(q+1))).length:Int)<k
theorem NX.le {j k:Int}{q x y:Nat}(h:NX j q x)(g:NX k q y)(hjk:j≤k):x≤y:=by
 refine Classical.byContradiction fun hc=>?_
 have h1:=h.hi
 have g1:=g.lo
 have h2:=h.least.resolve_left (by omega)
 have g2:=g.full.resolve_left (by omega)
 have:=pq_mono (y-(q+1)) (x-1-(q+1)) (q+1) (by omega)
 omega
theorem NX.eq {k:Int}{q x y:Nat}(h:NX k q x)(g:NX k q y):x=y:=Nat.le_antisymm (h.le g (Int.le_refl _)) (g.le h (Int.le_refl _))
open Classical in
def nxC (k:Int)(q:Nat):Nat:=if h:∃ x,NX k q x then h.choose else 0
theorem NX.nx {k:Int}{q x:Nat}(h:NX k q x):nxC k q=x:=by
 have hx:∃ x,NX k q x:=⟨x,h⟩
 unfold nxC
 rw[dif_pos hx]
 exact hx.choose_spec.eq h
def hv (k:Int)(q:Nat):Int:=maxB (fp (nxC k q)) (fl (q+1))
def fill (h:Nat→Int):Nat→List Int
 | 0=>List.replicate Cur.x.l.length 0
 | q+1=>(fill h q).set (la q) (h q)
theorem qwk_ {h:Nat→Int}:∀ q,(fill h q).length=Cur.x.l.length
 | 0=>by unfold fill; rw[List.length_replicate]
 | q+1=>by unfold fill; rw[List.length_set,qwk_ q]
structure CT (Q:List Int) (l o:Nat) (L:List Int):Prop where
 le:o+l≤Q.length
 eq:(Q.drop o).take l=L
theorem CT.len {Q L:List Int}{l o:Nat}(h:CT Q l o L):L.length=l:=by
 rw[←h.eq,List.length_take,List.length_drop]
 have:=h.le
 omega
theorem CT.pop {Q L:List Int}{l o:Nat}{v:Int}(h:CT Q l o (v::L)):1≤l∧CT Q (l-1) (o+1) L:=by
 have hl:=h.len
 have hle:=h.le
 simp only[List.length_cons] at hl
 refine⟨by omega,by omega,?_⟩
 have:=congrArg (List.drop 1) h.eq
 rw[List.drop_take,List.drop_drop] at this
 simpa using this
structure S2 (k:Int) (q:Nat) (s:List Int×Nat×Nat×Int×Int) (x:Nat):Prop where
 ct:CT s.1 s.2.1 s.2.2.1 (pq (q+1) (x-(q+1)))
 cap:((pq (q+1) (x-(q+1))).length:Int)≤k
 far:maxB s.2.2.2.1 (lv q)=maxB (fp x) (fl (q+1))
 nxt:s.2.2.2.2=(x:Int)
 lo:q+1≤x
 hi:x≤lvs.length
 least:x=q+1∨((pq (q+1) (x-1-(q+1))).length:Int)<k
theorem qtt_ {n q:Nat}(h:q<lvs.length):qdl_ n (la q:Int) Cur.x.l Cur.x.l.length=some (pr q):=by
 have hl:=(la_ok h).2
 unfold qdl_ pr
 rw[if_pos (by omega),Int.toNat_natCast,if_pos hl]
 simp only[Option.bind_some]
 by_cases c:(pt (la q)).2.1=4
 ·rw[if_pos (show (Cur.x.l.getD (la q) (0,0,0,0,0,0,nl0,0)).2.1=4 from c)]; simp[c]
 ·rw[if_neg (show ¬ (Cur.x.l.getD (la q) (0,0,0,0,0,0,nl0,0)).2.1=4 from c)]; simp[c]
theorem inner {n q c x0:Nat}{k a b d:Int}{O:List Int}{s:List Int×Nat×Nat×Int×Int}(hn:1000≤n)(hA:Cur.x.l.length≤120)(hk:0≤k)(hs:S2 k q s x0):∃ s' x,qc1_ n Cur.x.l k Cur.x.l.length O c lvs a b d s=some s'∧S2 k q s' x∧NX k q x:=by
 have hll:lvs.length≤Cur.x.l.length:=qqc_ Cur.x.l.length 0
 obtain⟨r,q1,q2⟩:=whileI (B:=qec_ n Cur.x.l k Cur.x.l.length O c lvs a b d) (fun s=>∃ x,S2 k q s x) (fun s=>lvs.length-s.2.2.2.2.toNat) (fun s=>∃ x,S2 k q s x∧NX k q x)
  (fun s hI=>by
   obtain⟨x,h⟩:=hI
   obtain⟨Q,l,o,far,y⟩:=s
   have hct:=h.ct
   have hcap:=h.cap
   have hfar:=h.far
   have hnxt:=h.nxt
   have hlo:=h.lo
   have hhi:=h.hi
   have hle:=h.least
   dsimp only at hct hfar hnxt
   subst hnxt
   have hcl:=hct.len
   have hcle:=hct.le
   have done:(x=lvs.length∨k≤((pq (q+1) (x-(q+1))).length:Int))→∃ r,(∃ x,S2 k q r x∧NX k q x)∧(some (.inr (Q,l,o,far,(x:Int))):Option ((List Int×Nat×Nat×Int×Int) ⊕ (List Int×Nat×Nat×Int×Int)))=some (.inr r):=fun hf=>⟨_,⟨x,h,hlo,hhi,hf,hle⟩,rfl⟩
   have step:x<lvs.length→((pq (q+1) (x-(q+1))).length:Int)<k→∀ Q' l' o',CT Q' l' o' (pq (q+1) (x-(q+1))++(if pr x=true then [lv x] else []))→S2 k q (Q',l',o',(if pr x=true then maxB far (lv x) else far),((x+1:Nat):Int)) (x+1):=fun h1 h2 Q' l' o' hc=>by
    have e:pq (q+1) (x+1-(q+1))=pq (q+1) (x-(q+1))++(if pr x=true then [lv x] else []):=by
     rw[show x+1-(q+1)=(x-(q+1))+1 by omega,pq_snoc,show q+1+(x-(q+1))=x by omega]
    refine⟨by rw[e]; exact hc,?_,?_,rfl,by omega,by omega,.inr ?_⟩
    ·rw[e,List.length_append]
     split<;>simp<;>omega
    ·show maxB (if pr x=true then maxB far (lv x) else far) (lv q)=maxB (if pr x=true then maxB (fp x) (lv x) else fp x) (fl (q+1))
     split
     ·rw[maxB_swap,hfar,maxB_swap]
     ·exact hfar
    ·rw[show x+1-1-(q+1)=x-(q+1) by omega]; exact h2
   have mu:x<lvs.length→lvs.length-(((x+1:Nat):Int)).toNat<lvs.length-((x:Nat):Int).toNat:=fun _=>by omega
   unfold qec_
   cases Q with
   | nil=>
    have hl0:l=0:=by simp at hcle; omega
    have ho0:o=0:=by simp at hcle; omega
    subst hl0
    subst ho0
    dsimp only
    by_cases c1:x<lvs.length
    ·rw[if_pos (by omega)]
     by_cases c2:(0:Int)<k
     ·rw[if_pos c2,if_pos (by omega),Int.toNat_natCast,(la_ok c1).1]
      have hla:=(la_ok c1).2
      simp only[Option.bind_some]
      rw[if_pos (by omega),qtt_ c1,Int.toNat_natCast,if_pos hla]
      simp only[Option.bind_some]
      have hp0:pq (q+1) (x-(q+1))=[]:=List.eq_nil_of_length_eq_zero hcl
      have st:=step c1 (by omega)
      by_cases c3:pr x=true
      ·rw[if_pos c3,w64_inc (by omega)]
       have:=st [lv x] 1 0 ⟨by simp,by rw[hp0,if_pos c3]; rfl⟩
       rw[if_pos c3] at this
       exact .inl ⟨_,⟨_,this⟩,mu c1,rfl⟩
      ·rw[if_neg c3,w64_inc (by omega)]
       have:=st [] 0 0 ⟨by simp,by rw[hp0,if_neg c3]; rfl⟩
       rw[if_neg c3] at this
       exact .inl ⟨_,⟨_,this⟩,mu c1,rfl⟩
     ·rw[if_neg c2]
      exact .inr (done (.inr (by omega)))
    ·rw[if_neg (by omega)]
     exact .inr (done (.inl (by omega)))
   | cons qa qt=>
    dsimp only
    by_cases c1:x<lvs.length
    ·rw[if_pos (by omega)]
     by_cases c2:((l:Nat):Int)<k
     ·rw[if_pos c2,if_pos (by omega),Int.toNat_natCast,(la_ok c1).1]
      have hla:=(la_ok c1).2
      simp only[Option.bind_some]
      rw[if_pos (by omega),qtt_ c1,Int.toNat_natCast,if_pos hla]
      simp only[Option.bind_some]
      have hpl:l≤200:=by
       have h1:∀ (d a:Nat),(pq a d).length≤d:=fun d=>by
        induction d with
        | zero=>exact fun a=>Nat.le_refl _
        | succ d ih=>
         intro a
         have:=ih a
         rw[pq_snoc,List.length_append]
         split<;>simp<;>omega
       have:=h1 (x-(q+1)) (q+1)
       omega
      have st:=step c1 (by omega)
      by_cases c3:pr x=true
      ·rw[if_pos c3,if_pos hcle,if_pos (by omega),w64_inc (by omega)]
       have e:=hct.eq
       rw[e]
       have:=st (pq (q+1) (x-(q+1)) ++ [lv x]) ((pq (q+1) (x-(q+1)) ++ [lv x]).length) 0 ⟨by omega,by rw[List.drop_zero,List.take_length,if_pos c3]⟩
       rw[if_pos c3] at this
       exact .inl ⟨_,⟨_,this⟩,mu c1,rfl⟩
      ·rw[if_neg c3,w64_inc (by omega)]
       have:=st (qa::qt) l o (by rw[if_neg c3,List.append_nil]; exact hct)
       rw[if_neg c3] at this
       exact .inl ⟨_,⟨_,this⟩,mu c1,rfl⟩
     ·rw[if_neg c2]
      exact .inr (done (.inr (by omega)))
    ·rw[if_neg (by omega)]
     exact .inr (done (.inl (by omega)))) n s ⟨x0,hs⟩ (by omega)
 obtain⟨x,h1,h2⟩:=q1
 exact⟨r,x,q2,h1,h2⟩
end

section
variable [Cur]

structure S1 (k:Int) (q:Nat) (s:List Int×List Int×List Int×Nat×Nat×Int×Int):Prop where
 out:s.1=fill (hv k) q
 lst:s.2.1=lvs
 x:∃ x:Nat,s.2.2.2.2.2.2=(x:Int)∧CT s.2.2.1 s.2.2.2.1 s.2.2.2.2.1 (pq q (x-q))∧((pq q (x-q)).length:Int)≤k∧s.2.2.2.2.2.1=maxB (fp x) (fl q)∧q≤x∧x≤lvs.length∧(x=q∨((pq q (x-1-q)).length:Int)<k)
 nx:∀ a,a<q→∃ x,NX k a x
theorem S1.step {k:Int}{q x c:Nat}{s':List Int×Nat×Nat×Int×Int}(hq:q<lvs.length)(h:S2 k q s' x)(g:NX k q x)(hx:∀ a,a<q→∃ x,NX k a x):S1 k (q+1) ((fill (hv k) q).set (la q) (maxB s'.2.2.2.1 (pt (la q)).2.2.2.2.2.1),lvs,s'.1,s'.2.1,s'.2.2.1,maxB s'.2.2.2.1 (pt (la q)).2.2.2.2.2.1,s'.2.2.2.2):=by
 have e:maxB s'.2.2.2.1 (pt (la q)).2.2.2.2.2.1=maxB (fp x) (fl (q+1)):=h.far
 refine⟨?_,rfl,⟨x,h.nxt,h.ct,h.cap,e,h.lo,h.hi,?_⟩,fun a ha=>?_⟩
 ·show _=(fill (hv k) q).set (la q) (hv k q)
  unfold hv
  rw[g.nx,e]
 ·exact h.least
 ·rcases Nat.lt_or_ge a q with h1 | h1
  ·exact hx a h1
  ·obtain rfl:a=q:=by omega
   exact⟨x,g⟩
theorem reachLoop {n:Nat}{k:Int}(hn:1000≤n)(hA:Cur.x.l.length≤120)(hk:0≤k)(h0:0<lvs.length):qed_ n Cur.x.l k Cur.x.l.length Cur.x.l.length ((lvs.length:Nat):Int) (List.replicate Cur.x.l.length 0,lvs,[],0,0,0,0,0)=some (fill (hv k) lvs.length)∧∀ a,a<lvs.length→∃ x,NX k a x:=by
 have hll:lvs.length≤Cur.x.l.length:=qqc_ Cur.x.l.length 0
 obtain⟨r,q1,q2⟩:=hoare (B:=qci_ n Cur.x.l k Cur.x.l.length Cur.x.l.length ((lvs.length:Nat):Int)) (σ:=List Int×List Int×List Int×Nat×Nat×Int×Int) (fun s i=>(s.1,s.2.1,s.2.2.1,s.2.2.2.1,s.2.2.2.2.1,s.2.2.2.2.2.1,s.2.2.2.2.2.2,i)) (fun q s=>S1 k q s) (fun r=>r=fill (hv k) lvs.length∧∀ a,a<lvs.length→∃ x,NX k a x) lvs.length
  (fun q s hq hI=>by
   left
   obtain⟨O,Λ,Q,l,o,far,y⟩:=s
   obtain⟨hO,hΛ,⟨x,hy,hct,hcap,hfar,hlo,hhi,hle⟩,hnx⟩:=hI
   dsimp only at hO hΛ hy hct hfar ⊢
   subst hO
   subst hy
   have hla:=la_ok hq
   have hm:=qtt_ (n:=n) hq
   have hcl:=hct.len
   have hcle:=hct.le
   obtain⟨La,Lt,hL⟩:∃ La Lt,Λ=La::Lt:=by
    cases Λ with
    | nil=>rw[←hΛ] at h0; exact absurd h0 (Nat.lt_irrefl 0)
    | cons a t=>exact⟨a,t,rfl⟩
   have hlen:(La::Lt).length=lvs.length:=by rw[←hL,hΛ]
   have hget:(La::Lt).getD q 0=(la q:Int):=by rw[←hL,hΛ]; exact hla.1
   -- what comes behind the loop inside
   have tail:∀ (s0:List Int×Nat×Nat×Int×Int) (x0:Nat),S2 k q s0 x0→∃ s',S1 k (q+1) s'∧((qc1_ n Cur.x.l k Cur.x.l.length (fill (hv k) q) Cur.x.l.length (La::Lt) (la q:Int) ((lvs.length:Nat):Int) (q:Int) s0).bind fun t=>match t with
       | (y1_5_0,y1_5_1,y1_5_2,y1_5_3,y1_5_4)=>
        match y1_5_0 with
        | []=>
         if 0≤(la q:Int)∧(la q:Int)<(((Cur.x.l).length:Nat):Int) then
          if ((la q:Int)).toNat<(Cur.x.l).length then
          ((some ((Cur.x.l).getD ((la q:Int)).toNat (0,0,0,0,0,0,nl0,0)))).bind fun y1_7_=>
          if 0≤(la q:Int)∧(la q:Int)<((Cur.x.l.length:Nat):Int) then
           if ((la q:Int)).toNat<(fill (hv k) q).length then
            some (.inl (((fill (hv k) q).set ((la q:Int)).toNat (maxB y1_5_3 (y1_7_.2.2.2.2.2.1))),(La::Lt),([]:List Int),0,0,(maxB y1_5_3 (y1_7_.2.2.2.2.2.1)),y1_5_4,(w64 ((q:Int)+(1:Int)))))
           else none
          else none
          else none
         else none
        | y1_5_0a::y1_5_0t=>
         if 0≤(la q:Int)∧(la q:Int)<(((Cur.x.l).length:Nat):Int) then
          if ((la q:Int)).toNat<(Cur.x.l).length then
          ((some ((Cur.x.l).getD ((la q:Int)).toNat (0,0,0,0,0,0,nl0,0)))).bind fun y1_7_=>
          if 0≤(la q:Int)∧(la q:Int)<((Cur.x.l.length:Nat):Int) then
           if ((la q:Int)).toNat<(fill (hv k) q).length then
            some (.inl (((fill (hv k) q).set ((la q:Int)).toNat (maxB y1_5_3 (y1_7_.2.2.2.2.2.1))),(La::Lt),(y1_5_0a::y1_5_0t),y1_5_1,y1_5_2,(maxB y1_5_3 (y1_7_.2.2.2.2.2.1)),y1_5_4,(w64 ((q:Int)+(1:Int)))))
           else none
          else none
          else none
         else none)=(some (.inl (s'.1,s'.2.1,s'.2.2.1,s'.2.2.2.1,s'.2.2.2.2.1,s'.2.2.2.2.2.1,s'.2.2.2.2.2.2,((q+1:Nat):Int))):Option ((List Int×List Int×List Int×Nat×Nat×Int×Int×Int) ⊕ (List Int))):=by
    intro s0 x0 h2
    obtain⟨s',x',e1,h3,h4⟩:=inner (n:=n) (c:=Cur.x.l.length) (a:=(la q:Int)) (b:=((lvs.length:Nat):Int)) (d:=(q:Int)) (O:=fill (hv k) q) hn hA hk h2
    rw[show La::Lt=lvs by rw[←hL,hΛ]]
    refine⟨_,S1.step (c:=0) hq h3 h4 hnx,?_⟩
    rw[e1]
    simp only[Option.bind_some]
    obtain⟨Q',l',o',far',y'⟩:=s'
    have hc:=h3.ct.le
    cases Q' with
    | nil=>
     dsimp only at hc ⊢
     have hl0:l'=0:=by simp at hc; omega
     have ho0:o'=0:=by simp at hc; omega
     subst hl0
     subst ho0
     rw[if_pos (by omega),Int.toNat_natCast,if_pos hla.2]
     try dsimp only[Option.bind_some]
     rw[if_pos (by omega),if_pos (by rw[qwk_]; exact hla.2),w64_inc (by omega)]
     rfl
    | cons qa qt=>
     dsimp only
     rw[if_pos (by omega),Int.toNat_natCast,if_pos hla.2]
     try dsimp only[Option.bind_some]
     rw[if_pos (by omega),if_pos (by rw[qwk_]; exact hla.2),w64_inc (by omega)]
     rfl
   subst hL
   have g0:(q:Int)<((lvs.length:Nat):Int):=by omega
   have g1:0≤(q:Int)∧(q:Int)<(((La::Lt).length:Nat):Int):=by omega
   by_cases hx:x=q
   · -- the next one has not been looked at
    subst hx
    have hp0:pq x (x-x)=[]:=by rw[Nat.sub_self]; rfl
    have ex:pq (x+1) (x+1-(x+1))=[]:=by rw[Nat.sub_self]; rfl
    rw[hp0] at hct
    have h2:S2 k x (Q,l,o,far,((x+1:Nat):Int)) (x+1):=⟨by rw[ex]; exact hct,by rw[ex]; exact hk,by
     show maxB far (lv x)=_
     rw[hfar]
     show _=maxB (if pr x=true then maxB (fp x) (lv x) else fp x) (maxB (fl x) (lv x))
     unfold maxB
     (repeat' split)<;>omega,rfl,Nat.le_refl _,by omega,.inl rfl⟩
    obtain⟨s',h3,h4⟩:=tail _ _ h2
    refine⟨s',h3,?_⟩
    rw[←h4]
    unfold qci_
    cases Q with
    | nil=>
     have hl0:l=0:=by simp at hcle; omega
     have ho0:o=0:=by simp at hcle; omega
     subst hl0
     subst ho0
     dsimp only
     rw[if_pos g0,if_pos g1,Int.toNat_natCast,hget]
     dsimp only[Option.bind_some]
     rw[if_pos (Int.le_refl _),w64_inc (by omega)]
     rfl
    | cons qa qt=>
     dsimp only
     rw[if_pos g0,if_pos g1,Int.toNat_natCast,hget]
     dsimp only[Option.bind_some]
     rw[if_pos (Int.le_refl _),w64_inc (by omega)]
     rfl
   ·have hpq:pq q (x-q)=(if pr q=true then [lv q] else [])++pq (q+1) (x-(q+1)):=by
     rw[show x-q=(x-(q+1))+1 by omega]; rfl
    have hfar2:maxB far (lv q)=maxB (fp x) (fl (q+1)):=by rw[hfar,maxB_assoc]; rfl
    have hle2:x=q+1∨((pq (q+1) (x-1-(q+1))).length:Int)<k:=by
     rcases hle with h | h
     ·exact absurd h hx
     ·by_cases h1:x=q+1
      ·exact .inl h1
      ·right
       have:=pq_tail (d:=x-1-(q+1)) (a:=q)
       rw[show x-1-(q+1)+1=x-1-q by omega] at this
       omega
    have hcap2:((pq (q+1) (x-(q+1))).length:Int)≤k:=by
     have:=pq_tail (d:=x-(q+1)) (a:=q)
     rw[show x-(q+1)+1=x-q by omega] at this
     omega
    rw[hpq] at hct
    by_cases hp:pr q=true
    ·rw[if_pos hp] at hct
     obtain⟨p1,p2⟩:=hct.pop
     have h2:S2 k q (Q,l-1,o+1,far,(x:Int)) x:=⟨p2,hcap2,hfar2,rfl,by omega,hhi,hle2⟩
     obtain⟨s',h3,h4⟩:=tail _ _ h2
     refine⟨s',h3,?_⟩
     rw[←h4]
     unfold qci_
     cases Q with
     | nil=>simp at hcle; omega
     | cons qa qt=>
      dsimp only
      rw[if_pos g0,if_pos g1,Int.toNat_natCast,hget]
      dsimp only[Option.bind_some]
      rw[if_neg (by omega),hm]
      dsimp only[Option.bind_some]
      rw[if_pos hp,if_pos (by omega)]
      rfl
    ·rw[if_neg hp] at hct
     have h2:S2 k q (Q,l,o,far,(x:Int)) x:=⟨hct,hcap2,hfar2,rfl,by omega,hhi,hle2⟩
     obtain⟨s',h3,h4⟩:=tail _ _ h2
     refine⟨s',h3,?_⟩
     rw[←h4]
     unfold qci_
     cases Q with
     | nil=>
      have hl0:l=0:=by simp at hcle; omega
      have ho0:o=0:=by simp at hcle; omega
      subst hl0
      subst ho0
      dsimp only
      rw[if_pos g0,if_pos g1,Int.toNat_natCast,hget]
      dsimp only[Option.bind_some]
      rw[if_neg (by omega),hm]
      dsimp only[Option.bind_some]
      rw[if_neg hp]
      rfl
     | cons qa qt=>
      dsimp only
      rw[if_pos g0,if_pos g1,Int.toNat_natCast,hget]
      dsimp only[Option.bind_some]
      rw[if_neg (by omega),hm]
      dsimp only[Option.bind_some]
      rw[if_neg hp]
      rfl)
  (fun s hI=>by
   obtain⟨O,Λ,Q,l,o,far,y⟩:=s
   have hO:=hI.out
   dsimp only at hO ⊢
   subst hO
   refine⟨_,⟨rfl,hI.nx⟩,?_⟩
   unfold qci_
   cases Λ with
   | nil=>cases Q<;>(dsimp only; rw[if_neg (by omega)])
   | cons a t=>cases Q<;>(dsimp only; rw[if_neg (by omega)])) n 0 (List.replicate Cur.x.l.length 0,lvs,[],0,0,0,0) (Nat.zero_le _) ⟨rfl,rfl,⟨0,rfl,⟨by simp,rfl⟩,by simpa [pq] using hk,rfl,Nat.le_refl _,Nat.zero_le _,.inl rfl⟩,fun a ha=>absurd ha (Nat.not_lt_zero _)⟩ (by omega)
 obtain⟨rfl,h2⟩:=q1
 exact⟨q2,h2⟩
theorem reach_ok {n K:Nat}{k:Int}(hT:Tree)(hK:∀ j,(kd j).length≤K)(hn:1000+2*Cur.x.l.length+K<n)(hA:Cur.x.l.length≤120)(hk:0≤k):qhz_ n Cur.x.l Cur.x.l.length k=some (fill (hv k) lvs.length)∧∀ a,a<lvs.length→∃ x,NX k a x:=by
 have hl:=leaves_ok (n:=n) hT (by omega) hK (by omega)
 unfold qhz_
 rw[check_ok hT (by omega)]
 simp only[Option.bind_some]
 rw[if_pos trivial,if_pos (by omega),if_pos (by omega),hl]
 dsimp only
 by_cases h0:0<lvs.length
 ·obtain⟨e,h⟩:=reachLoop (n:=n) (k:=k) (by omega) hA hk h0
  refine⟨?_,h⟩
  cases hq:lvs with
  | nil=>rw[hq] at h0; exact absurd h0 (Nat.lt_irrefl 0)
  | cons a t=>
   rw[hq] at e
   dsimp only
   simp only[Int.toNat_natCast]
   rw[e]
   rfl
 ·have hq:lvs=[]:=List.eq_nil_of_length_eq_zero (by omega)
  refine⟨?_,fun a ha=>absurd ha (by omega)⟩
  rw[hq]
  dsimp only
  simp only[Int.toNat_natCast]
  obtain⟨m,rfl⟩:∃ m,n=m+1:=⟨n-1,by omega⟩
  unfold qed_
  rw[qbh_]
  rfl
end

section
variable [Cur]

def bk (f x:Int):Bool:=decide (f=-1∨x≤f)
theorem before_ok (n:Nat)(x f:Int):qd6_ n x f=some (bk f x):=by
 unfold qd6_ bk
 by_cases h:f=-1
 ·rw[if_pos h]; simp[h]
 ·rw[if_neg h]
  by_cases k:x≤f
  ·rw[if_pos k]; simp[k]
  ·rw[if_neg k]; simp[h,k]
def allK (S:List Bool)(ks:List Int):Bool:=ks.all fun k=>S.getD k.toNat false
theorem fold_ok {n i:Nat}{S:List Bool}(hT:Tree)(hi:i<Cur.x.l.length)(hn:(kd i).length<n)(hS:S.length=Cur.x.l.length):qc6_ n (pt i).2.2.2.2.2.2.1 true S Cur.x.l.length Cur.x.l.length=some (allK S (kd i)):=by
 have hkl:=kd_le i
 obtain⟨r,q1,h⟩:=hoare (B:=qz_ n S Cur.x.l.length Cur.x.l.length (pt i).2.2.2.2.2.2.1 ((kd i).length:Int)) (σ:=Bool) (fun b q=>(b,q)) (fun q b=>b=allK S ((kd i).take q)) (fun r=>r=allK S (kd i)) (kd i).length
  (fun q b hq hI=>by
   obtain⟨c,h1,h2,h3⟩:=hT.kid hi hq
   left
   have hall:allK S ((kd i).take (q+1))=(allK S ((kd i).take q)&&S.getD c false):=by
    rw[take_snocI hq,h1]
    unfold allK
    rw[List.all_append]
    simp
   refine⟨allK S ((kd i).take (q+1)),rfl,?_⟩
   unfold qz_
   dsimp only
   rw[if_pos (by omega),if_pos (show (0:Int)≤(q:Int)∧(q:Int)<(((pt i).2.2.2.2.2.2.1.l.length:Nat):Int) from⟨Int.natCast_nonneg _,Int.ofNat_lt.2 hq⟩),if_pos (show ((q:Int)).toNat<(pt i).2.2.2.2.2.2.1.l.length from by rw[Int.toNat_natCast]; exact hq)]
   simp only[Int.toNat_natCast,Option.bind_some]
   rw[show (pt i).2.2.2.2.2.2.1.l.getD q 0=(c:Int) from h1,w64_inc' (by omega),hall,hI]
   unfold qdf_ qip_
   by_cases hb:allK S ((kd i).take q)=true
   ·rw[if_pos hb,if_pos (by omega)]
    simp only[Int.toNat_natCast]
    rw[if_pos (by omega),hb]
    rfl
   ·rw[if_neg hb,Bool.eq_false_iff.2 hb]
    rfl)
  (fun b hI=>by
   unfold qz_
   dsimp only
   rw[if_neg (by omega)]
   rw[List.take_length] at hI
   exact⟨b,hI,rfl⟩) n 0 true (Nat.zero_le _) (by show true=allK S []; rfl) (by omega)
 have h:qei_ n S Cur.x.l.length Cur.x.l.length (pt i).2.2.2.2.2.2.1 (((pt i).2.2.2.2.2.2.1.l.length:Nat):Int) (true,0)=some r:=h
 unfold qc6_ qdu_
 rw[h,q1]
 rfl
def sv (R:List Int)(f:Int)(S:List Bool)(i:Nat):Bool:=if inn i=true then allK S (kd i) else if stL.getD i false=true then false else bk f (R.getD i 0)
def ov (R:List Int)(f:Int)(S:List Bool)(i:Nat):Int:=if stL.getD i false=true then 1 else if (sv R f S i&&bk f (if inn i=true then lk i else R.getD i 0))=true then 3 else 2
def mS (R:List Int)(f:Int):Nat→List Bool
 | 0=>List.replicate Cur.x.l.length false
 | m+1=>(mS R f m).set (Cur.x.l.length-(m+1)) (sv R f (mS R f m) (Cur.x.l.length-(m+1)))
def mO (R:List Int)(f:Int):Nat→List Int
 | 0=>List.replicate Cur.x.l.length 0
 | m+1=>(mO R f m).set (Cur.x.l.length-(m+1)) (ov R f (mS R f m) (Cur.x.l.length-(m+1)))
theorem mS_len {R:List Int}{f:Int}:∀ m,(mS R f m).length=Cur.x.l.length
 | 0=>by unfold mS; rw[List.length_replicate]
 | m+1=>by unfold mS; rw[List.length_set,mS_len m]
theorem mO_len {R:List Int}{f:Int}:∀ m,(mO R f m).length=Cur.x.l.length
 | 0=>by unfold mO; rw[List.length_replicate]
 | m+1=>by unfold mO; rw[List.length_set,mO_len m]
theorem marksB {n i:Nat}{R O:List Int}{S T:List Bool}{f:Int}(hT:Tree)(hTe:T=stL)(hi:i<Cur.x.l.length)(hn:(kd i).length<n)(hA:Cur.x.l.length≤120)(hR:R.length=Cur.x.l.length)(hS:S.length=Cur.x.l.length)(hO:O.length=Cur.x.l.length):qc2_ n Cur.x.l Cur.x.l.length f R Cur.x.l.length T Cur.x.l.length (S,O,(i:Int))=some (.inl (S.set i (sv R f S i),O.set i (ov R f S i),(i:Int)-1)):=by
 have hst:T.length=Cur.x.l.length:=by rw[hTe]; exact qrk_ _
 have hw:w64 ((i:Int)-1)=(i:Int)-1:=w64_sm (by omega) (by omega)
 have hg:T.getD i false=stL.getD i false:=by rw[hTe]
 unfold qc2_
 dsimp only
 rw[hw]
 simp only[Int.toNat_natCast]
 (repeat rw[if_pos (by omega)])
 try dsimp only[Option.bind_some]
 (repeat rw[if_pos (by omega)])
 try dsimp only[Option.bind_some]
 have hin:qd0_ n (Cur.x.l.getD i (0,0,0,0,0,0,nl0,0)).1 (Cur.x.l.getD i (0,0,0,0,0,0,nl0,0)).2.1 (Cur.x.l.getD i (0,0,0,0,0,0,nl0,0)).2.2.1 (Cur.x.l.getD i (0,0,0,0,0,0,nl0,0)).2.2.2.1 (Cur.x.l.getD i (0,0,0,0,0,0,nl0,0)).2.2.2.2.1 (Cur.x.l.getD i (0,0,0,0,0,0,nl0,0)).2.2.2.2.2.1 (Cur.x.l.getD i (0,0,0,0,0,0,nl0,0)).2.2.2.2.2.2.1 (Cur.x.l.getD i (0,0,0,0,0,0,nl0,0)).2.2.2.2.2.2.2=some (inn i):=inner_ok n i
 rw[hin]
 have hfo:qc6_ n (Cur.x.l.getD i (0,0,0,0,0,0,nl0,0)).2.2.2.2.2.2.1 true S Cur.x.l.length Cur.x.l.length=some (allK S (kd i)):=fold_ok hT hi hn hS
 have hlk:(Cur.x.l.getD i (0,0,0,0,0,0,nl0,0)).2.2.2.2.2.1=lk i:=rfl
 try dsimp only[Option.bind_some]
 by_cases c1:inn i=true
 ·rw[if_pos c1]
  unfold qd1_
  try dsimp only[Option.bind_some]
  rw[hfo]
  try dsimp only[Option.bind_some]
  (repeat rw[if_pos (by omega)])
  try dsimp only[Option.bind_some]
  rw[hg]
  have e1:sv R f S i=allK S (kd i):=if_pos c1
  by_cases c2:stL.getD i false=true
  ·have e2:ov R f S i=1:=by unfold ov; rw[if_pos c2]
   rw[if_pos c2,if_pos (by omega),e1,e2]
  ·rw[if_neg c2]
   by_cases c3:allK S (kd i)=true
   ·rw[if_pos c3,before_ok,hlk]
    try dsimp only[Option.bind_some]
    by_cases c4:bk f (lk i)=true
    ·have e2:ov R f S i=3:=by unfold ov; rw[if_neg c2,e1,if_pos c1,c3,c4]; rfl
     rw[if_pos c4,if_pos (by omega),e1,e2]
    ·have e2:ov R f S i=2:=by unfold ov; rw[if_neg c2,e1,if_pos c1,c3,Bool.eq_false_iff.2 c4]; rfl
     rw[if_neg c4,if_pos (by omega),e1,e2]
   ·have e2:ov R f S i=2:=by unfold ov; rw[if_neg c2,e1,Bool.eq_false_iff.2 c3]; rfl
    rw[if_neg c3,if_pos (by omega),e1,e2]
 ·rw[if_neg c1]
  (repeat rw[if_pos (by omega)])
  try dsimp only[Option.bind_some]
  rw[hg]
  by_cases c2:stL.getD i false=true
  ·have e1:sv R f S i=false:=by unfold sv; rw[if_neg c1,if_pos c2]
   have e2:ov R f S i=1:=by unfold ov; rw[if_pos c2]
   rw[if_pos c2]
   (repeat rw[if_pos (by omega)])
   rw[e1,e2]
  ·have e1:sv R f S i=bk f (R.getD i 0):=by unfold sv; rw[if_neg c1,if_neg c2]
   rw[if_neg c2,before_ok]
   try dsimp only[Option.bind_some]
   (repeat rw[if_pos (by omega)])
   by_cases c3:bk f (R.getD i 0)=true
   ·have e2:ov R f S i=3:=by unfold ov; rw[if_neg c2,e1,if_neg c1,c3]; rfl
    rw[if_pos c3,if_pos c3,if_pos (by omega),e1,e2]
   ·have e2:ov R f S i=2:=by unfold ov; rw[if_neg c2,e1,Bool.eq_false_iff.2 c3]; rfl
    rw[if_neg c3,if_pos (by omega),e1,e2]
theorem marks_ok {n K:Nat}{k f:Int}(hT:Tree)(hK:∀ j,(kd j).length≤K)(hn:1000+2*Cur.x.l.length+K<n)(hA:Cur.x.l.length≤120)(hk:0≤k):qdg_ n Cur.x.l Cur.x.l.length k f=some (mO (fill (hv k) lvs.length) f Cur.x.l.length):=by
 have hpos:=hT.pos
 obtain⟨e1,_⟩:=reach_ok (n:=n) (k:=k) hT hK hn hA hk
 have hst:stL.length=Cur.x.l.length:=qrk_ _
 generalize hR:fill (hv k) lvs.length=R at *
 have hRl:R.length=Cur.x.l.length:=by rw[←hR]; exact qwk_ _
 have loop:∀ (g m:Nat),m≤Cur.x.l.length→Cur.x.l.length-m<g→iterM (qc2_ n Cur.x.l Cur.x.l.length f R Cur.x.l.length stL Cur.x.l.length) g (mS R f m,mO R f m,((Cur.x.l.length:Nat):Int)-(m:Int)-1)=some (mO R f Cur.x.l.length):=by
  intro g
  induction g with
  | zero=>intro m _ h; exact absurd h (Nat.not_lt_zero _)
  | succ g ih=>
   intro m hm hg
   rw[qbh_]
   by_cases hlt:m<Cur.x.l.length
   ·obtain⟨i,hi⟩:∃ i:Nat,i=Cur.x.l.length-(m+1):=⟨_,rfl⟩
    have e1:((Cur.x.l.length:Nat):Int)-(m:Int)-1=(i:Int):=by omega
    rw[e1,marksB hT rfl (by omega) (by have:=hK i; omega) hA hRl (mS_len m) (mO_len m)]
    have:=ih (m+1) (by omega) (by omega)
    rw[show ((Cur.x.l.length:Nat):Int)-((m+1:Nat):Int)-1=(i:Int)-1 by omega] at this
    have e2:mS R f (m+1)=(mS R f m).set i (sv R f (mS R f m) i):=by rw[hi]; rfl
    have e3:mO R f (m+1)=(mO R f m).set i (ov R f (mS R f m) i):=by rw[hi]; rfl
    rw[e2,e3] at this
    exact this
   ·obtain rfl:m=Cur.x.l.length:=by omega
    unfold qc2_
    dsimp only
    rw[if_neg (by omega)]
    rfl
 have h:=loop n 0 (Nat.zero_le _) (by omega)
 have h:qkq_ n Cur.x.l Cur.x.l.length f R Cur.x.l.length stL Cur.x.l.length (List.replicate Cur.x.l.length false,List.replicate Cur.x.l.length 0,((Cur.x.l.length:Nat):Int)-1)=some (mO R f Cur.x.l.length):=by
  rw[←h,show ((Cur.x.l.length:Nat):Int)-((0:Nat):Int)-1=((Cur.x.l.length:Nat):Int)-1 by omega]
  rfl
 unfold qdg_
 rw[e1,prgStale hT hK (by omega)]
 dsimp only[Option.bind_some]
 simp only[Int.toNat_natCast]
 rw[if_pos (by omega),if_pos (by omega),if_pos (by omega),w64_sm (by omega) (by omega)]
 try dsimp only[Option.bind_some]
 rw[h]
 rfl
end

section
variable [Cur]

theorem Ks.count {i k next e:Nat}{a:Int}(h:Ks i k next a e):(kd i).length+next≤e+k:=by
 induction h with
 | done hk=>omega
 | kid hk hv hn ha h1 h2 ih1 ih2=>have:=h1.lt; omega
theorem kd_out {i:Nat}(h:Cur.x.l.length≤i):kd i=[]:=by
 have:pt i=d8:=by unfold pt; rw[List.getD_eq_getElem?_getD,List.getElem?_eq_none h]; rfl
 unfold kd; rw[this]; rfl
theorem Tree.few (hT:Tree)(i:Nat):(kd i).length≤Cur.x.l.length:=by
 rcases Nat.lt_or_ge i Cur.x.l.length with h | h
 ·obtain⟨e,h1,-,h3⟩:=hT.end h
  have:=h1.count
  omega
 ·rw[kd_out h]; exact Nat.zero_le _
end

section
variable [Cur]

def setK (L:List Int)(i:Int)(ks:List Int):List Int:=ks.foldl (fun L k=>L.set k.toNat i) L
theorem setK_snoc {L:List Int}{i:Int}{ks:List Int}{k:Int}:setK L i (ks ++ [k])=(setK L i ks).set k.toNat i:=by simp[setK]
theorem setK_len {L:List Int}{i:Int}:∀ {ks:List Int},(setK L i ks).length=L.length:=by
 intro ks
 unfold setK
 induction ks generalizing L with
 | nil=>rfl
 | cons k ks ih=>rw[List.foldl_cons,ih,List.length_set]
def parN:Nat→List Int→List Int
 | 0,L=>L
 | n+1,L=>setK (parN n L) (n:Int) (kd n)
theorem qo7_ {L:List Int}:∀ n,(parN n L).length=L.length
 | 0=>rfl
 | n+1=>by
  show (setK (parN n L) (n:Int) (kd n)).length=_
  rw[setK_len,qo7_ n]
def par0:List Int:=(List.replicate Cur.x.l.length (0:Int)).set 0 (-1)
def parL:List Int:=parN Cur.x.l.length par0
theorem parL_len:parL.length=Cur.x.l.length:=by unfold parL par0; rw[qo7_,List.length_set,List.length_replicate]
theorem take_snoc {L:List Int}{q:Nat}(h:q<L.length):L.take (q+1)=L.take q ++ [L.getD q 0]:=by
 rw[List.take_add_one,List.getElem?_eq_getElem h,List.getD_eq_getElem?_getD,List.getElem?_eq_getElem h]; rfl
theorem refPar2 {n i:Nat}{L:List Int}(hT:Tree)(hi:i<Cur.x.l.length)(hn:(kd i).length<n)(hL:L.length=Cur.x.l.length):qd7_ n Cur.x.l Cur.x.l.length Cur.x.l.length (i:Int) (L,0)=some (setK L (i:Int) (kd i)):=by
 have hkl:=kd_le i
 obtain⟨r,rfl,h⟩:=hoare (B:=qx_ n Cur.x.l Cur.x.l.length Cur.x.l.length (i:Int)) (σ:=List Int) (fun s q=>(s,q)) (fun q s=>s=setK L (i:Int) ((kd i).take q)) (fun r=>r=setK L (i:Int) (kd i)) (kd i).length
  (fun q s hq hI=>by
   subst hI
   obtain⟨c,h1,h2,h3⟩:=hT.kid hi hq
   unfold qx_
   dsimp only
   rw[if_pos (by omega),if_pos (by omega)]
   simp only[Option.bind_some,Int.toNat_natCast]
   rw[if_pos (show (q:Int)<((((Cur.x.l.getD i (0,0,0,0,0,0,nl0,0)).2.2.2.2.2.2.1.l.length:Nat)):Int) from Int.ofNat_lt.2 hq),if_pos (show (0:Int)≤(q:Int)∧(q:Int)<((((Cur.x.l.getD i (0,0,0,0,0,0,nl0,0)).2.2.2.2.2.2.1.l.length:Nat)):Int) from⟨Int.natCast_nonneg _,Int.ofNat_lt.2 hq⟩),if_pos (show q<(Cur.x.l.getD i (0,0,0,0,0,0,nl0,0)).2.2.2.2.2.2.1.l.length from hq),show (Cur.x.l.getD i (0,0,0,0,0,0,nl0,0)).2.2.2.2.2.2.1.l.getD q 0=(c:Int) from h1]
   rw[if_pos (by omega)]
   simp only[Int.toNat_natCast]
   rw[if_pos (by rw[setK_len]; omega),w64_inc' (by omega)]
   refine .inl ⟨_,?_,rfl⟩
   rw[take_snoc hq,h1,setK_snoc,Int.toNat_natCast])
  (fun s hI=>by
   subst hI
   unfold qx_
   dsimp only
   rw[if_pos (by omega),if_pos (by omega)]
   simp only[Option.bind_some,Int.toNat_natCast]
   rw[if_neg (show ¬ ((kd i).length:Int)<((((Cur.x.l.getD i (0,0,0,0,0,0,nl0,0)).2.2.2.2.2.2.1.l.length:Nat)):Int) from Int.lt_irrefl _)]
   exact⟨_,by rw[List.take_length],rfl⟩) n 0 L (Nat.zero_le _) rfl (by omega)
 exact h
theorem refPar1 {n K:Nat}(hT:Tree)(hK:∀ j,(kd j).length≤K)(hn:Cur.x.l.length+K<n):qcx_ n Cur.x.l Cur.x.l.length Cur.x.l.length (par0,0)=some parL:=by
 have hmax:=hT.max
 obtain⟨r,rfl,h⟩:=hoare (B:=qy_ n Cur.x.l Cur.x.l.length Cur.x.l.length) (σ:=List Int) (fun s q=>(s,q)) (fun q s=>s=parN q par0) (fun r=>r=parL) Cur.x.l.length
  (fun q s hq hI=>by
   subst hI
   have hk:=hK q
   unfold qy_
   dsimp only
   rw[if_pos (by omega),refPar2 hT hq (by omega) (by rw[qo7_]; unfold par0; rw[List.length_set,List.length_replicate])]
   simp only[Option.bind_some]
   rw[w64_inc (by omega)]
   exact .inl ⟨_,rfl,rfl⟩)
  (fun s hI=>by
   subst hI
   unfold qy_
   dsimp only
   rw[if_neg (by omega)]
   exact⟨_,rfl,rfl⟩) n 0 par0 (Nat.zero_le _) rfl (by omega)
 exact h
theorem refPar {n K:Nat}(hT:Tree)(hK:∀ j,(kd j).length≤K)(hn:Cur.x.l.length+K<n)(hc:qbl_ n Cur.x.l Cur.x.l.length=some 0):∃ k:NL,qbo_ n Cur.x.l Cur.x.l.length=some k∧k.l=parL:=by
 have hmax:=hT.max
 have hpos:=hT.pos
 unfold qbo_
 rw[hc]
 simp only[Option.bind_some]
 rw[if_pos trivial,if_pos (by omega)]
 simp only[Int.toNat_natCast]
 rw[if_pos (by omega),if_pos (by omega),if_pos (by rw[List.length_replicate]; exact hpos)]
 have h:qcx_ n Cur.x.l Cur.x.l.length Cur.x.l.length ((List.replicate Cur.x.l.length (0:Int)).set ((0:Int)).toNat (-1),0)=some parL:=refPar1 hT hK hn
 rw[h]
 simp only[Option.bind_some]
 rw[if_pos parL_len.symm,dif_pos (by rw[parL_len]; omega)]
 exact⟨_,rfl,rfl⟩
theorem setK_ok {L:List Int}{i:Nat}{ks:List Int}(hk:∀ k∈ks,∃ c:Nat,k=c∧i<c)(hL:∀ c:Nat,0<c→c<L.length→0≤L.getD c 0∧L.getD c 0<c):∀ c:Nat,0<c→c<L.length→0≤(setK L (i:Int) ks).getD c 0∧(setK L (i:Int) ks).getD c 0<c:=by
 unfold setK
 induction ks generalizing L with
 | nil=>exact hL
 | cons k ks ih=>
  intro c h1 h2
  rw[List.foldl_cons]
  obtain⟨d,rfl,hd⟩:=hk k (List.mem_cons_self ..)
  rw[Int.toNat_natCast]
  refine ih (fun k hk'=>hk k (List.mem_cons_of_mem _ hk')) (fun c g1 g2=>?_) c h1 (by rw[List.length_set]; exact h2)
  rw[List.length_set] at g2
  rcases Nat.lt_or_ge d L.length with h3 | h3
  ·rw[qlp_ h3]
   by_cases e:c=d
   ·rw[if_pos e]; omega
   ·rw[if_neg e]; exact hL c g1 g2
  ·rw[List.set_eq_of_length_le h3]; exact hL c g1 g2
theorem qu5_ (hT:Tree):∀ c:Nat,0<c→c<Cur.x.l.length→0≤parL.getD c 0∧parL.getD c 0<c:=by
 have h0:par0.length=Cur.x.l.length:=by unfold par0; rw[List.length_set,List.length_replicate]
 have main:∀ n,n≤Cur.x.l.length→∀ c:Nat,0<c→c<Cur.x.l.length→0≤(parN n par0).getD c 0∧(parN n par0).getD c 0<c:=by
  intro n
  induction n with
  | zero=>
   intro _ c h1 h2
   show 0≤par0.getD c 0∧par0.getD c 0<c
   have:par0.getD c 0=0:=by
    unfold par0
    rw[qlp_ (by rw[List.length_replicate]; omega),if_neg (by omega)]
    simp[List.getD_eq_getElem?_getD,List.getElem?_replicate,h2]
   omega
  | succ n ih=>
   intro hn c h1 h2
   refine setK_ok (fun k hk=>?_) (fun c g1 g2=>ih (by omega) c g1 (by rw[qo7_,h0] at g2; exact g2)) c h1 (by rw[qo7_,h0]; exact h2)
   obtain⟨q,hq,rfl⟩:=qlo_ 0 hk
   obtain⟨c,e,h3,_⟩:=hT.kid (by omega:n<Cur.x.l.length) hq
   exact⟨c,e,h3⟩
 exact main _ (Nat.le_refl _)
end

section
variable [Cur]

theorem Ks.par {i k next e:Nat}{a:Int}(h:Ks i k next a e):i<next→i<Cur.x.l.length→∀ j:Nat,next≤j→j<e→∃ p:Nat,p<j∧p<Cur.x.l.length∧(j:Int)∈kd p:=by
 induction h with
 | done=>exact fun _ _ j h1 h2=>absurd h1 (by omega)
 | @kid i k next e' e a hk hv hn ha h1 h2 ih1 ih2=>
  intro hi hiL j h3 h4
  have l1:=h1.lt
  by_cases e1:j=next
  ·subst e1; exact⟨i,hi,hiL,by rw[←hv]; exact qtr_ hk⟩
  ·rcases Nat.lt_or_ge j e' with h5 | h5
   ·exact ih1 (by omega) hn j (by omega) h5
   ·exact ih2 (by omega) hiL j h5 h4
theorem setK_get {i:Int}{c:Nat}:∀ {ks:List Int} {L:List Int},(∀ k∈ks,0≤k)→c<L.length→(setK L i ks).getD c 0=if (c:Int)∈ks then i else L.getD c 0
 | [],L,_,_=>by rw[if_neg (by simp)]; rfl
 | k::ks,L,hk,hc=>by
  have ih:=setK_get (i:=i) (c:=c) (ks:=ks) (L:=L.set k.toNat i) (fun k h=>hk k (List.mem_cons_of_mem _ h)) (by rw[List.length_set]; exact hc)
  have h0:=hk k (List.mem_cons_self ..)
  show (setK (L.set k.toNat i) i ks).getD c 0=_
  rw[ih]
  by_cases h1:(c:Int)∈ks
  ·rw[if_pos h1,if_pos (List.mem_cons_of_mem _ h1)]
  ·rw[if_neg h1]
   by_cases h2:(c:Int)=k
   ·subst h2
    rw[if_pos (List.mem_cons_self ..),Int.toNat_natCast,qlp_ hc,if_pos rfl]
   ·rw[if_neg (fun h=>by rcases List.mem_cons.1 h with h | h; exact h2 h; exact h1 h)]
    rcases Nat.lt_or_ge k.toNat L.length with h3 | h3
    ·rw[qlp_ h3,if_neg (by omega)]
    ·rw[List.set_eq_of_length_le h3]
theorem kd_nat (hT:Tree){n:Nat}(hn:n<Cur.x.l.length):∀ k∈kd n,∃ c:Nat,k=c∧n<c:=fun k hk=>by
 obtain⟨q,hq,rfl⟩:=qlo_ 0 hk
 obtain⟨c,e,h3,_⟩:=hT.kid hn hq
 exact⟨c,e,h3⟩
theorem parN_mem (hT:Tree){c:Nat}(hc:c<Cur.x.l.length):∀ n,n≤Cur.x.l.length→(∃ p:Nat,p<n∧(c:Int)∈kd p)→∃ p:Nat,(parN n par0).getD c 0=(p:Int)∧p<n∧(c:Int)∈kd p
 | 0,_,⟨p,h,_⟩=>absurd h (Nat.not_lt_zero _)
 | n+1,hn,⟨p,h1,h2⟩=>by
  have h0:par0.length=Cur.x.l.length:=by unfold par0; rw[List.length_set,List.length_replicate]
  have hg:=setK_get (i:=(n:Int)) (c:=c) (ks:=kd n) (L:=parN n par0) (fun k hk=>by obtain⟨d,e,_⟩:=kd_nat hT (by omega:n<Cur.x.l.length) k hk; omega) (by rw[qo7_,h0]; exact hc)
  show ∃ p:Nat,(setK (parN n par0) (n:Int) (kd n)).getD c 0=(p:Int)∧_
  rw[hg]
  by_cases h:(c:Int)∈kd n
  ·rw[if_pos h]; exact⟨n,rfl,Nat.lt_succ_self _,h⟩
  ·rw[if_neg h]
   have:p ≠ n:=fun e=>h (e ▸ h2)
   obtain⟨q,g1,g2,g3⟩:=parN_mem hT hc n (by omega) ⟨p,by omega,h2⟩
   exact⟨q,g1,by omega,g3⟩
end

section
variable [Cur]

theorem Ks.run2 {K i k next e:Nat}{a:Int}(hK:∀ j,(kd j).length≤K)(h:Ks i k next a e):i<next→i<Cur.x.l.length→∀ n f,Cur.x.l.length-i+K+9<n→(kd i).length-k<f→∃ b,b≤toF i∧iterM (qq_ (qk_ n) n Cur.x.l Cur.x.l.length (i:Int)) f ((next:Int),a,(k:Int))=some (.inr ((e:Int),b)):=by
 induction h with
 | @done i k next a hk ha=>
  intro hin hi n f hn hf
  obtain⟨f,rfl⟩:∃ g,f=g+1:=⟨f-1,by omega⟩
  refine⟨a,ha,?_⟩
  rw[qbh_]
  unfold qq_
  dsimp only
  rw[if_pos (by omega),if_pos (by omega)]
  simp only[Option.bind_some,Int.toNat_natCast]
  rw[if_neg (show ¬ (k:Int)<((((Cur.x.l.getD i (0,0,0,0,0,0,nl0,0)).2.2.2.2.2.2.1.l.length:Nat)):Int) from fun hc=>absurd (show k<(kd i).length from Int.ofNat_lt.1 hc) (by omega))]
  rfl
 | @kid i k next e' e a hk hv hn' ha h1 h2 ih1 ih2=>
  intro hin hi n f hn hf
  obtain⟨f,rfl⟩:∃ g,f=g+1:=⟨f-1,by omega⟩
  have hkl:=kd_le i
  have l1:=h1.lt
  obtain⟨m,rfl⟩:∃ m,n=m+1:=⟨n-1,by omega⟩
  obtain⟨b1,hb1,e1⟩:=ih1 (by omega) hn' m m (by omega) (by have:=hK next; omega)
  have hrec:qk_ (m+1) Cur.x.l Cur.x.l.length (next:Int)=some (e':Int):=by
   show qb6_ (qk_ m) m Cur.x.l Cur.x.l.length (next:Int)=_
   unfold qb6_ qc3_
   rw[if_pos (by omega),if_pos (by omega)]
   simp only[Option.bind_some,Int.toNat_natCast]
   rw[w64_inc' (by have:=Cur.x.le; omega)]
   have e1:iterM (qq_ (qk_ m) m Cur.x.l Cur.x.l.length (next:Int)) m (((next+1:Nat):Int),(Cur.x.l.getD next (0,0,0,0,0,0,nl0,0)).2.2.1,0)=some (.inr ((e':Int),b1)):=e1
   rw[e1]
   dsimp only
   rw[if_neg (show ¬ b1 > (Cur.x.l.getD next (0,0,0,0,0,0,nl0,0)).2.2.2.2.1 from fun hc=>absurd (show b1 > toF next from hc) (by omega))]
  obtain⟨b,hb,e2⟩:=ih2 (by omega) hi (m+1) f hn (by omega)
  refine⟨b,hb,?_⟩
  rw[qbh_]
  have hB:qq_ (qk_ (m+1)) (m+1) Cur.x.l Cur.x.l.length (i:Int) ((next:Int),a,(k:Int))=some (.inl ((e':Int),toF next,((k+1:Nat):Int))):=by
   unfold qq_
   dsimp only
   rw[if_pos (by omega),if_pos (by omega)]
   simp only[Option.bind_some,Int.toNat_natCast]
   rw[if_pos (show (k:Int)<((((Cur.x.l.getD i (0,0,0,0,0,0,nl0,0)).2.2.2.2.2.2.1.l.length:Nat)):Int) from Int.ofNat_lt.2 hk),if_pos (show (0:Int)≤(k:Int)∧(k:Int)<((((Cur.x.l.getD i (0,0,0,0,0,0,nl0,0)).2.2.2.2.2.2.1.l.length:Nat)):Int) from⟨Int.natCast_nonneg _,Int.ofNat_lt.2 hk⟩),if_pos (show k<(Cur.x.l.getD i (0,0,0,0,0,0,nl0,0)).2.2.2.2.2.2.1.l.length from hk),if_pos (show (Cur.x.l.getD i (0,0,0,0,0,0,nl0,0)).2.2.2.2.2.2.1.l.getD k 0=(next:Int) from hv),if_neg (by omega),if_pos (by omega),if_pos (show next<Cur.x.l.length by omega),if_neg (show ¬ (Cur.x.l.getD next (0,0,0,0,0,0,nl0,0)).2.2.1<a from fun hc=>absurd (show atF next<a from hc) (by omega)),hrec]
   simp only[Option.bind_some]
   rw[if_neg (by omega),w64_inc' (by omega)]
   rfl
  rw[hB]
  exact e2
theorem endOf2 {K i e:Nat}(hK:∀ j,(kd j).length≤K)(h:Ks i 0 (i+1) (atF i) e)(hi:i<Cur.x.l.length){n:Nat}(hn:Cur.x.l.length-i+K+10<n):qk_ n Cur.x.l Cur.x.l.length (i:Int)=some (e:Int):=by
 obtain⟨m,rfl⟩:∃ m,n=m+1:=⟨n-1,by omega⟩
 obtain⟨b1,hb1,e1⟩:=h.run2 hK (by omega) hi m m (by omega) (by have:=hK i; omega)
 show qb6_ (qk_ m) m Cur.x.l Cur.x.l.length (i:Int)=_
 unfold qb6_ qc3_
 rw[if_pos (by omega),if_pos (by omega)]
 simp only[Option.bind_some,Int.toNat_natCast]
 rw[w64_inc' (by have:=Cur.x.le; omega)]
 have e1:iterM (qq_ (qk_ m) m Cur.x.l Cur.x.l.length (i:Int)) m (((i+1:Nat):Int),(Cur.x.l.getD i (0,0,0,0,0,0,nl0,0)).2.2.1,0)=some (.inr ((e:Int),b1)):=e1
 rw[e1]
 dsimp only
 rw[if_neg (show ¬ b1 > (Cur.x.l.getD i (0,0,0,0,0,0,nl0,0)).2.2.2.2.1 from fun hc=>absurd (show b1 > toF i from hc) (by omega))]
theorem bare_true (n:Nat)(a0 a1 a2 a3 a4 a5:Int)(a6:NL)(a7:Int)(h:SP a1 a2 a3 a4 a5 a6.l.length):qp_ n a0 a1 a2 a3 a4 a5 a6 a7=some true:=by
 obtain⟨h1,h2,h3,h4,h5,h6,h7,h8,h9⟩:=h
 have leaf:=leaf_ok n
 unfold qp_
 rw[if_neg (by omega),if_neg (by omega),if_neg (by omega),if_neg (by omega),if_neg (by omega)]
 have hc:a1=1∨a1=2∨a1=3∨a1=4∨a1=5∨a1=6:=by omega
 rcases hc with rfl | rfl | rfl | rfl | rfl | rfl
 ·have g:=h7 (by omega)
  simp only[leaf,Option.bind_some,Int.reduceEq,reduceIte,g,Bool.false_eq_true]
 ·have g:=h7 (by omega)
  simp only[leaf,Option.bind_some,Int.reduceEq,reduceIte,g,Bool.false_eq_true]
 ·have g:=h6 (by omega)
  have l:=h9 (by omega) (by omega)
  simp only[leaf,Option.bind_some,Int.reduceEq,reduceIte,if_neg (show ¬ a3<a2 by omega),if_neg (show ¬ a3 > a4 by omega),l]
  rfl
 ·have g:=h7 (by omega)
  have g8:=h8 rfl
  have l:=h9 (by omega) (by omega)
  simp only[leaf,Option.bind_some,Int.reduceEq,reduceIte,g,g8,l]
  rfl
 ·have g:=h6 (by omega)
  have l:=h9 (by omega) (by omega)
  simp only[leaf,Option.bind_some,Int.reduceEq,reduceIte,if_neg (show ¬ a3<a2 by omega),if_neg (show ¬ a3 > a4 by omega),l]
  rfl
 ·have g:=h6 (by omega)
  have l:=h9 (by omega) (by omega)
  simp only[leaf,Option.bind_some,Int.reduceEq,reduceIte,if_neg (show ¬ a3<a2 by omega),if_neg (show ¬ a3 > a4 by omega),l]
  rfl
theorem refTrue2 {n:Nat}(hT:Tree)(hn:Cur.x.l.length+Cur.x.l.length+20<n):qbl_ n Cur.x.l Cur.x.l.length=some 0:=by
 have hmax:Cur.x.l.length≤524288:=hT.max
 have hp:0<Cur.x.l.length:=hT.pos
 obtain⟨r,q1,q2⟩:=hoare (B:=qbb_ n Cur.x.l Cur.x.l.length) (σ:=Unit) (fun _ i=>i) (fun _ _=>True) (fun r=>r=.inr ()) Cur.x.l.length
  (fun j _ hj _=>by
   refine .inl ⟨(),trivial,?_⟩
   have hb:=bare_true n (Cur.x.l.getD j d8).1 (Cur.x.l.getD j d8).2.1 (Cur.x.l.getD j d8).2.2.1 (Cur.x.l.getD j d8).2.2.2.1 (Cur.x.l.getD j d8).2.2.2.2.1 (Cur.x.l.getD j d8).2.2.2.2.2.1 (Cur.x.l.getD j d8).2.2.2.2.2.2.1 (Cur.x.l.getD j d8).2.2.2.2.2.2.2 (hT.sp j hj)
   unfold qbb_
   dsimp only
   rw[if_pos (by omega),if_pos (by omega),Int.toNat_natCast,if_pos hj]
   dsimp only[Option.bind_some]
   rw[show qp_ n (Cur.x.l.getD j (0,0,0,0,0,0,nl0,0)).1 (Cur.x.l.getD j (0,0,0,0,0,0,nl0,0)).2.1 (Cur.x.l.getD j (0,0,0,0,0,0,nl0,0)).2.2.1 (Cur.x.l.getD j (0,0,0,0,0,0,nl0,0)).2.2.2.1 (Cur.x.l.getD j (0,0,0,0,0,0,nl0,0)).2.2.2.2.1 (Cur.x.l.getD j (0,0,0,0,0,0,nl0,0)).2.2.2.2.2.1 (Cur.x.l.getD j (0,0,0,0,0,0,nl0,0)).2.2.2.2.2.2.1 (Cur.x.l.getD j (0,0,0,0,0,0,nl0,0)).2.2.2.2.2.2.2=some true from hb]
   dsimp only[Option.bind_some]
   rw[if_pos rfl,w64_inc (by omega)]
   by_cases c:(j:Int) > 0
   ·have g:(Cur.x.l.getD j (0,0,0,0,0,0,nl0,0)).2.1 ≠ 1:=hT.root j (by omega) hj
    rw[if_pos c,if_neg g]
   ·rw[if_neg c])
  (fun _ _=>by
   refine⟨.inr (),rfl,?_⟩
   unfold qbb_
   dsimp only
   rw[if_neg (by omega)])
  n 0 () (Nat.zero_le _) trivial (by omega)
 have q2:qdh_ n Cur.x.l Cur.x.l.length 0=some r:=q2
 have he:qk_ n Cur.x.l Cur.x.l.length 0=some (Cur.x.l.length:Int):=endOf2 (K:=Cur.x.l.length) (fun j=>hT.few j) hT.ks hp (n:=n) (by show Cur.x.l.length-0+Cur.x.l.length+10<n; omega)
 unfold qbl_
 rw[if_neg (by omega),q2,q1]
 dsimp only
 rw[if_neg (by omega),he]
 dsimp only[Option.bind_some]
 rw[if_pos rfl]
end


theorem snoc_range {β:Type}{i:Nat}{F:Nat→β}:(List.range (i+1)).map F=(List.range i).map F ++ [F i]:=by
 rw[List.range_succ,List.map_append]; rfl
theorem appLoop {α β:Type}{B:List α×Int→Option ((List α×Int) ⊕ List α)}(v:α→β)(F:Nat→β)(len C:Nat)
  (h1:∀ (i:Nat) (acc:List α),i<len→acc.length≤C+i→∃ r,v r=F i∧B (acc,(i:Int))=some (.inl (acc ++ [r],((i+1:Nat):Int))))
  (h2:∀ acc,B (acc,(len:Int))=some (.inr acc)) (n:Nat) (acc0:List α) (h0:acc0.length≤C) (hn:len<n) :
  ∃ M,iterM B n (acc0,0)=some (acc0++M)∧M.map v=(List.range len).map F:=by
 obtain⟨r,q1,q2⟩:=hoare (B:=B) (σ:=List α) (fun L i=>(L,i)) (fun i L=>∃ M,L=acc0++M∧M.map v=(List.range i).map F) (fun r=>∃ M,r=acc0++M∧M.map v=(List.range len).map F) len
  (fun i L hi hI=>by
   obtain⟨M,rfl,hM⟩:=hI
   have hl:M.length=i:=by simpa using congrArg List.length hM
   obtain⟨r,g1,g2⟩:=h1 i (acc0++M) hi (by rw[List.length_append]; omega)
   refine .inl ⟨_,⟨M ++ [r],by rw[List.append_assoc],?_⟩,g2⟩
   rw[List.map_append,hM,snoc_range,←g1]; rfl)
  (fun L hI=>⟨L,hI,h2 L⟩) n 0 acc0 (Nat.zero_le _) ⟨[],by simp,rfl⟩ (by omega)
 obtain⟨M,rfl,hM⟩:=q1
 exact⟨M,q2,hM⟩
theorem ext_getD {α:Type}{d:α}{L M:List α}(hl:L.length=M.length)(h:∀ j,j<M.length→L.getD j d=M.getD j d):L=M:=by
 apply List.ext_getElem hl
 intro j h1 h2
 have:=h j h2
 simpa [List.getD_eq_getElem?_getD,h1,h2] using this
theorem range_map {α β:Type}{f:α→β}{d:α}{l:List α}:(List.range l.length).map (fun j=>f (l.getD j d))=l.map f:=by
 apply List.ext_getElem (by simp)
 intro j h1 h2
 have hj:j<l.length:=by simpa using h2
 simp[List.getD_eq_getElem?_getD,hj]
abbrev V8:=Int×Int×Int×Int×Int×Int×List Int×Int
def vw (r:Int×Int×Int×Int×Int×Int×NL×Int):V8:=(r.1,r.2.1,r.2.2.1,r.2.2.2.1,r.2.2.2.2.1,r.2.2.2.2.2.1,r.2.2.2.2.2.2.1.l,r.2.2.2.2.2.2.2)
def mvK (f:Int→Int)(r:V8):V8:=(r.1,r.2.1,r.2.2.1,r.2.2.2.1,r.2.2.2.2.1,r.2.2.2.2.2.1,r.2.2.2.2.2.2.1.map f,r.2.2.2.2.2.2.2)


def ins (i v:Int):Int:=w64 (v+i)
def rk (r:P8)(k:NL):P8:=(r.1,r.2.1,r.2.2.1,r.2.2.2.1,r.2.2.2.2.1,r.2.2.2.2.2.1,k,r.2.2.2.2.2.2.2)
theorem vw_rk {r:P8}{k:NL}{f:Int→Int}(h:k.l=r.2.2.2.2.2.2.1.l.map f):vw (rk r k)=mvK f (vw r):=by
 show (_,_,_,_,_,_,k.l,_)=_
 rw[h]; rfl
def FewK (n:Nat)(L:List P8):Prop:=∀ r∈L,r.2.2.2.2.2.2.1.l.length≤1000000∧r.2.2.2.2.2.2.1.l.length<n
theorem fewD {n:Nat}{L:List P8}(h:FewK n L){i:Nat}(hi:i<L.length):(L.getD i d8).2.2.2.2.2.2.1.l.length≤1000000∧(L.getD i d8).2.2.2.2.2.2.1.l.length<n:=h _ (qtr_ hi)
theorem few_of [Cur](hT:Tree){n:Nat}(hn:Cur.x.l.length<n):FewK n Cur.x.l:=fun r hr=>by
 obtain⟨i,hi,rfl⟩:=qlo_ d8 hr
 have:=hT.few i
 have hm:=hT.max
 exact⟨by show (kd i).length≤_; omega,by show (kd i).length<_; omega⟩
def TreeOf (y:WL rw_iiiiiiLu):Prop:=@Tree _ ⟨y⟩
abbrev KsOf (x:WL rw_iiiiiiLu)(i k next:Nat)(a:Int)(e:Nat):Prop:=@Ks _ ⟨x⟩ i k next a e
abbrev atOf (x:WL rw_iiiiiiLu)(i:Nat):Int:=@atF _ ⟨x⟩ i
def SameB (i:Int)(p q:P8):Prop:=q.1=p.1∧q.2.1=p.2.1∧q.2.2.1=p.2.2.1∧q.2.2.2.1=p.2.2.2.1∧q.2.2.2.2.1=p.2.2.2.2.1∧q.2.2.2.2.2.1=p.2.2.2.2.2.1∧q.2.2.2.2.2.2.1.l=p.2.2.2.2.2.2.1.l.map (fun v=>v-i)
structure Shf (x y:WL rw_iiiiiiLu) (i E:Nat):Prop where
 len:y.l.length=E-i
 row:∀ j,i≤j→j<E→SameB i (x.l.getD j d8) (y.l.getD (j-i) d8)
theorem Shf.kids {x y:WL rw_iiiiiiLu}{i E j:Nat}(h:Shf x y i E)(h1:i≤j)(h2:j<E):@kd _ ⟨y⟩ (j-i)=(@kd _ ⟨x⟩ j).map (fun v=>v-(i:Int)):=(h.row j h1 h2).2.2.2.2.2.2
theorem Shf.at {x y:WL rw_iiiiiiLu}{i E j:Nat}(h:Shf x y i E)(h1:i≤j)(h2:j<E):atOf y (j-i)=atOf x j:=(h.row j h1 h2).2.2.1
theorem Shf.to {x y:WL rw_iiiiiiLu}{i E j:Nat}(h:Shf x y i E)(h1:i≤j)(h2:j<E):@toF _ ⟨y⟩ (j-i)=@toF _ ⟨x⟩ j:=(h.row j h1 h2).2.2.2.2.1
theorem Shf.ks {x y:WL rw_iiiiiiLu}{i E p k next e:Nat}{a:Int}(hS:Shf x y i E)(hE:E≤x.l.length)(hk:KsOf x p k next a e):i≤p→p<E→e≤E→i≤next→KsOf y (p-i) k (next-i) a (e-i):=by
 have hk':@Ks _ ⟨x⟩ p k next a e:=hk
 clear hk
 induction hk' with
 | @done p k next a hk ha=>
  intro h1 h2 h3 h4
  exact @Ks.done _ ⟨y⟩ _ _ _ _ (by rw[hS.kids h1 h2,List.length_map]; exact hk) (by rw[hS.to h1 h2]; exact ha)
 | @kid p k next e' e a hk hv hn ha c1 c2 ih1 ih2=>
  intro h1 h2 h3 h4
  have l1:=@Ks.lt _ ⟨x⟩ _ _ _ _ _ c1
  have l2:=@Ks.lt _ ⟨x⟩ _ _ _ _ _ c2
  have q1:=ih1 h4 (by omega) (by omega) (by omega)
  have q2:=ih2 h1 h2 h3 (by omega)
  refine @Ks.kid _ ⟨y⟩ _ _ _ (e' - i) _ _ ?_ ?_ ?_ ?_ ?_ ?_
  ·rw[hS.kids h1 h2,List.length_map]; exact hk
  ·rw[hS.kids h1 h2]
   have:((@kd _ ⟨x⟩ p).map (fun v=>v-(i:Int))).getD k 0=(@kd _ ⟨x⟩ p).getD k 0-(i:Int):=by
    simp[List.getD_eq_getElem?_getD,hk]
   rw[this,hv]; omega
  ·show next-i<y.l.length
   rw[hS.len]; omega
  ·have g:@atF _ ⟨y⟩ (next-i)=@atF _ ⟨x⟩ next:=hS.at h4 (by omega)
   rw[g]; exact ha
  ·have g:@atF _ ⟨y⟩ (next-i)=@atF _ ⟨x⟩ next:=hS.at h4 (by omega)
   rw[g,show next-i+1=next+1-i by omega]; exact q1
  ·rw[hS.to h4 (by omega)]; exact q2
theorem Shf.tree {x y:WL rw_iiiiiiLu}{i E:Nat}(hS:Shf x y i E)(hT:TreeOf x)(hi:i<E)(hE:E≤x.l.length)(hk:KsOf x i 0 (i+1) (atOf x i) E):TreeOf y:=by
 have hmax:x.l.length≤524288:=@Tree.max _ ⟨x⟩ hT
 have hl:=hS.len
 refine @Tree.mk _ ⟨y⟩ (by show 0<y.l.length; omega) (by show y.l.length≤_; omega) (fun j hj=>?_) (fun j h0 hj=>?_) ?_
 ·have hj:j<y.l.length:=hj
  obtain⟨r1,r2,r3,r4,r5,r6,r7⟩:=hS.row (i+j) (by omega) (by omega)
  rw[show i+j-i=j by omega] at r1 r2 r3 r4 r5 r6 r7
  have h:SP (x.l.getD (i+j) d8).2.1 (x.l.getD (i+j) d8).2.2.1 (x.l.getD (i+j) d8).2.2.2.1 (x.l.getD (i+j) d8).2.2.2.2.1 (x.l.getD (i+j) d8).2.2.2.2.2.1 (x.l.getD (i+j) d8).2.2.2.2.2.2.1.l.length:=@Tree.sp _ ⟨x⟩ hT (i+j) (by show i+j<x.l.length; omega)
  show SP (y.l.getD j d8).2.1 (y.l.getD j d8).2.2.1 (y.l.getD j d8).2.2.2.1 (y.l.getD j d8).2.2.2.2.1 (y.l.getD j d8).2.2.2.2.2.1 (y.l.getD j d8).2.2.2.2.2.2.1.l.length
  rw[r2,r3,r4,r5,r6,r7,List.length_map]
  exact h
 ·have hj:j<y.l.length:=hj
  obtain⟨r1,r2,-⟩:=hS.row (i+j) (by omega) (by omega)
  rw[show i+j-i=j by omega] at r2
  show (y.l.getD j d8).2.1 ≠ 1
  rw[r2]
  exact @Tree.root _ ⟨x⟩ hT (i+j) (by omega) (by show i+j<x.l.length; omega)
 ·have h:=hS.ks hE hk (Nat.le_refl i) hi (Nat.le_refl E) (by omega)
  rw[Nat.sub_self,show i+1-i=1 by omega,←hl] at h
  have ha:=hS.at (Nat.le_refl i) hi
  rw[Nat.sub_self] at ha
  rw[←ha] at h
  exact h
theorem Tree.whole {x:WL rw_iiiiiiLu}(hT:TreeOf x):KsOf x 0 0 (0+1) (atOf x 0) x.l.length:=@Tree.ks _ ⟨x⟩ hT
theorem TreeOf.alike {x y:WL rw_iiiiiiLu}(hT:TreeOf x)(hl:y.l.length=x.l.length)(h:∀ j,j<x.l.length→SameB 0 (x.l.getD j d8) (y.l.getD j d8)):TreeOf y:=by
 have hp:0<x.l.length:=@Tree.pos _ ⟨x⟩ hT
 exact Shf.tree (i:=0) (E:=x.l.length) ⟨hl,fun j _ h2=>h j h2⟩ hT hp (Nat.le_refl _) (Tree.whole hT)
theorem takeS {L:List Int}{q:Nat}(h:q<L.length):L.take (q+1)=L.take q ++ [L.getD q 0]:=by
 rw[List.take_add_one,List.getD_eq_getElem?_getD,List.getElem?_eq_getElem h]; rfl
theorem movedIn {n i:Nat}{by_:Int}{x:WL rw_iiiiiiLu}{r:P8}{acc:List P8}(hi:i<x.l.length)(hr:x.l.getD i d8=r)(hk:r.2.2.2.2.2.2.1.l.length≤1000000)(hn:r.2.2.2.2.2.2.1.l.length<n) :
  ∃ k,qde_ n x by_ (i:Int) r.1 r.2.1 r.2.2.1 r.2.2.2.1 r.2.2.2.2.1 r.2.2.2.2.2.1 r.2.2.2.2.2.2.2 (acc,[],0)=some (acc,k)∧k.l=r.2.2.2.2.2.2.1.l.map (ins by_):=by
 subst hr
 obtain⟨q,⟨k,rfl,hq⟩,q2⟩:=hoare (B:=q7_ n x by_ (i:Int) (x.l.getD i d8).1 (x.l.getD i d8).2.1 (x.l.getD i d8).2.2.1 (x.l.getD i d8).2.2.2.1 (x.l.getD i d8).2.2.2.2.1 (x.l.getD i d8).2.2.2.2.2.1 (x.l.getD i d8).2.2.2.2.2.2.2) (σ:=List Int) (fun L j=>(acc,L,j)) (fun j L=>L=((x.l.getD i d8).2.2.2.2.2.2.1.l.take j).map (ins by_)) (fun q=>∃ k:NL,q=(acc,k)∧k.l=(x.l.getD i d8).2.2.2.2.2.2.1.l.map (ins by_)) (x.l.getD i d8).2.2.2.2.2.2.1.l.length
  (fun j L hj hL=>by
   refine .inl ⟨L ++ [ins by_ ((x.l.getD i d8).2.2.2.2.2.2.1.l.getD j 0)],?_,?_⟩
   ·rw[hL,takeS hj,List.map_append]; rfl
   ·have hlen:L.length=j:=by rw[hL,List.length_map,List.length_take]; omega
    have hj:j<(x.l.getD i (0,0,0,0,0,0,nl0,0)).2.2.2.2.2.2.1.l.length:=hj
    have hk:(x.l.getD i (0,0,0,0,0,0,nl0,0)).2.2.2.2.2.2.1.l.length≤1000000:=hk
    unfold q7_
    dsimp only
    cases acc with
    | nil=>
     cases L with
     | nil=>
      dsimp only
      rw[if_pos (by omega),Int.toNat_natCast]
      try dsimp only[Option.bind_some]
      rw[if_pos (by omega),if_pos (by omega),Int.toNat_natCast,if_pos hj]
      try dsimp only[Option.bind_some]
      rw[w64_inc (by omega)]
      rfl
     | cons a t=>
      dsimp only
      rw[if_pos (by omega),Int.toNat_natCast]
      try dsimp only[Option.bind_some]
      rw[if_pos (by omega),if_pos (by omega),Int.toNat_natCast,if_pos hj]
      try dsimp only[Option.bind_some]
      rw[if_pos (by omega),w64_inc (by omega)]
      rfl
    | cons b u=>
     cases L with
     | nil=>
      dsimp only
      rw[if_pos (by omega),Int.toNat_natCast]
      try dsimp only[Option.bind_some]
      rw[if_pos (by omega),if_pos (by omega),Int.toNat_natCast,if_pos hj]
      try dsimp only[Option.bind_some]
      rw[w64_inc (by omega)]
      rfl
     | cons a t=>
      dsimp only
      rw[if_pos (by omega),Int.toNat_natCast]
      try dsimp only[Option.bind_some]
      rw[if_pos (by omega),if_pos (by omega),Int.toNat_natCast,if_pos hj]
      try dsimp only[Option.bind_some]
      rw[if_pos (by omega),w64_inc (by omega)]
      rfl)
  (fun L hL=>by
   rw[List.take_length] at hL
   have hk:(x.l.getD i (0,0,0,0,0,0,nl0,0)).2.2.2.2.2.2.1.l.length≤1000000:=hk
   have hlen:L.length=(x.l.getD i (0,0,0,0,0,0,nl0,0)).2.2.2.2.2.2.1.l.length:=by rw[hL,List.length_map]; rfl
   unfold q7_
   dsimp only
   cases acc with
   | nil=>
    cases L with
    | nil=>
     dsimp only
     rw[if_pos (by omega),Int.toNat_natCast]
     try dsimp only[Option.bind_some]
     refine⟨_,⟨nl0,rfl,hL⟩,?_⟩
     rw[if_neg (by show ¬ (((x.l.getD i (0,0,0,0,0,0,nl0,0)).2.2.2.2.2.2.1.l.length:Nat):Int)<(((x.l.getD i (0,0,0,0,0,0,nl0,0)).2.2.2.2.2.2.1.l.length:Nat):Int); omega)]
    | cons a t=>
     dsimp only
     rw[if_pos (by omega),Int.toNat_natCast]
     try dsimp only[Option.bind_some]
     refine⟨_,⟨frzL (a::t) (by omega),rfl,hL⟩,?_⟩
     rw[if_neg (by show ¬ (((x.l.getD i (0,0,0,0,0,0,nl0,0)).2.2.2.2.2.2.1.l.length:Nat):Int)<(((x.l.getD i (0,0,0,0,0,0,nl0,0)).2.2.2.2.2.2.1.l.length:Nat):Int); omega),dif_pos (by omega)]
   | cons b u=>
    cases L with
    | nil=>
     dsimp only
     rw[if_pos (by omega),Int.toNat_natCast]
     try dsimp only[Option.bind_some]
     refine⟨_,⟨nl0,rfl,hL⟩,?_⟩
     rw[if_neg (by show ¬ (((x.l.getD i (0,0,0,0,0,0,nl0,0)).2.2.2.2.2.2.1.l.length:Nat):Int)<(((x.l.getD i (0,0,0,0,0,0,nl0,0)).2.2.2.2.2.2.1.l.length:Nat):Int); omega)]
    | cons a t=>
     dsimp only
     rw[if_pos (by omega),Int.toNat_natCast]
     try dsimp only[Option.bind_some]
     refine⟨_,⟨frzL (a::t) (by omega),rfl,hL⟩,?_⟩
     rw[if_neg (by show ¬ (((x.l.getD i (0,0,0,0,0,0,nl0,0)).2.2.2.2.2.2.1.l.length:Nat):Int)<(((x.l.getD i (0,0,0,0,0,0,nl0,0)).2.2.2.2.2.2.1.l.length:Nat):Int); omega),dif_pos (by omega)])
  n 0 [] (Nat.zero_le _) (by simp) (by omega)
 exact⟨k,q2,hq⟩
theorem Tree.kin {x:WL rw_iiiiiiLu}(hT:TreeOf x):∀ r∈x.l,∀ k∈r.2.2.2.2.2.2.1.l,∃ c:Nat,k=c∧c<x.l.length:=fun r hr k hk=>by
 obtain⟨i,hi,rfl⟩:=qlo_ d8 hr
 obtain⟨q,hq,rfl⟩:=qlo_ 0 hk
 obtain⟨c,h1,h2,h3⟩:=@Tree.kid _ ⟨x⟩ hT i q hi hq
 exact⟨c,h1,h3⟩
theorem mv_id {f:Int→Int}{v:V8}(h:∀ k∈v.2.2.2.2.2.2.1,f k=k):mvK f v=v:=by
 obtain⟨a,b,c,d,e,g,l,m⟩:=v
 have:l.map f=l:=by
  conv=>rhs; rw[←List.map_id l]
  exact List.map_congr_left h
 show (a,b,c,d,e,g,l.map f,m)=_
 rw[this]
theorem ins0 {x:WL rw_iiiiiiLu}(hT:TreeOf x):(x.l.map fun r=>mvK (ins 0) (vw r))=x.l.map vw:=by
 have hmax:x.l.length≤524288:=@Tree.max _ ⟨x⟩ hT
 refine List.map_congr_left fun r hr=>mv_id fun k hk=>?_
 obtain⟨c,rfl,hc⟩:=Tree.kin hT r hr k hk
 unfold ins
 rw[Int.add_zero,w64_sm (by omega) (by omega)]
theorem moved_ok {n:Nat}{by_:Int}{x:WL rw_iiiiiiLu}(hp:0<x.l.length)(hk:FewK n x.l)(hx:x.l.length≤1000000)(hn:x.l.length<n) :
  ∃ M,qc0_ n x by_=some M∧M.map vw=x.l.map fun r=>mvK (ins by_) (vw r):=by
 obtain⟨M,h,hM⟩:=appLoop (B:=q9_ n x by_) vw (fun j=>mvK (ins by_) (vw (x.l.getD j d8))) x.l.length 0
  (fun j acc hj hacc=>by
   obtain⟨hf1,hf2⟩:=fewD hk hj
   obtain⟨k,g1,g2⟩:=movedIn (n:=n) (by_:=by_) (acc:=acc) hj rfl hf1 hf2
   refine⟨rk (x.l.getD j d8) k,vw_rk g2,?_⟩
   unfold q9_
   dsimp only
   cases acc with
   | nil=>
    dsimp only
    rw[if_pos (by omega),if_pos (by omega),Int.toNat_natCast]
    try dsimp only[Option.bind_some]
    erw [g1]
    try dsimp only[Option.bind_some]
    rw[w64_inc (by omega)]
    rfl
   | cons a t=>
    dsimp only
    rw[if_pos (by omega),if_pos (by omega),Int.toNat_natCast]
    try dsimp only[Option.bind_some]
    erw [g1]
    try dsimp only[Option.bind_some]
    rw[if_pos (by omega),w64_inc (by omega)]
    rfl)
  (fun acc=>by
   unfold q9_
   dsimp only
   cases acc with
   | nil=>dsimp only; rw[if_neg (by omega)]
   | cons a t=>dsimp only; rw[if_neg (by omega)]) n [] (Nat.zero_le _) hn
 rw[List.nil_append] at h
 have hM':M.map vw=x.l.map fun r=>mvK (ins by_) (vw r):=by rw[hM]; exact range_map (f:=fun r=>mvK (ins by_) (vw r))
 refine⟨M,?_,hM'⟩
 unfold qc0_ qeq_
 rw[h]
 try dsimp only[Option.bind_some]
 cases M with
 | nil=>
  have:=congrArg List.length hM'
  simp at this
  omega
 | cons a t=>rfl
def met0 (v:V8):V8:=(v.1,v.2.1,v.2.2.1,v.2.2.2.1,v.2.2.2.2.1,v.2.2.2.2.2.1,v.2.2.2.2.2.2.1,0)
def m0 (r:P8):P8:=(r.1,r.2.1,r.2.2.1,r.2.2.2.1,r.2.2.2.2.1,r.2.2.2.2.2.1,r.2.2.2.2.2.2.1,0)
theorem bareIn {n:Nat}{L:List P8}(h0:0<L.length)(hL:L.length≤1000000)(hn:L.length<n):qdt_ n L.length (L,0)=some (L.map m0,L.length):=by
 obtain⟨q,rfl,q2⟩:=hoare (B:=qbf_ n L.length) (σ:=List P8) (fun M j=>(M,j)) (fun j M=>M.length=L.length∧∀ k,M.getD k d8=if k<j then m0 (L.getD k d8) else L.getD k d8) (fun q=>q=(L.map m0,L.length)) L.length
  (fun j M hj hM=>by
   refine .inl ⟨M.set j (m0 (M.getD j d8)),⟨by rw[List.length_set]; exact hM.1,fun k=>?_⟩,?_⟩
   ·rw[qlp_ (by omega),hM.2 k,hM.2 j,if_neg (Nat.lt_irrefl j)]
    by_cases e:k=j
    ·subst e; rw[if_pos rfl,if_pos (by omega)]
    ·rw[if_neg e]
     by_cases c:k<j
     ·rw[if_pos c,if_pos (by omega)]
     ·rw[if_neg c,if_neg (by omega)]
   ·have hMl:=hM.1
    unfold qbf_
    dsimp only
    cases M with
    | nil=>simp at hMl; omega
    | cons ma mt=>
    dsimp only
    rw[if_pos (by omega),if_pos (by omega),Int.toNat_natCast,if_pos (by omega)]
    try dsimp only[Option.bind_some]
    rw[w64_inc (by omega)]
    rfl)
  (fun M hM=>by
   have hMl:=hM.1
   have e:M=L.map m0:=by
    refine ext_getD (d:=d8) (by rw[List.length_map]; exact hM.1) fun j hj=>?_
    rw[List.length_map] at hj
    rw[hM.2 j,if_pos hj]
    simp[List.getD_eq_getElem?_getD,hj]
   refine⟨_,rfl,?_⟩
   rw[←e]
   unfold qbf_
   cases M with
   | nil=>
    have:L.length=0:=by simpa using hMl.symm
    omega
   | cons ma mt=>dsimp only; rw[if_neg (by omega)])
  n 0 L (Nat.zero_le _) ⟨rfl,fun k=>by rw[if_neg (Nat.not_lt_zero _)]⟩ (by omega)
 exact q2
theorem rbare_ok {n:Nat}{x:WL rw_iiiiiiLu}(hT:TreeOf x)(hc:q2_ n x=some 0)(hn:x.l.length+x.l.length+20<n):∃ M:List P8,qc9_ n x=some (M,M.length)∧M.map vw=x.l.map fun r=>met0 (vw r):=by
 have hmax:x.l.length≤524288:=@Tree.max _ ⟨x⟩ hT
 have hpos:0<x.l.length:=@Tree.pos _ ⟨x⟩ hT
 obtain⟨M,h,hM⟩:=moved_ok (n:=n) (x:=x) (by_:=0) hpos (@few_of _ ⟨x⟩ hT n (by show x.l.length<n; omega)) (by omega) (by omega)
 have hl:M.length=x.l.length:=by simpa using congrArg List.length hM
 rw[ins0 hT] at hM
 unfold qc9_ qd9_
 rw[hc,h]
 try dsimp only[Option.bind_some]
 rw[if_pos rfl]
 cases M with
 | nil=>simp at hl; omega
 | cons a t=>
 try dsimp only[Option.bind_some]
 rw[bareIn (by omega) (by omega) (by omega)]
 refine⟨(a::t).map m0,by rw[List.length_map]; rfl,?_⟩
 rw[List.map_map,show vw ∘ m0=met0 ∘ vw from rfl,←List.map_map,hM,List.map_map]
 rfl

section
variable [Cur]

theorem stN_get {m m' j:Nat}(h:m≤m')(hm:m'≤Cur.x.l.length)(hj:Cur.x.l.length-m≤j):(stN m').getD j false=(stN m).getD j false:=by
 induction h with
 | refl=>rfl
 | @step m' h ih=>
  rw[←ih (by omega)]
  show (stepS (stN m') (Cur.x.l.length-(m' + 1))).getD j false=_
  unfold stepS
  rw[qwj_ (by rw[qrk_]; omega),if_neg (by have:m≤m':=h; omega)]
theorem anyK_iff {S:List Bool}{ks:List Int}:anyK S ks=true ↔ ∃ k∈ks,S.getD k.toNat false=true:=by
 unfold anyK
 rw[List.any_eq_true]
theorem qr2_ (hT:Tree){i:Nat}(hi:i<Cur.x.l.length):stL.getD i false=true ↔ metF i ≠ 0∨∃ c:Nat,(c:Int)∈kd i∧stL.getD c false=true:=by
 obtain⟨m,hm⟩:∃ m,m+1=Cur.x.l.length-i:=⟨Cur.x.l.length-i-1,by omega⟩
 have e1:stL.getD i false=(stN (m+1)).getD i false:=stN_get (m:=m+1) (m':=Cur.x.l.length) (by omega) (Nat.le_refl _) (by omega)
 have e2:Cur.x.l.length-(m+1)=i:=by omega
 rw[e1]
 show (stepS (stN m) (Cur.x.l.length-(m+1))).getD i false=true ↔ _
 rw[e2]
 unfold stepS
 rw[qwj_ (by rw[qrk_]; exact hi),if_pos rfl,Bool.or_eq_true,decide_eq_true_eq,anyK_iff]
 constructor
 ·rintro (h | ⟨k,h1,h2⟩)
  ·exact .inl h
  ·obtain⟨c,rfl,h3,h4⟩:=kid_mem hT hi k h1
   rw[Int.toNat_natCast] at h2
   refine .inr ⟨c,h1,?_⟩
   rw[←h2]
   exact stN_get (m:=m) (m':=Cur.x.l.length) (by omega) (Nat.le_refl _) (by omega)
 ·rintro (h | ⟨c,h1,h2⟩)
  ·exact .inl h
  ·obtain⟨c',h5,h3,h4⟩:=kid_mem hT hi _ h1
   have:c=c':=by omega
   subst this
   refine .inr ⟨_,h1,?_⟩
   rw[Int.toNat_natCast,←h2]
   exact (stN_get (m:=m) (m':=Cur.x.l.length) (by omega) (Nat.le_refl _) (by omega)).symm
def up:Nat→Nat→List Nat
 | 0,_=>[]
 | f+1,i=>i::(if i=0 then [] else up f (parL.getD i 0).toNat)
theorem up_le (hT:Tree):∀ f i,i<Cur.x.l.length→∀ k∈up f i,k≤i
 | 0,i,_,k,h=>by cases h
 | f+1,i,hi,k,h=>by
  unfold up at h
  rcases List.mem_cons.1 h with h | h
  ·omega
  ·by_cases e:i=0
   ·rw[if_pos e] at h; cases h
   ·rw[if_neg e] at h
    have:=qu5_ hT i (by omega) hi
    have:=up_le hT f _ (by omega) k h
    omega
theorem up_nd (hT:Tree):∀ f i,i<Cur.x.l.length→(up f i).Nodup
 | 0,i,_=>List.nodup_nil
 | f+1,i,hi=>by
  unfold up
  by_cases e:i=0
  ·rw[if_pos e]; simp
  ·rw[if_neg e,List.nodup_cons]
   have:=qu5_ hT i (by omega) hi
   refine⟨fun h=>?_,up_nd hT f _ (by omega)⟩
   have:=up_le hT f _ (by omega) i h
   omega
theorem par_kid (hT:Tree){c:Nat}(h0:0<c)(hc:c<Cur.x.l.length):∃ p:Nat,parL.getD c 0=(p:Int)∧p<c∧(c:Int)∈kd p:=by
 obtain⟨p,h1,h2,h3⟩:=hT.ks.par Nat.zero_lt_one hT.pos c h0 hc
 obtain⟨p,g1,g2,g3⟩:=parN_mem hT hc Cur.x.l.length (Nat.le_refl _) ⟨p,h2,h3⟩
 have:=qu5_ hT c h0 hc
 exact⟨p,g1,by have:parL.getD c 0=(p:Int):=g1; omega,g3⟩
def KP (i k next e p:Nat)(c:Int):Prop:=(p=i∧∃ x,k≤x∧x<(kd i).length∧(kd i).getD x 0=c)∨(next≤p∧p<e∧c∈kd p)
theorem Ks.within {i k next e p:Nat}{a c:Int}(h:Ks i k next a e)(hp:KP i k next e p c):(next:Int)≤c∧c<(e:Int):=by
 rcases hp with⟨rfl,x,h1,h2,rfl⟩ | ⟨h1,h2,h3⟩
 ·obtain⟨d,e1,e2,e3,_⟩:=h.kids x h1 h2
  omega
 ·obtain⟨f,g1,g2⟩:=h.cover p h1 h2
  obtain⟨x,hx,rfl⟩:=qlo_ 0 h3
  obtain⟨d,e1,e2,e3,_⟩:=g2.kids x (Nat.zero_le _) hx
  omega
theorem Ks.one {i k next e:Nat}{a:Int}(h:Ks i k next a e):i<next→∀ (p q:Nat) (c:Int),KP i k next e p c→KP i k next e q c→p=q:=by
 induction h with
 | @done i k next a hk ha=>
  intro hi p q c h1 h2
  rcases h1 with⟨_,x,g1,g2,_⟩ | ⟨g1,g2,_⟩<;>omega
 | @kid i k next e' e a hk hv hn ha h1 h2 ih1 ih2=>
  intro hi p q c hp hq
  have l1:=h1.lt
  have l2:=h2.lt
  have sp:∀ p,KP i k next e p c→(p=i∧c=(next:Int))∨KP next 0 (next+1) e' p c∨KP i (k+1) e' e p c:=by
   intro p h
   rcases h with⟨rfl,x,g1,g2,g3⟩ | ⟨g1,g2,g3⟩
   ·rcases Nat.lt_or_ge k x with g | g
    ·exact .inr (.inr (.inl ⟨rfl,x,g,g2,g3⟩))
    ·obtain rfl:x=k:=by omega
     exact .inl ⟨rfl,by rw[←g3,hv]⟩
   ·rcases Nat.lt_or_ge p e' with g | g
    ·rcases Nat.lt_or_ge next p with k1 | k1
     ·exact .inr (.inl (.inr ⟨k1,g,g3⟩))
     ·obtain rfl:p=next:=by omega
      obtain⟨x,hx,hxc⟩:=qlo_ 0 g3
      exact .inr (.inl (.inl ⟨rfl,x,Nat.zero_le _,hx,hxc⟩))
    ·exact .inr (.inr (.inr ⟨g,g2,g3⟩))
  rcases sp p hp with⟨rfl,g1⟩ | g1 | g1<;>rcases sp q hq with⟨rfl,g2⟩ | g2 | g2
  ·rfl
  ·have:=h1.within g2; omega
  ·have:=h2.within g2; omega
  ·have:=h1.within g1; omega
  ·exact ih1 (by omega) p q c g1 g2
  ·have:=h1.within g1; have:=h2.within g2; omega
  ·have:=h2.within g1; omega
  ·have:=h1.within g2; have:=h2.within g1; omega
  ·exact ih2 (by omega) p q c g1 g2
theorem kid_one (hT:Tree){c p q:Nat}(hp:p<Cur.x.l.length)(hq:q<Cur.x.l.length)(h1:(c:Int)∈kd p)(h2:(c:Int)∈kd q):p=q:=by
 have main:∀ p:Nat,p<Cur.x.l.length→(c:Int)∈kd p→KP 0 0 1 Cur.x.l.length p (c:Int):=by
  intro p hp h
  rcases Nat.eq_zero_or_pos p with rfl | g
  ·obtain⟨x,hx,hxc⟩:=qlo_ 0 h
   exact .inl ⟨rfl,x,Nat.zero_le _,hx,hxc⟩
  ·exact .inr ⟨g,hp,h⟩
 exact hT.ks.one Nat.zero_lt_one p q c (main p hp h1) (main q hq h2)
theorem stale_up (hT:Tree){i:Nat}(hi:i<Cur.x.l.length)(hm:∀ j,j<Cur.x.l.length→(metF j ≠ 0 ↔ j=i)):∀ f,i<f→∀ k,k<Cur.x.l.length→(stL.getD k false=true ↔ k∈up f i):=by
 -- a step up
 have hup:∀ f j,j<f→j<Cur.x.l.length→∀ c,c∈up f j→0<c→(parL.getD c 0).toNat∈up f j:=by
  intro f
  induction f with
  | zero=>intro j h; omega
  | succ f ih=>
   intro j hj hjl c hc h0
   unfold up at hc ⊢
   rcases List.mem_cons.1 hc with h | h
   ·subst h
    have h4:=qu5_ hT c h0 hjl
    rw[if_neg (by omega)]
    refine List.mem_cons_of_mem _ ?_
    obtain⟨g,rfl⟩:∃ g,f=g+1:=⟨f-1,by omega⟩
    unfold up
    exact List.mem_cons_self ..
   ·by_cases e:j=0
    ·rw[if_pos e] at h; cases h
    ·rw[if_neg e] at h ⊢
     have h4:=qu5_ hT j (by omega) hjl
     exact List.mem_cons_of_mem _ (ih _ (by omega) (by omega) c h h0)
 intro f hf
 have fwd:∀ d k,k<Cur.x.l.length→Cur.x.l.length-k≤d→stL.getD k false=true→k∈up f i:=by
  intro d
  induction d with
  | zero=>intro k h1 h2; omega
  | succ d ih=>
   intro k hk hd hs
   rcases (qr2_ hT hk).1 hs with h | ⟨c,h1,h2⟩
   ·have:=(hm k hk).1 h
    subst this
    obtain⟨g,rfl⟩:∃ g,f=g+1:=⟨f-1,by omega⟩
    unfold up
    exact List.mem_cons_self ..
   ·obtain⟨c',e,h3,h4⟩:=kid_mem hT hk _ h1
    obtain rfl:c=c':=by omega
    have hc:=ih c h4 (by omega) h2
    obtain⟨p,g1,g2,g3⟩:=par_kid hT (by omega) h4
    have:p=k:=kid_one hT (by omega) hk g3 h1
    subst this
    have:=hup f i hf hi c hc (by omega)
    rwa [g1,Int.toNat_natCast] at this
 have bwd:∀ f j,j<Cur.x.l.length→stL.getD j false=true→∀ k∈up f j,stL.getD k false=true:=by
  intro f
  induction f with
  | zero=>intro j _ _ k h; cases h
  | succ f ih=>
   intro j hj hs k hk
   unfold up at hk
   rcases List.mem_cons.1 hk with h | h
   ·exact h ▸ hs
   ·by_cases e:j=0
    ·rw[if_pos e] at h; cases h
    ·rw[if_neg e] at h
     obtain⟨p,g1,g2,g3⟩:=par_kid hT (by omega) hj
     rw[g1,Int.toNat_natCast] at h
     exact ih p (by omega) ((qr2_ hT (by omega)).2 (.inr ⟨j,g3,hs⟩)) k h
 intro k hk
 exact⟨fwd _ k hk (Nat.le_refl _),fun h=>bwd f i hi ((qr2_ hT hi).2 (.inl ((hm i hi).2 rfl))) k h⟩
theorem mS_all (hT:Tree){R:List Int}(h:∀ i,i<Cur.x.l.length→stL.getD i false=false):∀ m,m≤Cur.x.l.length→∀ j,Cur.x.l.length-m≤j→j<Cur.x.l.length→(mS R (-1) m).getD j false=true∧(mO R (-1) m).getD j 0=3
 | 0,_,j,h1,h2=>by omega
 | m+1,hm,j,h1,h2=>by
  have ih:=mS_all hT (R:=R) h m (by omega)
  have hb:∀ x,bk (-1) x=true:=fun x=>by simp[bk]
  have hi:Cur.x.l.length-(m+1)<Cur.x.l.length:=by omega
  generalize hq:Cur.x.l.length-(m+1)=i at *
  have hsv:sv R (-1) (mS R (-1) m) i=true:=by
   unfold sv
   by_cases c:inn i=true
   ·rw[if_pos c]
    unfold allK
    rw[List.all_eq_true]
    intro k hk
    obtain⟨c,rfl,g1,g2⟩:=kid_mem hT hi k hk
    rw[Int.toNat_natCast]
    exact (ih c (by omega) g2).1
   ·rw[if_neg c,h i hi,if_neg (by decide)]; exact hb _
  have hov:ov R (-1) (mS R (-1) m) i=3:=by
   unfold ov
   rw[h i hi,if_neg (by decide),hsv,hb]; rfl
  show ((mS R (-1) m).set (Cur.x.l.length-(m+1)) (sv R (-1) (mS R (-1) m) (Cur.x.l.length-(m+1)))).getD j false=true∧((mO R (-1) m).set (Cur.x.l.length-(m+1)) (ov R (-1) (mS R (-1) m) (Cur.x.l.length-(m+1)))).getD j 0=3
  rw[hq,hsv,hov,qwj_ (by rw[mS_len]; exact hi),qlp_ (by rw[mO_len]; exact hi)]
  by_cases e:j=i
  ·rw[if_pos e,if_pos e]; exact⟨rfl,rfl⟩
  ·rw[if_neg e,if_neg e]; exact ih j (by omega) h2
theorem mO_one {R:List Int}{f:Int}:∀ m,m≤Cur.x.l.length→∀ j,Cur.x.l.length-m≤j→j<Cur.x.l.length→(((mO R f m).getD j 0=1 ↔ stL.getD j false=true)∧1≤(mO R f m).getD j 0∧(mO R f m).getD j 0≤3)
 | 0,_,j,h1,h2=>by omega
 | m+1,hm,j,h1,h2=>by
  have ih:=mO_one (R:=R) (f:=f) m (by omega)
  show (((mO R f m).set (Cur.x.l.length-(m+1)) (ov R f (mS R f m) (Cur.x.l.length-(m+1)))).getD j 0=1 ↔ _)∧1≤((mO R f m).set (Cur.x.l.length-(m+1)) (ov R f (mS R f m) (Cur.x.l.length-(m+1)))).getD j 0∧((mO R f m).set (Cur.x.l.length-(m+1)) (ov R f (mS R f m) (Cur.x.l.length-(m+1)))).getD j 0≤3
  rw[qlp_ (by rw[mO_len]; omega)]
  by_cases e:j=Cur.x.l.length-(m+1)
  ·rw[if_pos e,←e]
   unfold ov
   by_cases c:stL.getD j false=true
   ·rw[if_pos c]; exact⟨⟨fun _=>c,fun _=>rfl⟩,by decide,by decide⟩
   ·rw[if_neg c]
    have:∀ z:Bool,((if z=true then (3:Int) else 2)=1 ↔ stL.getD j false=true)∧1≤(if z=true then (3:Int) else 2)∧(if z=true then (3:Int) else 2)≤3:=fun z=>by
     cases z<;>exact⟨⟨fun h=>absurd h (by decide),fun h=>absurd h c⟩,by decide,by decide⟩
    exact this _
  ·rw[if_neg e]; exact ih j (by omega) h2
end


theorem lightP {n mo:Nat}{x:WL rw_iiiiiiLu}(hm:mo≤1000)(hn:mo+5<n):∃ b,qbg_ n x (mo:Int)=some b∧(b=true→x.l.length≤mo∧∀ r∈x.l,r.2.2.1≤1048576∧r.2.2.2.2.1≤1048576∧r.2.2.2.2.2.1≤1048576∧-1048576≤r.2.2.1∧-1048576≤r.2.2.2.2.1∧-1048576≤r.2.2.2.2.2.1):=by
 obtain⟨r,hr,h⟩:=whileI (B:=q5_ n x (mo:Int)) (fun s=>∃ i:Nat,s.2=i∧i≤mo+1∧∀ j,j<i→j<x.l.length→(x.l.getD j d8).2.2.1≤1048576∧(x.l.getD j d8).2.2.2.2.1≤1048576∧(x.l.getD j d8).2.2.2.2.2.1≤1048576∧-1048576≤(x.l.getD j d8).2.2.1∧-1048576≤(x.l.getD j d8).2.2.2.2.1∧-1048576≤(x.l.getD j d8).2.2.2.2.2.1) (fun s=>mo+1-s.2.toNat) (fun r=>r=.inl ()∨∀ j,j<mo+1→j<x.l.length→(x.l.getD j d8).2.2.1≤1048576∧(x.l.getD j d8).2.2.2.2.1≤1048576∧(x.l.getD j d8).2.2.2.2.2.1≤1048576∧-1048576≤(x.l.getD j d8).2.2.1∧-1048576≤(x.l.getD j d8).2.2.2.2.1∧-1048576≤(x.l.getD j d8).2.2.2.2.2.1)
  (fun s hI=>by
   obtain⟨c,q⟩:=s
   obtain⟨i,rfl,hi,hI⟩:=hI
   unfold q5_
   dsimp only
   by_cases c1:(i:Int)<((x.l.length:Nat):Int)
   ·rw[if_pos c1]
    by_cases c2:(i:Int)≤(mo:Int)
    ·rw[if_pos c2,if_pos (by omega),w64_inc (by omega),Int.toNat_natCast]
     simp only[Option.bind_some]
     have hx:x.l.getD i (0,0,0,0,0,0,nl0,0)=x.l.getD i d8:=rfl
     rw[hx]
     by_cases d1:(x.l.getD i d8).2.2.1 > 1048576
     ·rw[if_pos d1]; exact .inr ⟨_,.inl rfl,rfl⟩
     rw[if_neg d1]
     by_cases d2:(x.l.getD i d8).2.2.2.2.1 > 1048576
     ·rw[if_pos d2]; exact .inr ⟨_,.inl rfl,rfl⟩
     rw[if_neg d2]
     by_cases d3:(x.l.getD i d8).2.2.2.2.2.1 > 1048576
     ·rw[if_pos d3]; exact .inr ⟨_,.inl rfl,rfl⟩
     rw[if_neg d3]
     by_cases d4:(x.l.getD i d8).2.2.1 < -1048576
     ·rw[if_pos d4]; exact .inr ⟨_,.inl rfl,rfl⟩
     rw[if_neg d4]
     by_cases d5:(x.l.getD i d8).2.2.2.2.1 < -1048576
     ·rw[if_pos d5]; exact .inr ⟨_,.inl rfl,rfl⟩
     rw[if_neg d5]
     by_cases d6:(x.l.getD i d8).2.2.2.2.2.1 < -1048576
     ·rw[if_pos d6]; exact .inr ⟨_,.inl rfl,rfl⟩
     rw[if_neg d6]
     refine .inl ⟨(_,((i+1:Nat):Int)),⟨i+1,rfl,by omega,fun j h1 h2=>?_⟩,by dsimp only; omega,rfl⟩
     rcases Nat.lt_or_ge j i with h | h
     ·exact hI j h h2
     ·obtain rfl:j=i:=by omega
      omega
    ·rw[if_neg c2]; exact .inr ⟨_,.inr fun j h1 h2=>hI j (by omega) h2,rfl⟩
   ·rw[if_neg c1]; exact .inr ⟨_,.inr fun j h1 h2=>hI j (by omega) h2,rfl⟩) n (0,0) ⟨0,rfl,by omega,fun j h=>absurd h (Nat.not_lt_zero _)⟩ (by dsimp only; omega)
 unfold qbg_ qcm_
 rw[h]
 rcases r with r | r
 ·exact⟨_,rfl,fun h=>by cases h⟩
 ·have hr:=hr.resolve_left (fun h=>by cases h)
  dsimp only
  by_cases c1:((x.l.length:Nat):Int)≤(mo:Int)
  ·rw[if_pos c1]
   have key:x.l.length≤mo∧∀ r∈x.l,r.2.2.1≤1048576∧r.2.2.2.2.1≤1048576∧r.2.2.2.2.2.1≤1048576∧-1048576≤r.2.2.1∧-1048576≤r.2.2.2.2.1∧-1048576≤r.2.2.2.2.2.1:=⟨by omega,fun r hm=>by
    obtain⟨j,hj,rfl⟩:=qlo_ d8 hm
    exact hr j (by omega) hj⟩
   split
   ·exact⟨_,rfl,fun _=>key⟩
   ·exact⟨_,rfl,fun h=>by cases h⟩
  ·rw[if_neg c1]; exact⟨_,rfl,fun h=>by cases h⟩


theorem pickW {n k:Nat}{x:Int}(h0:1≤k)(hk:k≤1000):∃ e:Nat,qd2_ n x (k:Int)=some (e:Int)∧e<k:=by
 have hlt:=Int.tmod_lt_of_pos x (show (0:Int)<(k:Int) by omega)
 have hgt:-(k:Int)<Int.tmod x k:=by
  rw[←Int.neg_neg (Int.tmod x k),←Int.neg_tmod]
  have:=Int.tmod_lt_of_pos (-x) (show (0:Int)<(k:Int) by omega)
  omega
 unfold qd2_
 rw[if_neg (by omega),if_pos (by omega)]
 by_cases h:Int.tmod x k<0
 ·rw[if_pos h,w64_sm (by omega) (by omega)]
  refine⟨(Int.tmod x k+k).toNat,?_,by omega⟩
  rw[Int.toNat_of_nonneg (by omega)]
 ·rw[if_neg h]
  refine⟨(Int.tmod x k).toNat,?_,by omega⟩
  rw[Int.toNat_of_nonneg (by omega)]


theorem qwl_ {α:Type}{k j:Int}{v:α}:∀ {l:List (Int×α)},mgetL j (mputL k v l)=if j=k then some v else mgetL j l
 | []=>by
  show (if k=j then some v else none)=_
  by_cases e:j=k
  ·rw[if_pos e,if_pos e.symm]
  ·rw[if_neg e,if_neg (Ne.symm e)]; rfl
 | p::l=>by
  unfold mputL
  by_cases e:p.1=k
  ·rw[if_pos e]
   show (if k=j then some v else mgetL j l)=_
   by_cases h:j=k
   ·rw[if_pos h,if_pos h.symm]
   ·rw[if_neg h,if_neg (Ne.symm h)]
    show _=(if p.1=j then some p.2 else mgetL j l)
    rw[if_neg (by rw[e]; exact Ne.symm h)]
  ·rw[if_neg e]
   show (if p.1=j then some p.2 else mgetL j (mputL k v l))=if j=k then some v else (if p.1=j then some p.2 else mgetL j l)
   rw[qwl_]
   by_cases h:p.1=j
   ·rw[if_pos h,if_pos h,if_neg (by rw[←h]; exact e)]
   ·rw[if_neg h,if_neg h]
theorem mputL_len {α:Type}{k:Int}{v:α}:∀ {l:List (Int×α)},mgetL k l=none→(mputL k v l).length=l.length+1
 | [],_=>rfl
 | p::l,h=>by
  have h:(if p.1=k then some p.2 else mgetL k l)=none:=h
  unfold mputL
  by_cases e:p.1=k
  ·rw[if_pos e] at h; cases h
  ·rw[if_neg e] at h ⊢
   rw[List.length_cons,mputL_len h,List.length_cons]
def qwm_ (W:MapI Int)(U:List Nat):MapI Int:=U.foldl (fun (W:MapI Int) (k:Nat)=>mPut W ((k:Nat):Int) 1) W
theorem putAll_get:∀ (U:List Nat) (W:MapI Int) (k:Nat),mGet (qwm_ W U) (k:Int)=if k∈U then some 1 else mGet W (k:Int)
 | [],W,k=>by rw[if_neg (by simp)]; rfl
 | u::U,W,k=>by
  show mGet (qwm_ (mPut W (u:Int) 1) U) (k:Int)=_
  rw[putAll_get U]
  by_cases h:k∈U
  ·rw[if_pos h,if_pos (List.mem_cons_of_mem _ h)]
  ·rw[if_neg h]
   show mgetL (k:Int) (mputL (u:Int) 1 W.l)=_
   rw[qwl_]
   by_cases e:k=u
   ·rw[if_pos (by omega),if_pos (by rw[e]; exact List.mem_cons_self ..)]
   ·rw[if_neg (by omega),if_neg (fun h'=>by rcases List.mem_cons.1 h' with h' | h'; exact e h'; exact h h')]; rfl
theorem putAll_len:∀ (U:List Nat) (W:MapI Int),U.Nodup→(∀ k∈U,mGet W ((k:Nat):Int)=none)→mLen (qwm_ W U)=mLen W+U.length
 | [],W,_,_=>rfl
 | u::U,W,hn,hU=>by
  rw[List.nodup_cons] at hn
  show mLen (qwm_ (mPut W (u:Int) 1) U)=_
  rw[putAll_len U _ hn.2 fun k hk=>by
   show mgetL (k:Int) (mputL (u:Int) 1 W.l)=none
   rw[qwl_,if_neg (fun e=>by
    have:k=u:=by omega
    subst this; exact hn.1 hk)]
   exact hU k (List.mem_cons_of_mem _ hk)]
  have:mLen (mPut W (u:Int) 1)=mLen W+1:=mputL_len (hU u (List.mem_cons_self ..))
  rw[this,List.length_cons]
  omega
def cn (p:Nat→Bool):Nat→Nat
 | 0=>0
 | m+1=>cn p m+(if p m=true then 1 else 0)
theorem cn_le {p:Nat→Bool}:∀ m,cn p m≤m
 | 0=>Nat.le_refl _
 | m+1=>by
  have:=cn_le (p:=p) m
  unfold cn
  split<;>omega
theorem cn_congr {p q:Nat→Bool}:∀ m,(∀ j,j<m→p j=q j)→cn p m=cn q m
 | 0,_=>rfl
 | m+1,h=>by
  unfold cn
  rw[cn_congr m fun j hj=>h j (by omega),h m (by omega)]
theorem cn_all {p:Nat→Bool}:∀ m,(∀ j,j<m→p j=true)→cn p m=m
 | 0,_=>rfl
 | m+1,h=>by
  unfold cn
  rw[cn_all m fun j hj=>h j (by omega),if_pos (h m (by omega))]
theorem cn_none {p:Nat→Bool}:∀ m,(∀ j,j<m→p j=false)→cn p m=0
 | 0,_=>rfl
 | m+1,h=>by
  unfold cn
  rw[cn_none m fun j hj=>h j (by omega),h m (by omega)]; rfl
theorem cn_cons {u:Nat}{p:Nat→Bool}(hp:p u=false):∀ m,cn (fun j=>decide (j=u)||p j) m=cn p m+(if u<m then 1 else 0)
 | 0=>rfl
 | m+1=>by
  unfold cn
  rw[cn_cons hp m]
  by_cases e:m=u
  ·subst e
   rw[if_neg (Nat.lt_irrefl _),if_pos (by simp),if_pos (Nat.lt_succ_self _),hp]; rfl
  ·have:(decide (m=u)||p m)=p m:=by simp[e]
   rw[this]
   by_cases h:u<m
   ·rw[if_pos h,if_pos (show u<m+1 by omega)]; omega
   ·rw[if_neg h,if_neg (show ¬ u<m+1 by omega)]; omega
theorem cn_mem:∀ (U:List Nat) (m:Nat),U.Nodup→(∀ k∈U,k<m)→cn (fun j=>decide (j∈U)) m=U.length
 | [],m,_,_=>by rw[cn_none m fun j _=>by simp]; rfl
 | u::U,m,hn,hU=>by
  rw[List.nodup_cons] at hn
  have e:cn (fun j=>decide (j∈u::U)) m=cn (fun j=>decide (j=u)||decide (j∈U)) m:=cn_congr m fun j _=>by simp
  rw[e,cn_cons (by simpa using hn.1) m,cn_mem U m hn.2 fun k hk=>hU k (List.mem_cons_of_mem _ hk),if_pos (hU u (List.mem_cons_self ..))]
  rfl
theorem count_ok {n:Nat}{O:List Int}(hn:O.length<n)(hO:O.length≤1000000)(h13:∀ j,j<O.length→1≤O.getD j 0∧O.getD j 0≤3):∃ c0 c2:Int,qf3_ n O O.length O.length=some (c0,(cn (fun j=>decide (O.getD j 0=1)) O.length:Int),c2,(cn (fun j=>decide (O.getD j 0=3)) O.length:Int)):=by
 obtain⟨r,⟨c0,c2,rfl⟩,q2⟩:=hoare (B:=qdr_ n O O.length O.length (O.length:Int)) (σ:=List Int) (fun s j=>(s,j)) (fun j s=>∃ c2:Nat,c2≤j∧s=[0,(cn (fun j=>decide (O.getD j 0=1)) j:Int),(c2:Int),(cn (fun j=>decide (O.getD j 0=3)) j:Int)]) (fun r=>∃ c0 c2:Int,r=[c0,(cn (fun j=>decide (O.getD j 0=1)) O.length:Int),c2,(cn (fun j=>decide (O.getD j 0=3)) O.length:Int)]) O.length
  (fun j s hj hI=>by
   obtain⟨c2,hc2,rfl⟩:=hI
   obtain⟨h1,h3⟩:=h13 j hj
   have k1:=cn_le (p:=fun j=>decide (O.getD j 0=1)) j
   have k3:=cn_le (p:=fun j=>decide (O.getD j 0=3)) j
   left
   unfold qdr_
   dsimp only
   rw[if_pos (by omega),if_pos (by omega),Int.toNat_natCast,if_pos hj]
   try dsimp only[Option.bind_some]
   rw[if_neg (by omega),if_neg (by omega),w64_inc (by omega)]
   have hc:O.getD j 0=1∨O.getD j 0=2∨O.getD j 0=3:=by omega
   rcases hc with e | e | e
   ·refine⟨_,⟨c2,by omega,rfl⟩,?_⟩
    show _=some (Sum.inl ([0,((cn (fun j=>decide (O.getD j 0=1)) j+(if decide (O.getD j 0=1)=true then 1 else 0):Nat):Int),(c2:Int),((cn (fun j=>decide (O.getD j 0=3)) j+(if decide (O.getD j 0=3)=true then 1 else 0):Nat):Int)],_))
    rw[e,if_pos (by decide),if_pos (by simp)]
    show some (Sum.inl ([0,w64 (((cn (fun j=>decide (O.getD j 0=1)) j:Nat):Int)+1),(c2:Int),((cn (fun j=>decide (O.getD j 0=3)) j:Nat):Int)],_))=_
    rw[w64_inc (by omega)]
    rfl
   ·refine⟨_,⟨c2+1,by omega,rfl⟩,?_⟩
    show _=some (Sum.inl ([0,((cn (fun j=>decide (O.getD j 0=1)) j+(if decide (O.getD j 0=1)=true then 1 else 0):Nat):Int),((c2+1:Nat):Int),((cn (fun j=>decide (O.getD j 0=3)) j+(if decide (O.getD j 0=3)=true then 1 else 0):Nat):Int)],_))
    rw[e,if_pos (by decide),if_pos (by simp)]
    show some (Sum.inl ([0,((cn (fun j=>decide (O.getD j 0=1)) j:Nat):Int),w64 ((c2:Int)+1),((cn (fun j=>decide (O.getD j 0=3)) j:Nat):Int)],_))=_
    rw[w64_inc (by omega)]
    rfl
   ·refine⟨_,⟨c2,by omega,rfl⟩,?_⟩
    show _=some (Sum.inl ([0,((cn (fun j=>decide (O.getD j 0=1)) j+(if decide (O.getD j 0=1)=true then 1 else 0):Nat):Int),(c2:Int),((cn (fun j=>decide (O.getD j 0=3)) j+(if decide (O.getD j 0=3)=true then 1 else 0):Nat):Int)],_))
    rw[e,if_pos (by decide),if_pos (by simp)]
    show some (Sum.inl ([0,((cn (fun j=>decide (O.getD j 0=1)) j:Nat):Int),(c2:Int),w64 (((cn (fun j=>decide (O.getD j 0=3)) j:Nat):Int)+1)],_))=_
    rw[w64_inc (by omega)]
    rfl)
  (fun s hI=>by
   obtain⟨c2,hc2,rfl⟩:=hI
   refine⟨_,⟨0,(c2:Int),rfl⟩,?_⟩
   unfold qdr_
   dsimp only
   rw[if_neg (by omega)])
  n 0 _ (Nat.zero_le _) ⟨0,Nat.le_refl _,rfl⟩ (by omega)
 refine⟨c0,c2,?_⟩
 unfold qf3_
 have q2:qkr_ n O O.length O.length ((O.length:Nat):Int) ([0,0,0,0],0)=_:=q2
 rw[q2]
 try dsimp only[Option.bind_some]
 rw[if_pos (show ([c0,(cn (fun j=>decide (O.getD j 0=1)) O.length:Int),c2,(cn (fun j=>decide (O.getD j 0=3)) O.length:Int)]:List Int).length=4 from rfl)]
 rfl


theorem par_root [Cur](hT:Tree):parL.getD 0 0=-1:=by
 have h0:par0.length=Cur.x.l.length:=by unfold par0; rw[List.length_set,List.length_replicate]
 have hpos:=hT.pos
 have main:∀ n,n≤Cur.x.l.length→(parN n par0).getD 0 0=-1:=by
  intro n
  induction n with
  | zero=>
   intro _
   show par0.getD 0 0=-1
   unfold par0
   rw[qlp_ (by rw[List.length_replicate]; omega),if_pos rfl]
  | succ n ih=>
   intro hn
   show (setK (parN n par0) (n:Int) (kd n)).getD 0 0=-1
   rw[setK_get (c:=0) (fun k hk=>by obtain⟨c,rfl,_⟩:=kd_nat hT (by omega:n<Cur.x.l.length) k hk; omega) (by rw[qo7_,h0]; exact hpos),if_neg (fun hk=>by obtain⟨c,e,h⟩:=kd_nat hT (by omega:n<Cur.x.l.length) _ hk; omega)]
   exact ih (by omega)
 exact main _ (Nat.le_refl _)
theorem wayLoop [Cur]{n c d:Nat}{M:List P8}{O:List Int}{k:NL}(hT:Tree)(hk:k.l=parL):∀ (f i g:Nat) (W:MapI Int),i<f→i<Cur.x.l.length→i+1<g→iterM (qn_ n M c O d k) g (W,(i:Int))=some (qwm_ W (up f i)):=by
 have hkl:k.l.length=Cur.x.l.length:=by rw[hk,parL_len]
 intro f
 induction f with
 | zero=>intro i g W h; omega
 | succ f ih=>
  intro i g W hi hiL hg
  obtain⟨g,rfl⟩:∃ q,g=q+1:=⟨g-1,by omega⟩
  have hB:qn_ n M c O d k (W,(i:Int))=some (.inl (mPut W (i:Int) 1,parL.getD i 0)):=by
   unfold qn_
   dsimp only
   rw[if_pos (by omega),if_pos (by omega),Int.toNat_natCast,if_pos (by omega),hk]
   rfl
  rw[qbh_,hB]
  show iterM _ g (mPut W (i:Int) 1,parL.getD i 0)=some (qwm_ W (i::(if i=0 then [] else up f (parL.getD i 0).toNat)))
  by_cases e:i=0
  ·subst e
   obtain⟨g,rfl⟩:∃ q,g=q+1:=⟨g-1,by omega⟩
   rw[par_root hT,if_pos rfl,qbh_]
   unfold qn_
   dsimp only
   rw[if_neg (by decide)]
   rfl
  ·rw[if_neg e]
   have hp:=qu5_ hT i (by omega) hiL
   obtain⟨p,hpe⟩:∃ p:Nat,parL.getD i 0=(p:Int):=⟨_,(Int.toNat_of_nonneg hp.1).symm⟩
   rw[hpe] at hp ⊢
   rw[Int.toNat_natCast]
   exact ih p g _ (by omega) (by omega) (by omega)
theorem checkLoop {n c:Nat}{M:List P8}{O:List Int}{W:MapI Int}(hc:O.length=c)(hn:c<n)(hL:c≤1000000)(h:∀ j,j<c→(O.getD j 0=1 ↔ mGetI W (j:Int) ≠ 0)):qdv_ n M c O c W 0=some ():=by
 obtain⟨q,hq,q2⟩:=hoare (B:=qu_ n M c O c W) (σ:=Unit) (fun _ j=>j) (fun _ _=>True) (fun q=>q=()) c
  (fun j _ hj _=>by
   refine .inl ⟨(),trivial,?_⟩
   have hh:=h j hj
   unfold qu_
   dsimp only
   rw[if_pos (by omega),if_pos (by omega),Int.toNat_natCast,if_pos (by omega)]
   try dsimp only[Option.bind_some]
   by_cases e:O.getD j 0=1
   ·rw[if_pos e,if_neg (hh.1 e),w64_inc (by omega)]
   ·rw[if_neg e,if_pos (Classical.byContradiction fun h'=>e (hh.2 h')),w64_inc (by omega)])
  (fun _ _=>⟨(),rfl,by unfold qu_; dsimp only; rw[if_neg (by omega)]⟩)
  n 0 () (Nat.zero_le _) trivial (by omega)
 exact q2
theorem marks2 [Cur]{n:Nat}(hT:Tree)(hA:Cur.x.l.length≤120)(hn:2000<n):∃ O,qdg_ n Cur.x.l Cur.x.l.length 2 (-1)=some O∧O.length=Cur.x.l.length∧(∀ j,j<Cur.x.l.length→(O.getD j 0=1 ↔ stL.getD j false=true)∧1≤O.getD j 0∧O.getD j 0≤3)∧((∀ j,j<Cur.x.l.length→metF j=0)→∀ j,j<Cur.x.l.length→O.getD j 0=3):=by
 refine⟨_,marks_ok (K:=120) hT (fun j=>Nat.le_trans (hT.few j) hA) (by omega) hA (by decide),mO_len _,fun j hj=>mO_one _ (Nat.le_refl _) j (by omega) hj,fun h j hj=>?_⟩
 have hs:∀ d i,i<Cur.x.l.length→Cur.x.l.length-i≤d→stL.getD i false=false:=by
  intro d
  induction d with
  | zero=>intro i h1 h2; omega
  | succ d ih=>
   intro i h1 h2
   rw[Bool.eq_false_iff]
   intro hc
   rcases (qr2_ hT h1).1 hc with g | ⟨c,g1,g2⟩
   ·exact g (h i h1)
   ·obtain⟨c',e,k1,k2⟩:=kid_mem hT h1 _ g1
    obtain rfl:c=c':=by omega
    rw[ih c k2 (by omega)] at g2
    cases g2
 exact (mS_all hT (fun i hi=>hs _ i hi (Nat.le_refl _)) _ (Nat.le_refl _) j (by omega) hj).2
theorem or_one (x:Int):bOr .u64 x 1 ≠ 0:=by
 have h:∀ b:BitVec 64,(b ||| 1#64).toNat ≠ 0∧(b ||| 1#64).toNat<18446744073709551616:=fun b=>by
  refine⟨fun h=>?_,(b ||| 1#64).isLt⟩
  have h1:(b ||| 1#64).getLsbD 0=true:=by simp
  rw[BitVec.getLsbD,h] at h1
  simp at h1
 obtain⟨h1,h2⟩:=h (BitVec.ofInt 64 x)
 obtain⟨k,hk⟩:∃ k:Nat,k=(BitVec.ofInt 64 x ||| 1#64).toNat:=⟨_,rfl⟩
 have e:bOr .u64 x 1=IntKind.u64.wrap ((BitVec.ofInt 64 x ||| 1#64).toNat:Int):=rfl
 rw[←hk] at h1 h2 e
 have:IntKind.u64.wrap (k:Int)=(k:Int):=by
  show (k:Int) % 18446744073709551616=_
  omega
 rw[e,this]
 omega
theorem qt7_ (g1 g2:Int):∃ n,qc7_ n g1 g2=some ():=by
 obtain⟨K,hK⟩:=@bound_kd _ ⟨wA⟩
 obtain⟨n,hn⟩:∃ n,n=5000+K+2*wA.l.length:=⟨_,rfl⟩
 refine⟨n,?_⟩
 unfold qc7_ qg0_
 obtain⟨b,hb,hb2⟩:=lightP (n:=n) (mo:=120) (x:=wA) (by decide) (by omega)
 have hb:qbg_ n wA 120=some b:=hb
 rw[hb]
 dsimp only[Option.bind_some]
 by_cases c1:b=true
 case neg=>rw[if_neg c1]
 rw[if_pos c1]
 have hA:wA.l.length≤120:=(hb2 c1).1
 obtain⟨c,hc,hcT⟩:=@refCheck_ok _ ⟨wA⟩ n K hK (by show wA.l.length+K+20<n; omega) (by show wA.l.length≤1000000; omega)
 have hc:q2_ n wA=some c:=hc
 rw[hc]
 dsimp only[Option.bind_some]
 by_cases c2:c=0
 case neg=>rw[if_neg c2]
 rw[if_pos c2]
 subst c2
 have hT:TreeOf wA:=hcT rfl
 have hpos:0<wA.l.length:=@Tree.pos _ ⟨wA⟩ hT
 obtain⟨M,hM,hMv⟩:=rbare_ok hT hc (by omega)
 have hMl:M.length=wA.l.length:=by simpa using congrArg List.length hMv
 have hrow:∀ j,j<wA.l.length→vw (M.getD j d8)=met0 (vw (wA.l.getD j d8)):=fun j hj=>by
  have:=congrArg (fun L=>L.getD j (vw d8)) hMv
  simpa [List.getD_eq_getElem?_getD,hj,hMl ▸ hj] using this
 have tree_of:∀ (L:List P8) (h:L.length≤9223372036854775807),L.length=wA.l.length→(∀ j,j<wA.l.length→∃ m,vw (L.getD j d8)=((vw (wA.l.getD j d8)).1,(vw (wA.l.getD j d8)).2.1,(vw (wA.l.getD j d8)).2.2.1,(vw (wA.l.getD j d8)).2.2.2.1,(vw (wA.l.getD j d8)).2.2.2.2.1,(vw (wA.l.getD j d8)).2.2.2.2.2.1,(vw (wA.l.getD j d8)).2.2.2.2.2.2.1,m))→TreeOf (frzR rwo_iiiiiiLu L h):=fun L h hl hr=>by
  refine hT.alike (y:=frzR rwo_iiiiiiLu L h) hl fun j hj=>?_
  obtain⟨m,e⟩:=hr j hj
  simp only[vw,Prod.mk.injEq] at e
  obtain⟨e1,e2,e3,e4,e5,e6,e7,_⟩:=e
  refine⟨e1,e2,e3,e4,e5,e6,?_⟩
  show (L.getD j d8).2.2.2.2.2.2.1.l=_
  rw[e7]
  simp
 rw[hM]
 cases M with
 | nil=>simp at hMl; omega
 | cons a t=>
 try dsimp only[Option.bind_some]
 have hy:TreeOf (frzR rwo_iiiiiiLu (a::t) (by omega)):=tree_of _ _ hMl fun j hj=>⟨0,hrow j hj⟩
 obtain⟨O,h1,h2,h3,h4⟩:=@marks2 _ ⟨frzR rwo_iiiiiiLu (a::t) (by omega)⟩ n hy (by show (a::t).length≤120; omega) (by omega)
 have h1:qdg_ n (a::t) (a::t).length 2 (-1)=some O:=h1
 have h2:O.length=(a::t).length:=h2
 have h3:∀ j,j<(a::t).length→_:=h3
 have h4:∀ j,j<(a::t).length→O.getD j 0=3:=h4 fun j hj=>by
  show ((a::t).getD j d8).2.2.2.2.2.2.2=0
  have:=hrow j (by have hj:j<(a::t).length:=hj; omega)
  simp only[vw,met0,Prod.mk.injEq] at this
  exact this.2.2.2.2.2.2.2
 obtain⟨k0,k2,hcnt⟩:=count_ok (n:=n) (O:=O) (by omega) (by omega) fun j hj=>(h3 j (by omega)).2
 rw[h1]
 dsimp only[Option.bind_some]
 simp only[Int.toNat_natCast]
 rw[←h2,hcnt]
 dsimp only[Option.bind_some]
 rw[cn_all O.length fun j hj=>by rw[h4 j (by omega)]; rfl]
 rw[if_pos (by omega)]
 obtain⟨e,he,hel⟩:=pickW (n:=n) (k:=wA.l.length) (x:=g1) (by omega) (by omega)
 rw[he]
 dsimp only[Option.bind_some]
 rw[if_pos (by omega),Int.toNat_natCast,if_pos (by omega)]
 try dsimp only[Option.bind_some]
 obtain⟨M2,hM2⟩:∃ M2:List P8,M2=(a::t).set e (((a::t).getD e (0,0,0,0,0,0,nl0,0)).1,((a::t).getD e (0,0,0,0,0,0,nl0,0)).2.1,((a::t).getD e (0,0,0,0,0,0,nl0,0)).2.2.1,((a::t).getD e (0,0,0,0,0,0,nl0,0)).2.2.2.1,((a::t).getD e (0,0,0,0,0,0,nl0,0)).2.2.2.2.1,((a::t).getD e (0,0,0,0,0,0,nl0,0)).2.2.2.2.2.1,((a::t).getD e (0,0,0,0,0,0,nl0,0)).2.2.2.2.2.2.1,bOr .u64 g2 1):=⟨_,rfl⟩
 rw[←hM2]
 have hl2:M2.length=(a::t).length:=by rw[hM2,List.length_set]
 have hg2:∀ j,M2.getD j d8=if j=e then (((a::t).getD e d8).1,((a::t).getD e d8).2.1,((a::t).getD e d8).2.2.1,((a::t).getD e d8).2.2.2.1,((a::t).getD e d8).2.2.2.2.1,((a::t).getD e d8).2.2.2.2.2.1,((a::t).getD e d8).2.2.2.2.2.2.1,bOr .u64 g2 1) else (a::t).getD j d8:=fun j=>by
  rw[hM2,qlp_ (by omega)]; rfl
 have hy2:TreeOf (frzR rwo_iiiiiiLu M2 (by omega)):=tree_of _ _ (by omega) fun j hj=>by
  have hr:=hrow j hj
  rw[hg2]
  by_cases ej:j=e
  ·subst ej
   rw[if_pos rfl]
   simp only[vw,met0,Prod.mk.injEq] at hr
   obtain⟨e1,e2,e3,e4,e5,e6,e7,_⟩:=hr
   exact⟨bOr .u64 g2 1,by simp only[vw,e1,e2,e3,e4,e5,e6,e7]⟩
  ·rw[if_neg ej]; exact⟨0,hr⟩
 have hmet:∀ j,j<M2.length→((M2.getD j d8).2.2.2.2.2.2.2 ≠ 0 ↔ j=e):=fun j hj=>by
  rw[hg2]
  by_cases ej:j=e
  ·rw[if_pos ej]; exact⟨fun _=>ej,fun _=>or_one g2⟩
  ·rw[if_neg ej]
   have:=hrow j (by omega)
   simp only[vw,met0,Prod.mk.injEq] at this
   exact⟨fun h=>absurd this.2.2.2.2.2.2.2 h,fun h=>absurd h ej⟩
 letI:Cur:=⟨frzR rwo_iiiiiiLu M2 (by omega)⟩
 have hTy:Tree:=hy2
 obtain⟨O2,p1,p2,p3,_⟩:=marks2 (n:=n) hTy (by show M2.length≤120; omega) (by omega)
 have p1:qdg_ n M2 M2.length 2 (-1)=some O2:=p1
 have p2:O2.length=M2.length:=p2
 have hck:qbl_ n M2 M2.length=some 0:=refTrue2 hTy (by show M2.length+M2.length+20<n; omega)
 obtain⟨k,hk1,hk2⟩:=refPar (n:=n) (K:=M2.length) hTy (fun j=>hTy.few j) (by show M2.length+M2.length<n; omega) hck
 have hk1:qbo_ n M2 M2.length=some k:=hk1
 have hU:∀ j,j<M2.length→(stL.getD j false=true ↔ j∈up (e+1) e):=stale_up hTy (show e<M2.length by omega) hmet (e+1) (Nat.lt_succ_self e)
 have hnd:(up (e+1) e).Nodup:=up_nd hTy (e+1) e (show e<M2.length by omega)
 have hle:∀ j∈up (e+1) e,j<M2.length:=fun j hj=>by
  have:=up_le hTy (e+1) e (show e<M2.length by omega) j hj
  omega
 rw[show O.length=M2.length by omega,p1]
 dsimp only[Option.bind_some]
 rw[if_pos trivial,hk1]
 dsimp only[Option.bind_some]
 have hw:qdw_ n M2 M2.length O2 M2.length k (mNil,(e:Int))=some (qwm_ mNil (up (e+1) e)):=wayLoop hTy hk2 (e+1) e n mNil (Nat.lt_succ_self e) (show e<M2.length by omega) (by omega)
 rw[hw]
 dsimp only[Option.bind_some]
 have hget:∀ j:Nat,mGetI (qwm_ mNil (up (e+1) e)) (j:Int) ≠ 0 ↔ j∈up (e+1) e:=fun j=>by
  unfold mGetI
  rw[putAll_get]
  by_cases h:j∈up (e+1) e
  ·rw[if_pos h]; exact⟨fun _=>h,fun _=>by decide⟩
  ·rw[if_neg h]; exact⟨fun g=>absurd rfl g,fun g=>absurd g h⟩
 have hlen:mLen (qwm_ (mNil:MapI Int) (up (e+1) e))=(up (e+1) e).length:=by
  rw[putAll_len _ _ hnd fun k _=>rfl]
  show 0+_=_
  omega
 rw[checkLoop p2 (by omega) (by omega) fun j hj=>((p3 j hj).1.trans (hU j hj)).trans (hget j).symm]
 dsimp only[Option.bind_some]
 obtain⟨q0,q2,hcn⟩:=count_ok (n:=n) (O:=O2) (by omega) (by omega) fun j hj=>(p3 j (show j<M2.length by omega)).2
 rw[p2] at hcn
 rw[hcn]
 dsimp only[Option.bind_some]
 have hfin:cn (fun j=>decide (O2.getD j 0=1)) M2.length=(up (e+1) e).length:=by
  rw[←cn_mem (up (e+1) e) M2.length hnd hle]
  exact cn_congr _ fun j hj=>by
   have:=(p3 j hj).1.trans (hU j hj)
   by_cases h:j∈up (e+1) e
   ·rw[decide_eq_true (this.2 h),decide_eq_true h]
   ·rw[decide_eq_false (fun g=>h (this.1 g)),decide_eq_false h]
 rw[hfin,hlen,if_pos rfl]

end Go.Proofs.YtleifgniphogeaaGreatDoor.mwh19
