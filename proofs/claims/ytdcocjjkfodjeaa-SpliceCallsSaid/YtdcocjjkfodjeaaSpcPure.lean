/-
  The pure side. No condition.
-/
import Derived.Test.YtdcocjjkfodjeaaSpcCTold
import Derived.IntWalk
set_option linter.unusedSimpArgs false
set_option linter.unusedVariables false
set_option linter.unusedSectionVars false
set_option linter.unnecessarySimpa false
noncomputable section
namespace Go.Proofs.Ytdcocjjkfodjeaa.spc20
open Go Go.Proofs.Ytdcocjjkfodjeaa Ax
variable [Args]


theorem w64_id {x:Int}(h1:-9223372036854775808≤x)(h2:x<9223372036854775808):w64 x=x:=IntWalk.i64_in _ (by omega)
theorem qy6_ {x:Int}(h1:-1000000000000≤x)(h2:x≤1000000000000):w64 x=x:=w64_id (by omega) (by omega)
theorem w64_inc {i:Nat}(h:i≤1000000000):w64 ((i:Int)+1)=((i+1:Nat):Int):=by rw[qy6_ (by omega) (by omega)]; rfl
theorem whileI {st ρ:Type}{B:st→Option (st ⊕ ρ)}(I:st→Prop)(μ:st→Nat)(Q:ρ→Prop)(h:∀ s,I s→(∃ s',I s'∧μ s' < μ s∧B s=some (.inl s'))∨∃ r,Q r∧B s=some (.inr r)):∀ (n:Nat) (s:st),I s→μ s<n→∃ r,Q r∧iterM B n s=some r
 | 0,s,_,hm=>absurd hm (Nat.not_lt_zero _)
 | n+1,s,hi,hm=>by
  rcases h s hi with⟨s',h1,h2,h3⟩ | ⟨r,h1,h2⟩
  ·obtain⟨r,q1,q2⟩:=whileI I μ Q h n s' h1 (by omega)
   exact⟨r,q1,by rw[qc0_,h3]; exact q2⟩
  ·exact⟨r,h1,by rw[qc0_,h2]; rfl⟩
theorem hoare {σ st ρ:Type}{B:st→Option (st ⊕ ρ)}(S:σ→Int→st)(I:Nat→σ→Prop)(Q:ρ→Prop)(len:Nat)
  (h1:∀ (i:Nat) (s:σ),i<len→I i s→(∃ s',I (i+1) s'∧B (S s (i:Int))=some (.inl (S s' ((i+1:Nat):Int))))∨∃ r,Q r∧B (S s (i:Int))=some (.inr r))
  (h2:∀ s,I len s→∃ r,Q r∧B (S s (len:Int))=some (.inr r)):∀ (n i:Nat) (s:σ),i≤len→I i s→len-i<n→∃ r,Q r∧iterM B n (S s (i:Int))=some r
 | 0,i,s,_,_,hm=>absurd hm (Nat.not_lt_zero _)
 | n+1,i,s,hl,hi,hm=>by
  have main:(∃ s',i<len∧I (i+1) s'∧B (S s (i:Int))=some (.inl (S s' ((i+1:Nat):Int))))∨∃ r,Q r∧B (S s (i:Int))=some (.inr r):=by
   by_cases hlt:i<len
   ·rcases h1 i s hlt hi with⟨s',a,b⟩ | h
    ·exact .inl ⟨s',hlt,a,b⟩
    ·exact .inr h
   ·obtain rfl:i=len:=by omega
    exact .inr (h2 s hi)
  rcases main with⟨s',g0,g1,g3⟩ | ⟨r,g1,g2⟩
  ·obtain⟨r,q1,q2⟩:=hoare S I Q len h1 h2 n (i+1) s' (by omega) g1 (by omega)
   exact⟨r,q1,by rw[qc0_,g3]; exact q2⟩
  ·exact⟨r,g1,by rw[qc0_,g2]; rfl⟩
theorem qog_ {α:Type}{l:List α}{i:Nat}{d:α}(h:i<l.length):l.getD i d∈l:=by
 rw[List.getD_eq_getElem?_getD,List.getElem?_eq_getElem h]; exact List.getElem_mem h
theorem qjr_ {α:Type}{l:List α}{x:α}(d:α)(h:x∈l):∃ i,i<l.length∧l.getD i d=x:=by
 obtain⟨i,hi,rfl⟩:=List.mem_iff_getElem.1 h
 exact⟨i,hi,by simp[List.getD_eq_getElem?_getD,hi]⟩
theorem qnh_ {α:Type}{l:List α}{i j:Nat}{x d:α}(h:i<l.length):(l.set i x).getD j d=if j=i then x else l.getD j d:=by
 simp only[List.getD_eq_getElem?_getD,List.getElem?_set]
 by_cases hj:i=j
 ·subst hj; simp[h]
 ·rw[if_neg hj,if_neg (Ne.symm hj)]
class Cur where
 x:WL rw_iiiiiiLu

section
variable [Cur]

abbrev P8:=Int×Int×Int×Int×Int×Int×NL×Int
def d8:P8:=(0,0,0,0,0,0,nl0,0)
def pt (i:Nat):P8:=Cur.x.l.getD i (0,0,0,0,0,0,nl0,0)
def kd (i:Nat):List Int:=(pt i).2.2.2.2.2.2.1.l
def atF (i:Nat):Int:=(pt i).2.2.1
def toF (i:Nat):Int:=(pt i).2.2.2.2.1
theorem kd_le (i:Nat):(kd i).length≤140737488355328:=(pt i).2.2.2.2.2.2.1.le
theorem w64_inc' {i:Nat}(h:i<9223372036854775807):w64 ((i:Int)+1)=((i+1:Nat):Int):=by
 rw[w64_id (by omega) (by omega)]; rfl
theorem bound_all {α:Type}(f:α→Nat):∀ l:List α,∃ K,∀ x∈l,f x≤K
 | []=>⟨0,fun x h=>by cases h⟩
 | a::l=>by
  obtain⟨K,hK⟩:=bound_all f l
  refine⟨max (f a) K,fun x hx=>?_⟩
  rcases List.mem_cons.1 hx with rfl | hx
  ·exact Nat.le_max_left _ _
  ·exact Nat.le_trans (hK x hx) (Nat.le_max_right _ _)
theorem bound_kd:∃ K,∀ i,(kd i).length≤K:=by
 obtain⟨K,hK⟩:=bound_all (fun x:P8=>x.2.2.2.2.2.2.1.l.length) Cur.x.l
 refine⟨K,fun i=>?_⟩
 rcases Nat.lt_or_ge i Cur.x.l.length with h | h
 ·exact hK (pt i) (qog_ h)
 ·have:pt i=d8:=by unfold pt; rw[List.getD_eq_getElem?_getD,List.getElem?_eq_none h]; rfl
  unfold kd; rw[this]; exact Nat.zero_le _
inductive Ks:Nat→Nat→Nat→Int→Nat→Prop
 | done {i k next:Nat} {a:Int} (hk:k=(kd i).length) (ha:a≤toF i):Ks i k next a next
 | kid {i k next e' e:Nat} {a:Int} (hk:k<(kd i).length) (hv:(kd i).getD k 0=(next:Int)) (hn:next<Cur.x.l.length) (ha:a≤atF next) (h1:Ks next 0 (next+1) (atF next) e') (h2:Ks i (k+1) e' (toF next) e):Ks i k next a e
theorem Ks.lt {i k next e:Nat}{a:Int}(h:Ks i k next a e):next≤e:=by
 induction h with
 | done=>exact Nat.le_refl _
 | kid _ _ _ _ _ _ ih1 ih2=>omega
theorem Ks.len {i k next e:Nat}{a:Int}(h:Ks i k next a e):k≤(kd i).length:=by
 cases h with
 | done hk=>omega
 | kid hk=>omega
theorem Ks.hi {i k next e:Nat}{a:Int}(h:Ks i k next a e):next≤Cur.x.l.length→e≤Cur.x.l.length:=by
 induction h with
 | done=>exact id
 | kid hk hv hn ha _ _ ih1 ih2=>exact fun _=>ih2 (ih1 (by omega))
theorem Ks.cover {i k next e:Nat}{a:Int}(h:Ks i k next a e):∀ j,next≤j→j<e→∃ f,f≤e∧Ks j 0 (j+1) (atF j) f:=by
 induction h with
 | done=>exact fun j h1 h2=>absurd h1 (by omega)
 | @kid i k next e' e a hk hv hn ha h1 h2 ih1 ih2=>
  intro j h3 h4
  have l2:=h2.lt
  by_cases e1:j=next
  ·subst e1; exact⟨e',l2,h1⟩
  ·rcases Nat.lt_or_ge j e' with h5 | h5
   ·obtain⟨f,g1,g2⟩:=ih1 j (by omega) h5
    exact⟨f,by omega,g2⟩
   ·exact ih2 j h5 h4
theorem Ks.kids {i k next e:Nat}{a:Int}(h:Ks i k next a e):∀ q,k≤q→q<(kd i).length→∃ c:Nat,(kd i).getD q 0=(c:Int)∧next≤c∧c<e∧c<Cur.x.l.length:=by
 induction h with
 | done hk=>exact fun q h1 h2=>by omega
 | @kid i k next e' e a hk hv hn ha h1 h2 ih1 ih2=>
  intro q h3 h4
  have l1:=h1.lt
  have l2:=h2.lt
  by_cases e1:q=k
  ·subst e1; exact⟨next,hv,Nat.le_refl _,by omega,hn⟩
  ·obtain⟨c,g1,g2,g3,g4⟩:=ih2 q (by omega) h4
   exact⟨c,g1,by omega,g3,g4⟩
theorem Ks.mono {i k next e:Nat}{a:Int}(h:Ks i k next a e)(hs:∀ j,j<Cur.x.l.length→atF j≤toF j):a≤toF i:=by
 induction h with
 | done _ ha=>exact ha
 | @kid i k next e' e a hk hv hn ha h1 h2 ih1 ih2=>
  have:=hs next hn
  omega

theorem end_ok:∀ (n i:Nat) (K:Nat),(∀ j,(kd j).length≤K)→i<Cur.x.l.length→Cur.x.l.length-i+K+10<n→∃ r,qd_ n Cur.x (i:Int)=some r∧(0≤r→∃ e:Nat,r=e∧Ks i 0 (i+1) (atF i) e)
 | 0,i,K,hK,hi,hn=>absurd hn (Nat.not_lt_zero _)
 | n+1,i,K,hK,hi,hn=>by
  have hrec:∀ j:Nat,i<j→j<Cur.x.l.length→∃ r,qd_ n Cur.x (j:Int)=some r∧(0≤r→∃ e:Nat,r=e∧Ks j 0 (j+1) (atF j) e):=fun j h1 h2=>end_ok n j K hK h2 (by omega)
  have hkl:=kd_le i
  have loop:∀ (f k:Nat) (next:Int) (a:Int),k≤(kd i).length→(i:Int)<next→(kd i).length-k<f →
    ∃ r,iterM (qo_ (qd_ n) n Cur.x (i:Int)) f (next,a,(k:Int))=some r∧(r=.inl ()∨∃ (e:Nat) (b:Int),r=.inr ((e:Int),b)∧(b≤toF i→∃ q:Nat,next=q∧Ks i k q a e)):=by
   intro f
   induction f with
   | zero=>intro k next a _ _ h; exact absurd h (Nat.not_lt_zero _)
   | succ f ih=>
    intro k next a hk hnx hf
    rw[qc0_]
    unfold qo_
    dsimp only
    rw[if_pos (by omega)]
    simp only[Option.bind_some,Int.toNat_natCast]
    change ∃ r,((if (k:Int)<((((kd i).length:Nat)):Int) then _ else _:Option _).bind _)=some r∧_
    by_cases hlt:k<(kd i).length
    ·rw[if_pos (by omega)]
     change ∃ r,((if 0≤(k:Int)∧(k:Int)<(((kd i).length:Nat):Int) then (if k<(kd i).length then (if (kd i).getD k 0=next then _ else _) else _) else _:Option _).bind _)=some r∧_
     rw[if_pos (by omega),if_pos hlt]
     by_cases hv:(kd i).getD k 0=next
     ·rw[if_pos hv]
      by_cases hN:next ≥ ((Cur.x.l.length:Nat):Int)
      ·rw[if_pos hN]
       exact⟨_,rfl,.inl rfl⟩
      ·rw[if_neg hN,if_pos (by omega)]
       obtain⟨q,rfl⟩:∃ q:Nat,next=q:=⟨next.toNat,by omega⟩
       simp only[Int.toNat_natCast]
       change ∃ r,((if atF q<a then _ else _:Option _).bind _)=some r∧_
       by_cases ha:atF q<a
       ·rw[if_pos ha]; exact⟨_,rfl,.inl rfl⟩
       ·rw[if_neg ha]
        obtain⟨r,e1,e2⟩:=hrec q (by omega) (by omega)
        rw[e1]
        simp only[Option.bind_some]
        by_cases hr:r<0
        ·rw[if_pos hr]; exact⟨_,rfl,.inl rfl⟩
        ·rw[if_neg hr]
         obtain⟨e',rfl,hks⟩:=e2 (by omega)
         have l1:=hks.lt
         rw[w64_inc' (by omega)]
         simp only[Option.bind_some]
         obtain⟨r2,g1,g2⟩:=ih (k+1) (e':Int) (toF q) (by omega) (by omega) (by omega)
         refine⟨r2,g1,?_⟩
         rcases g2 with g2 | ⟨e,b,g3,g4⟩
         ·exact .inl g2
         ·refine .inr ⟨e,b,g3,fun hb=>?_⟩
          obtain⟨q',h1,h2⟩:=g4 hb
          obtain rfl:e'=q':=by omega
          exact⟨q,rfl,.kid hlt hv (by omega) (by omega) hks h2⟩
     ·rw[if_neg hv]; exact⟨_,rfl,.inl rfl⟩
    ·rw[if_neg (by omega)]
     refine⟨_,rfl,.inr ⟨next.toNat,a,?_,fun hb=>⟨next.toNat,by omega,.done (by omega) hb⟩⟩⟩
     rw[Int.toNat_of_nonneg (by omega)]
  show ∃ r,qbp_ (qd_ n) n Cur.x (i:Int)=some r∧_
  unfold qbp_ qc2_
  rw[if_pos (by omega)]
  simp only[Option.bind_some,Int.toNat_natCast]
  rw[w64_inc' (by have:=Cur.x.le; omega)]
  obtain⟨r,e1,e2⟩:=loop n 0 ((i+1:Nat):Int) (atF i) (Nat.zero_le _) (by omega) (by have:=hK i; omega)
  have e1:iterM (qo_ (qd_ n) n Cur.x (i:Int)) n (((i+1:Nat):Int),(Cur.x.l.getD i (0,0,0,0,0,0,nl0,0)).2.2.1,0)=some r:=e1
  rw[e1]
  rcases e2 with rfl | ⟨e,b,rfl,e3⟩
  ·exact⟨_,rfl,fun h=>absurd h (by decide)⟩
  ·change ∃ r,(if b > toF i then some (-1) else some (e:Int))=some r∧_
   by_cases hb:b > toF i
   ·rw[if_pos hb]; exact⟨_,rfl,fun h=>absurd h (by decide)⟩
   ·rw[if_neg hb]
    refine⟨_,rfl,fun _=>⟨e,rfl,?_⟩⟩
    obtain⟨q,h1,h2⟩:=e3 (by omega)
    obtain rfl:i+1=q:=by omega
    exact h2
end

section
variable [Cur]

structure SP (a1 a2 a3 a4 a5:Int) (len:Nat):Prop where
 k1:1≤a1
 k6:a1≤6
 a0:0≤a2
 at_:a2≤a4
 lk:a2<a5
 tok:(a1=3∨a1=5∨a1=6)→a2≤a3∧a3≤a4
 non:(a1=1∨a1=2∨a1=4)→a3=a2
 mis:a1=4→a2=a4
 leaf:a1 ≠ 1→a1 ≠ 2→len=0
theorem leaf_ok (n:Nat)(a:Int):qy_ n a=some (if a=1 then false else if a=2 then false else true):=by
 unfold qy_
 repeat' split
 all_goals rfl
theorem bare_ok' (n:Nat)(a0 a1 a2 a3 a4 a5:Int)(a6:NL)(a7:Int)(o:Option Bool)(h:q9_ n a0 a1 a2 a3 a4 a5 a6 a7=o):o=some false∨(o=some true∧SP a1 a2 a3 a4 a5 a6.l.length):=by
 unfold q9_ at h
 simp only[leaf_ok,Option.bind_some] at h
 have leaf:∀ o,(if (if a1=1 then false else if a1=2 then false else true)=true then if ((a6.l.length:Nat):Int)=0 then some true else some false else some true)=o→o=some false∨(o=some true∧(a1 ≠ 1→a1 ≠ 2→a6.l.length=0)):=by
  intro o h
  by_cases c1:a1=1
  ·rw[if_pos c1,if_neg (by decide)] at h
   exact .inr ⟨h.symm,fun h=>absurd c1 h⟩
  rw[if_neg c1] at h
  by_cases c2:a1=2
  ·rw[if_pos c2,if_neg (by decide)] at h
   exact .inr ⟨h.symm,fun _ h=>absurd c2 h⟩
  rw[if_neg c2,if_pos rfl] at h
  by_cases cl:((a6.l.length:Nat):Int)=0
  ·rw[if_pos cl] at h
   exact .inr ⟨h.symm,fun _ _=>by omega⟩
  ·rw[if_neg cl] at h
   exact .inl h.symm
 by_cases c1:a1<1
 ·rw[if_pos c1] at h; exact .inl h.symm
 rw[if_neg c1] at h
 by_cases c2:a1 > 6
 ·rw[if_pos c2] at h; exact .inl h.symm
 rw[if_neg c2] at h
 by_cases c3:a2<0
 ·rw[if_pos c3] at h; exact .inl h.symm
 rw[if_neg c3] at h
 by_cases c4:a2 > a4
 ·rw[if_pos c4] at h; exact .inl h.symm
 rw[if_neg c4] at h
 by_cases c5:a5≤a2
 ·rw[if_pos c5] at h; exact .inl h.symm
 rw[if_neg c5] at h
 have tok:∀ (g:Option Bool) (k:a1=3∨a1=5∨a1=6),(if a3<a2 then some false else if a3 > a4 then some false else if a1=4 then g else (if (if a1=1 then false else if a1=2 then false else true)=true then if ((a6.l.length:Nat):Int)=0 then some true else some false else some true))=o→o=some false∨(o=some true∧SP a1 a2 a3 a4 a5 a6.l.length):=by
  intro g k h
  by_cases d1:a3<a2
  ·rw[if_pos d1] at h; exact .inl h.symm
  rw[if_neg d1] at h
  by_cases d2:a3 > a4
  ·rw[if_pos d2] at h; exact .inl h.symm
  rw[if_neg d2,if_neg (by omega)] at h
  rcases leaf o h with h | ⟨h,hl⟩
  ·exact .inl h
  ·exact .inr ⟨h,by omega,by omega,by omega,by omega,by omega,fun _=>by omega,fun _=>by omega,fun _=>by omega,hl⟩
 by_cases k3:a1=3
 ·rw[if_pos k3] at h; exact tok _ (by omega) h
 rw[if_neg k3] at h
 by_cases k5:a1=5
 ·rw[if_pos k5] at h; exact tok _ (by omega) h
 rw[if_neg k5] at h
 by_cases k6:a1=6
 ·rw[if_pos k6] at h; exact tok _ (by omega) h
 rw[if_neg k6] at h
 by_cases d3:¬ a3=a2
 ·rw[if_neg d3] at h; exact .inl h.symm
 have d3:=Decidable.not_not.1 d3
 rw[if_pos d3] at h
 by_cases k4:a1=4
 ·rw[if_pos k4] at h
  by_cases d4:a2=a4
  ·rw[if_pos d4] at h
   rcases leaf o h with h | ⟨h,hl⟩
   ·exact .inl h
   ·exact .inr ⟨h,by omega,by omega,by omega,by omega,by omega,fun _=>by omega,fun _=>by omega,fun _=>by omega,hl⟩
  ·rw[if_neg d4] at h; exact .inl h.symm
 ·rw[if_neg k4] at h
  rcases leaf o h with h | ⟨h,hl⟩
  ·exact .inl h
  ·exact .inr ⟨h,by omega,by omega,by omega,by omega,by omega,fun _=>by omega,fun _=>by omega,fun _=>by omega,hl⟩
theorem bare_ok (n:Nat)(a0 a1 a2 a3 a4 a5:Int)(a6:NL)(a7:Int):∃ b,q9_ n a0 a1 a2 a3 a4 a5 a6 a7=some b∧(b=true→SP a1 a2 a3 a4 a5 a6.l.length):=by
 rcases bare_ok' n a0 a1 a2 a3 a4 a5 a6 a7 _ rfl with h | ⟨h,h2⟩
 ·exact⟨false,h,fun h=>by cases h⟩
 ·exact⟨true,h,fun _=>h2⟩
theorem sound_ok (n:Nat)(a0 a1 a2 a3 a4 a5:Int)(a6:NL)(a7:Int)(h:SP a1 a2 a3 a4 a5 a6.l.length):qet_ n a0 a1 a2 a3 a4 a5 a6 a7=some true:=by
 obtain⟨h1,h2,h3,h4,h5,h6,h7,h8,h9⟩:=h
 unfold qet_
 rw[if_neg (by omega),if_neg (by omega),if_neg (by omega)]
 by_cases c1:a1=1
 ·rw[if_pos c1,if_pos (h7 (by omega))]
 rw[if_neg c1]
 by_cases c2:a1=2
 ·rw[if_pos c2,if_pos (h7 (by omega))]
 rw[if_neg c2]
 have hl:=h9 c1 c2
 by_cases c4:a1=4
 ·have:=h8 c4
  rw[if_pos c4,if_pos (h7 (by omega)),if_pos (by omega),if_pos (by omega)]
 rw[if_neg c4]
 have ht:=h6 (by omega)
 by_cases c3:a1=3
 ·rw[if_pos c3,if_pos (by omega),if_pos (by omega),if_pos (by omega)]
 rw[if_neg c3]
 by_cases c5:a1=5
 ·rw[if_pos c5,if_pos (by omega),if_pos (by omega),if_pos (by omega)]
 rw[if_neg c5,if_pos (by omega),if_pos (by omega),if_pos (by omega),if_pos (by omega)]

def SPi (i:Nat):Prop:=SP (pt i).2.1 (pt i).2.2.1 (pt i).2.2.2.1 (pt i).2.2.2.2.1 (pt i).2.2.2.2.2.1 (kd i).length
structure Tree:Prop where
 pos:0<Cur.x.l.length
 max:Cur.x.l.length≤524288
 sp:∀ i,i<Cur.x.l.length→SPi i
 root:∀ i,0<i→i<Cur.x.l.length→(pt i).2.1 ≠ 1
 ks:Ks 0 0 1 (atF 0) Cur.x.l.length
theorem check1_ok {n:Nat}(hn:Cur.x.l.length<n)(hL:Cur.x.l.length≤1000000):∃ r,qdb_ n Cur.x 0=some r∧(r=.inr ()→∀ i,i<Cur.x.l.length→SPi i∧(0<i→(pt i).2.1 ≠ 1)):=by
 obtain⟨r,q1,q2⟩:=hoare (B:=qq_ n Cur.x) (σ:=Unit) (fun _ i=>i) (fun i _=>∀ j,j<i→SPi j∧(0<j→(pt j).2.1 ≠ 1)) (fun r=>r=.inr ()→∀ i,i<Cur.x.l.length→SPi i∧(0<i→(pt i).2.1 ≠ 1)) Cur.x.l.length
  (fun i s hi hI=>by
   obtain⟨b,e1,e2⟩:=bare_ok n (pt i).1 (pt i).2.1 (pt i).2.2.1 (pt i).2.2.2.1 (pt i).2.2.2.2.1 (pt i).2.2.2.2.2.1 (pt i).2.2.2.2.2.2.1 (pt i).2.2.2.2.2.2.2
   have hB:qq_ n Cur.x (i:Int)=((q9_ n (pt i).1 (pt i).2.1 (pt i).2.2.1 (pt i).2.2.2.1 (pt i).2.2.2.2.1 (pt i).2.2.2.2.2.1 (pt i).2.2.2.2.2.2.1 (pt i).2.2.2.2.2.2.2).bind fun y=>if y=true then (if (i:Int) > 0 then (if (pt i).2.1=1 then some (.inr (.inl ())) else some (.inl (w64 ((i:Int)+1)))) else some (.inl (w64 ((i:Int)+1)))) else some (.inr (.inl ()))):=by
    unfold qq_
    dsimp only
    rw[if_pos (by omega),if_pos (by omega)]
    simp only[Option.bind_some,Int.toNat_natCast]
    rfl
   rw[hB]
   rw[e1,w64_inc (by omega)]
   simp only[Option.bind_some]
   cases b with
   | false=>
    rw[if_neg (by decide)]
    exact .inr ⟨.inl (),(fun h=>by cases h),rfl⟩
   | true=>
    have hsp:SPi i:=e2 rfl
    rw[if_pos rfl]
    have go:(0<i→(pt i).2.1 ≠ 1)→∀ j,j<i+1→SPi j∧(0<j→(pt j).2.1 ≠ 1):=fun h j hj=>by
     rcases Nat.lt_or_ge j i with h1 | h1
     ·exact hI j h1
     ·obtain rfl:j=i:=by omega
      exact⟨hsp,h⟩
    by_cases c1:(i:Int) > 0
    ·rw[if_pos c1]
     by_cases c2:(pt i).2.1=1
     ·rw[if_pos c2]
      exact .inr ⟨.inl (),(fun h=>by cases h),rfl⟩
     ·rw[if_neg c2]
      exact .inl ⟨(),go fun _=>c2,rfl⟩
    ·rw[if_neg c1]
     exact .inl ⟨(),go fun h=>absurd h (by omega),rfl⟩)
  (fun s hI=>by
   unfold qq_
   dsimp only
   rw[if_neg (by omega)]
   exact⟨_,fun _=>hI,rfl⟩) n 0 () (Nat.zero_le _) (fun j hj=>absurd hj (Nat.not_lt_zero _)) (by omega)
 exact⟨r,q2,q1⟩
theorem refCheck_ok {n K:Nat}(hK:∀ j,(kd j).length≤K)(hn:Cur.x.l.length+K+20<n)(hL:Cur.x.l.length≤1000000):∃ c,qe_ n Cur.x=some c∧(c=0→Tree):=by
 unfold qe_
 by_cases c1:((Cur.x.l.length:Nat):Int) > 524288
 ·rw[if_pos c1]; exact⟨_,rfl,fun h=>absurd h (by decide)⟩
 rw[if_neg c1]
 obtain⟨r,e1,e2⟩:=check1_ok (n:=n) (by omega) hL
 rw[e1]
 rcases r with r | r
 ·exact⟨_,rfl,fun h=>absurd h (by decide)⟩
 ·dsimp only
  have e2:=e2 rfl
  by_cases c2:((Cur.x.l.length:Nat):Int)=0
  ·rw[if_pos c2]; exact⟨_,rfl,fun h=>absurd h (by decide)⟩
  rw[if_neg c2]
  obtain⟨q,g1,g2⟩:=end_ok n 0 K hK (by omega) (by omega)
  have g1:qd_ n Cur.x 0=some q:=g1
  rw[g1]
  simp only[Option.bind_some]
  by_cases c3:q=((Cur.x.l.length:Nat):Int)
  ·rw[if_pos c3]
   refine⟨_,rfl,fun _=>?_⟩
   obtain⟨e,h1,h2⟩:=g2 (by omega)
   obtain rfl:e=Cur.x.l.length:=by omega
   exact⟨by omega,by omega,fun i hi=>(e2 i hi).1,fun i h0 hi=>(e2 i hi).2 h0,h2⟩
  ·rw[if_neg c3]; exact⟨_,rfl,fun h=>absurd h (by decide)⟩
end

section
variable [Cur]

abbrev E3:=Int×Int×Int
abbrev OSt:=List E3×Nat×Int
def Rch (n:Nat)(x y:OSt)(m:Nat):Prop:=∀ f,iterM (qh_ n Cur.x (Cur.x.l.length:Int)) (f+m) x=iterM (qh_ n Cur.x (Cur.x.l.length:Int)) f y
theorem Rch.refl (n:Nat)(x:OSt):Rch n x x 0:=fun _=>rfl
theorem Rch.step {n:Nat}{x y z:OSt}{m:Nat}(h:qh_ n Cur.x (Cur.x.l.length:Int) x=some (.inl y))(k:Rch n y z m):Rch n x z (m+1):=fun f=>by
 rw[←Nat.add_assoc,qc0_,h]
 exact k f
theorem Rch.trans {n:Nat}{x y z:OSt}{m k:Nat}(h:Rch n x y m)(j:Rch n y z k):Rch n x z (m+k):=fun f=>by
 have:=h (f+k)
 rw[show f+k+m=f+(m+k) by omega] at this
 rw[this,j f]
theorem take_last {S:List E3}{s:Nat}{R:List E3}{x:E3}(hs:s≤S.length)(h:S.take s=R ++ [x]):s=R.length+1∧S.getD R.length (0,0,0)=x∧S.take R.length=R:=by
 have hl:=congrArg List.length h
 rw[List.length_take,Nat.min_eq_left hs,List.length_append,List.length_singleton] at hl
 subst hl
 refine⟨rfl,?_,?_⟩
 ·have h2:(S.take (R.length+1))[R.length]?=(R ++ [x])[R.length]?:=by rw[h]
  rw[List.getElem?_take_of_lt (Nat.lt_succ_self _),List.getElem?_append_right (Nat.le_refl _),Nat.sub_self] at h2
  rw[List.getD_eq_getElem?_getD,h2]; rfl
 ·have h2:=congrArg (List.take R.length) h
  rw[List.take_take,Nat.min_eq_left (Nat.le_succ _),List.take_left] at h2
  exact h2
theorem take_set {S R:List E3}{y:E3}(hs:R.length<S.length)(h:S.take R.length=R):(S.set R.length y).take (R.length+1)=R ++ [y]:=by
 rw[List.take_add_one,List.take_set_of_le (Nat.le_refl _),h,List.getElem?_set_self hs]; rfl
theorem take_set0 {S R:List E3}{y:E3}(h:S.take R.length=R):(S.set R.length y).take R.length=R:=by
 rw[List.take_set_of_le (Nat.le_refl _),h]
theorem ne_cons {S:List E3}(h:0<S.length):∃ a t,S=a::t:=by
 cases S with
 | nil=>simp at h
 | cons a t=>exact⟨a,t,rfl⟩
theorem inB {n i p k s:Nat}{a:Int}{S R:List E3}(h0:0<i)(hi:i<Cur.x.l.length)(hL:Cur.x.l.length≤1000000)(hs:s≤S.length)(h:S.take s=R ++ [((p:Int),(k:Int),a)])(hp:p<Cur.x.l.length)(hk:k<(kd p).length)(hv:(kd p).getD k 0=(i:Int))(ha:a≤atF i)(ht:toF i≤toF p)(hR:R.length≤1000000) :
  ∃ S' s',qh_ n Cur.x (Cur.x.l.length:Int) (S,s,(i:Int))=some (.inl (S',s',((i+1:Nat):Int)))∧s'≤S'.length∧0<S'.length∧S'.take s'=(if k+1<(kd p).length then R ++ [((p:Int),((k+1:Nat):Int),toF i)] else R)++(if 0<(kd i).length then [((i:Int),0,atF i)] else []):=by
 obtain⟨rfl,hx,hR0⟩:=take_last hs h
 have hkl:=kd_le p
 have hw:w64 (((R.length+1:Nat):Int)-1)=((R.length:Nat):Int):=by rw[qy6_ (by omega) (by omega)]; omega
 have hw2:w64 ((i:Int)+1)=((i+1:Nat):Int):=w64_inc (by omega)
 have hw3:w64 ((k:Int)+1)=((k+1:Nat):Int):=w64_inc' (by omega)
 obtain⟨b,T,rfl⟩:=ne_cons (S:=S) (by omega)
 have e1:qh_ n Cur.x (Cur.x.l.length:Int) (b::T,R.length+1,(i:Int)) =
   (if (w64 ((k:Int)+1))=(((kd p).length:Nat):Int) then
    if (((kd i).length:Nat):Int) > 0 then
     if R.length≤((b::T).set R.length ((p:Int),w64 ((k:Int)+1),toF i)).length then
      if (R.length+1)*24≤140737488355328 then
       some (.inl (List.take R.length ((b::T).set R.length ((p:Int),w64 ((k:Int)+1),toF i)) ++ [((i:Int),0,atF i)],(List.take R.length ((b::T).set R.length ((p:Int),w64 ((k:Int)+1),toF i)) ++ [((i:Int),(0:Int),atF i)]).length,w64 ((i:Int)+1)))
      else none
     else none
    else some (.inl ((b::T).set R.length ((p:Int),w64 ((k:Int)+1),toF i),R.length,w64 ((i:Int)+1)))
   else
    if (((kd i).length:Nat):Int) > 0 then
     if R.length+1≤((b::T).set R.length ((p:Int),w64 ((k:Int)+1),toF i)).length then
      if (R.length+1+1)*24≤140737488355328 then
       some (.inl (List.take (R.length+1) ((b::T).set R.length ((p:Int),w64 ((k:Int)+1),toF i)) ++ [((i:Int),0,atF i)],(List.take (R.length+1) ((b::T).set R.length ((p:Int),w64 ((k:Int)+1),toF i)) ++ [((i:Int),(0:Int),atF i)]).length,w64 ((i:Int)+1)))
      else none
     else none
    else some (.inl ((b::T).set R.length ((p:Int),w64 ((k:Int)+1),toF i),R.length+1,w64 ((i:Int)+1)))):=by
  unfold qh_
  dsimp only
  rw[if_pos (by omega),if_pos (by omega)]
  simp only[Option.bind_some,Int.toNat_natCast]
  rw[if_pos (by omega),if_neg (by omega),hw]
  simp only[Int.toNat_natCast]
  rw[if_pos (by omega),if_pos (by omega),hx]
  simp only[Option.bind_some,Int.toNat_natCast]
  rw[if_pos (by omega)]
  have hk2:((0:Int)≤(k:Int)∧(k:Int)<(((Cur.x.l.getD p (0,0,0,0,0,0,nl0,0)).2.2.2.2.2.2.1.l.length:Nat):Int)):=⟨by omega,by have:k<(Cur.x.l.getD p (0,0,0,0,0,0,nl0,0)).2.2.2.2.2.2.1.l.length:=hk; omega⟩
  rw[if_pos hk2,if_pos (show k<(Cur.x.l.getD p (0,0,0,0,0,0,nl0,0)).2.2.2.2.2.2.1.l.length from hk)]
  have hv2:(Cur.x.l.getD p (0,0,0,0,0,0,nl0,0)).2.2.2.2.2.2.1.l.getD k 0=(i:Int):=hv
  rw[hv2]
  simp only[Option.bind_some]
  rw[if_pos trivial,if_neg (show ¬ (Cur.x.l.getD i (0,0,0,0,0,0,nl0,0)).2.2.1<a from fun h=>absurd (show atF i<a from h) (by omega)),if_neg (show ¬ (Cur.x.l.getD i (0,0,0,0,0,0,nl0,0)).2.2.2.2.1 > (Cur.x.l.getD p (0,0,0,0,0,0,nl0,0)).2.2.2.2.1 from fun h=>absurd (show toF i > toF p from h) (by omega)),if_pos (show (0:Int)≤((R.length:Nat):Int)∧((R.length:Nat):Int)≤((R.length+1:Nat):Int) by omega)]
  rfl
 rw[e1,hw2,hw3]
 by_cases c1:((k+1:Nat):Int)=(((kd p).length:Nat):Int)
 ·rw[if_pos c1,if_neg (show ¬ k+1<(kd p).length by omega)]
  have ht0:=take_set0 (y:=((p:Int),((k+1:Nat):Int),toF i)) hR0
  by_cases c2:(((kd i).length:Nat):Int) > 0
  ·rw[if_pos c2,if_pos (show 0<(kd i).length by omega),if_pos (by rw[List.length_set]; omega),if_pos (by omega),ht0]
   exact⟨_,_,rfl,Nat.le_refl _,by simp,by rw[List.take_length]⟩
  ·rw[if_neg c2,if_neg (show ¬ 0<(kd i).length by omega),List.append_nil]
   exact⟨_,_,rfl,by rw[List.length_set]; omega,by rw[List.length_set]; omega,ht0⟩
 ·rw[if_neg c1,if_pos (show k+1<(kd p).length by omega)]
  have ht1:=take_set (y:=((p:Int),((k+1:Nat):Int),toF i)) (by omega) hR0
  by_cases c2:(((kd i).length:Nat):Int) > 0
  ·rw[if_pos c2,if_pos (show 0<(kd i).length by omega),if_pos (by rw[List.length_set]; omega),if_pos (by omega),ht1]
   exact⟨_,_,rfl,Nat.le_refl _,by simp,by rw[List.take_length]⟩
  ·rw[if_neg c2,if_neg (show ¬ 0<(kd i).length by omega),List.append_nil]
   exact⟨_,_,rfl,by rw[List.length_set]; omega,by rw[List.length_set]; omega,ht1⟩
theorem Ks.sim {n i k next e:Nat}{a:Int}(h:Ks i k next a e)(hL:Cur.x.l.length≤1000000)(hs:∀ j,j<Cur.x.l.length→atF j≤toF j):i<next→i<Cur.x.l.length→∀ (S:List E3) (s:Nat) (R:List E3),R.length+1≤next→0<S.length→s≤S.length→S.take s=(if k<(kd i).length then R ++ [((i:Int),(k:Int),a)] else R) →
  ∃ S' s',s'≤S'.length∧0<S'.length∧S'.take s'=R∧Rch n (S,s,(next:Int)) (S',s',(e:Int)) (e-next):=by
 induction h with
 | @done i k next a hk ha=>
  intro _ hi S s R hR h0 hs h
  rw[if_neg (by omega)] at h
  exact⟨S,s,hs,h0,h,by rw[Nat.sub_self]; exact Rch.refl n _⟩
 | @kid i k next e' e a hk hv hn ha h1 h2 ih1 ih2=>
  intro hin hi S s R hR h0 hs' h
  rw[if_pos hk] at h
  have l1:=h1.lt
  have l2:=h2.lt
  have hm:=h2.mono hs
  obtain⟨S1,s1,b1,b2,b3,b4⟩:=inB (n:=n) (by omega) hn hL hs' h hi hk hv ha hm (by omega)
  obtain⟨S2,s2,c1,c2,c3,c4⟩:=ih1 (by omega) hn S1 s1 (if k+1<(kd i).length then R ++ [((i:Int),((k+1:Nat):Int),toF next)] else R) (by split<;>simp<;>omega) b3 b2 (by
   rw[b4]
   by_cases hz:0<(kd next).length
   ·rw[if_pos hz,if_pos hz]; rfl
   ·rw[if_neg hz,if_neg hz,List.append_nil])
  obtain⟨S3,s3,d1,d2,d3,d4⟩:=ih2 (by omega) hi S2 s2 R (by omega) c2 c1 c3
  refine⟨S3,s3,d1,d2,d3,?_⟩
  have:=(Rch.step b1 c4).trans d4
  rwa [show e' - (next+1)+1+(e-e')=e-next by omega] at this
theorem inOrder_ok {n:Nat}(hT:Tree)(hn:Cur.x.l.length<n):qes_ n Cur.x=some true:=by
 have hL:Cur.x.l.length≤1000000:=by have:=hT.max; omega
 have hs:∀ j,j<Cur.x.l.length→atF j≤toF j:=fun j hj=>(hT.sp j hj).at_
 have hpos:=hT.pos
 have hw:w64 ((0:Int)+1)=((0+1:Nat):Int):=by decide
 unfold qes_ qgr_
 obtain⟨m,rfl⟩:∃ m,n=m+1:=⟨n-1,by omega⟩
 rw[qc0_]
 have hB0:qh_ (m+1) Cur.x (Cur.x.l.length:Int) ([],0,0)=if (((kd 0).length:Nat):Int) > 0 then some (.inl ([(0,0,atF 0)],1,w64 ((0:Int)+1))) else some (.inl ([],0,w64 ((0:Int)+1))):=by
  unfold qh_
  dsimp only
  rw[if_pos (by omega),if_pos (by omega)]
  simp only[Option.bind_some]
  rw[if_neg (by omega)]
  rfl
 rw[hB0,hw]
 by_cases hz:0<(kd 0).length
 ·rw[if_pos (by omega)]
  simp only[Option.bind_some]
  obtain⟨S,s,h1,h2,h3,h4⟩:=hT.ks.sim (n:=m+1) hL hs (by omega) hpos [(0,0,atF 0)] 1 [] (by simp) (by simp) (by simp) (by rw[if_pos hz]; rfl)
  have h4:=h4 (m-(Cur.x.l.length-1))
  rw[show m-(Cur.x.l.length-1)+(Cur.x.l.length-(0+1))=m by omega] at h4
  have h4:iterM (qh_ (m+1) Cur.x (Cur.x.l.length:Int)) m ([(0,0,atF 0)],1,((0+1:Nat):Int))=_:=h4
  rw[h4]
  obtain⟨q,hq⟩:∃ q,m-(Cur.x.l.length-1)=q+1:=⟨m-(Cur.x.l.length-1)-1,by omega⟩
  rw[hq,qc0_]
  have hs0:s=0:=by
   have:=congrArg List.length h3
   rw[List.length_take,List.length_nil] at this
   omega
  subst hs0
  obtain⟨b,T,rfl⟩:=ne_cons h2
  have:qh_ (m+1) Cur.x (Cur.x.l.length:Int) (b::T,0,(Cur.x.l.length:Int))=some (.inr (.inr (b::T,0))):=by
   unfold qh_
   dsimp only
   rw[if_neg (by omega)]
  rw[this]
  rfl
 ·rw[if_neg (by omega)]
  simp only[Option.bind_some]
  have h1:Cur.x.l.length=1:=by
   have hh:=hT.ks
   generalize Cur.x.l.length=N at hh
   cases hh with
   | done=>rfl
   | kid hk=>omega
  obtain⟨q,rfl⟩:∃ q,m=q+1:=⟨m-1,by omega⟩
  rw[qc0_]
  have:qh_ (q+1+1) Cur.x (Cur.x.l.length:Int) ([],0,((0+1:Nat):Int))=some (.inr (.inr ([],0))):=by
   unfold qh_
   dsimp only
   rw[if_neg (by omega)]
  rw[this]
  rfl
theorem check_ok {n:Nat}(hT:Tree)(hn:Cur.x.l.length<n):q7_ n Cur.x=some 0:=by
 have hpos:=hT.pos
 have hmax:=hT.max
 unfold q7_
 rw[if_neg (by omega),if_neg (by omega),inOrder_ok hT hn]
 simp only[Option.bind_some]
 rw[if_pos trivial]
 obtain⟨r,rfl,q2⟩:=hoare (B:=qcn_ n Cur.x (Cur.x.l.length:Int)) (σ:=Unit) (fun _ i=>i) (fun i _=>True) (fun r=>r=.inr ()) Cur.x.l.length
  (fun i s hi hI=>by
   have hsp:=sound_ok n (pt i).1 (pt i).2.1 (pt i).2.2.1 (pt i).2.2.2.1 (pt i).2.2.2.2.1 (pt i).2.2.2.2.2.1 (pt i).2.2.2.2.2.2.1 (pt i).2.2.2.2.2.2.2 (hT.sp i hi)
   have hB:qcn_ n Cur.x (Cur.x.l.length:Int) (i:Int)=((qet_ n (pt i).1 (pt i).2.1 (pt i).2.2.1 (pt i).2.2.2.1 (pt i).2.2.2.2.1 (pt i).2.2.2.2.2.1 (pt i).2.2.2.2.2.2.1 (pt i).2.2.2.2.2.2.2).bind fun y=>if y=true then (if (pt i).2.1=1 then (if (i:Int) > 0 then some (.inr (.inl ())) else some (.inl (w64 ((i:Int)+1)))) else some (.inl (w64 ((i:Int)+1)))) else some (.inr (.inl ()))):=by
    unfold qcn_
    dsimp only
    rw[if_pos (by omega),if_pos (by omega)]
    simp only[Option.bind_some,Int.toNat_natCast]
    rfl
   rw[hB,hsp,w64_inc (by omega)]
   simp only[Option.bind_some]
   rw[if_pos trivial]
   by_cases c1:(pt i).2.1=1
   ·rw[if_pos c1,if_neg (show ¬ (i:Int) > 0 from fun h=>hT.root i (by omega) hi c1)]
    exact .inl ⟨(),trivial,rfl⟩
   ·rw[if_neg c1]
    exact .inl ⟨(),trivial,rfl⟩)
  (fun s hI=>by
   unfold qcn_
   dsimp only
   rw[if_neg (by omega)]
   exact⟨_,rfl,rfl⟩) n 0 () (Nat.zero_le _) trivial (by omega)
 have q2:qh3_ n Cur.x (Cur.x.l.length:Int) 0=some (.inr ()):=q2
 rw[q2]
end

section
variable [Cur]

theorem Ks.run {K i k next e:Nat}{a:Int}(hK:∀ j,(kd j).length≤K)(h:Ks i k next a e):i<next→i<Cur.x.l.length→∀ n f,Cur.x.l.length-i+K+9<n→(kd i).length-k<f→∃ b,b≤toF i∧iterM (qo_ (qd_ n) n Cur.x (i:Int)) f ((next:Int),a,(k:Int))=some (.inr ((e:Int),b)):=by
 induction h with
 | @done i k next a hk ha=>
  intro hin hi n f hn hf
  obtain⟨f,rfl⟩:∃ g,f=g+1:=⟨f-1,by omega⟩
  refine⟨a,ha,?_⟩
  rw[qc0_]
  unfold qo_
  dsimp only
  rw[if_pos (by omega)]
  simp only[Option.bind_some,Int.toNat_natCast]
  rw[if_neg (show ¬ (k:Int)<((((Cur.x.l.getD i (0,0,0,0,0,0,nl0,0)).2.2.2.2.2.2.1.l.length:Nat)):Int) from fun hc=>absurd (show k<(kd i).length from Int.ofNat_lt.1 hc) (by omega))]
  rfl
 | @kid i k next e' e a hk hv hn' ha h1 h2 ih1 ih2=>
  intro hin hi n f hn hf
  obtain⟨f,rfl⟩:∃ g,f=g+1:=⟨f-1,by omega⟩
  have hkl:=kd_le i
  have l1:=h1.lt
  obtain⟨m,rfl⟩:∃ m,n=m+1:=⟨n-1,by omega⟩
  obtain⟨b1,hb1,e1⟩:=ih1 (by omega) hn' m m (by omega) (by have:=hK next; omega)
  have hrec:qd_ (m+1) Cur.x (next:Int)=some (e':Int):=by
   show qbp_ (qd_ m) m Cur.x (next:Int)=_
   unfold qbp_ qc2_
   rw[if_pos (by omega)]
   simp only[Option.bind_some,Int.toNat_natCast]
   rw[w64_inc' (by have:=Cur.x.le; omega)]
   have e1:iterM (qo_ (qd_ m) m Cur.x (next:Int)) m (((next+1:Nat):Int),(Cur.x.l.getD next (0,0,0,0,0,0,nl0,0)).2.2.1,0)=some (.inr ((e':Int),b1)):=e1
   rw[e1]
   dsimp only
   rw[if_neg (show ¬ b1 > (Cur.x.l.getD next (0,0,0,0,0,0,nl0,0)).2.2.2.2.1 from fun hc=>absurd (show b1 > toF next from hc) (by omega))]
  obtain⟨b,hb,e2⟩:=ih2 (by omega) hi (m+1) f hn (by omega)
  refine⟨b,hb,?_⟩
  rw[qc0_]
  have hB:qo_ (qd_ (m+1)) (m+1) Cur.x (i:Int) ((next:Int),a,(k:Int))=some (.inl ((e':Int),toF next,((k+1:Nat):Int))):=by
   unfold qo_
   dsimp only
   rw[if_pos (by omega)]
   simp only[Option.bind_some,Int.toNat_natCast]
   rw[if_pos (show (k:Int)<((((Cur.x.l.getD i (0,0,0,0,0,0,nl0,0)).2.2.2.2.2.2.1.l.length:Nat)):Int) from Int.ofNat_lt.2 hk),if_pos (show (0:Int)≤(k:Int)∧(k:Int)<((((Cur.x.l.getD i (0,0,0,0,0,0,nl0,0)).2.2.2.2.2.2.1.l.length:Nat)):Int) from⟨Int.natCast_nonneg _,Int.ofNat_lt.2 hk⟩),if_pos (show k<(Cur.x.l.getD i (0,0,0,0,0,0,nl0,0)).2.2.2.2.2.2.1.l.length from hk),if_pos (show (Cur.x.l.getD i (0,0,0,0,0,0,nl0,0)).2.2.2.2.2.2.1.l.getD k 0=(next:Int) from hv),if_neg (by omega),if_pos (by omega),if_neg (show ¬ (Cur.x.l.getD next (0,0,0,0,0,0,nl0,0)).2.2.1<a from fun hc=>absurd (show atF next<a from hc) (by omega)),hrec]
   simp only[Option.bind_some]
   rw[if_neg (by omega),w64_inc' (by omega)]
   rfl
  rw[hB]
  exact e2
theorem endOf {K i e:Nat}(hK:∀ j,(kd j).length≤K)(h:Ks i 0 (i+1) (atF i) e)(hi:i<Cur.x.l.length){n:Nat}(hn:Cur.x.l.length-i+K+10<n):qd_ n Cur.x (i:Int)=some (e:Int):=by
 obtain⟨m,rfl⟩:∃ m,n=m+1:=⟨n-1,by omega⟩
 obtain⟨b1,hb1,e1⟩:=h.run hK (by omega) hi m m (by omega) (by have:=hK i; omega)
 show qbp_ (qd_ m) m Cur.x (i:Int)=_
 unfold qbp_ qc2_
 rw[if_pos (by omega)]
 simp only[Option.bind_some,Int.toNat_natCast]
 rw[w64_inc' (by have:=Cur.x.le; omega)]
 have e1:iterM (qo_ (qd_ m) m Cur.x (i:Int)) m (((i+1:Nat):Int),(Cur.x.l.getD i (0,0,0,0,0,0,nl0,0)).2.2.1,0)=some (.inr ((e:Int),b1)):=e1
 rw[e1]
 dsimp only
 rw[if_neg (show ¬ b1 > (Cur.x.l.getD i (0,0,0,0,0,0,nl0,0)).2.2.2.2.1 from fun hc=>absurd (show b1 > toF i from hc) (by omega))]
theorem Tree.end (hT:Tree){i:Nat}(hi:i<Cur.x.l.length):∃ e,Ks i 0 (i+1) (atF i) e∧i<e∧e≤Cur.x.l.length:=by
 rcases Nat.eq_zero_or_pos i with rfl | h0
 ·exact⟨_,hT.ks,hi,Nat.le_refl _⟩
 ·obtain⟨f,h1,h⟩:=hT.ks.cover i (by omega) hi
  have:=h.lt
  exact⟨f,h,by omega,h1⟩
theorem Tree.kid (hT:Tree){i q:Nat}(hi:i<Cur.x.l.length)(hq:q<(kd i).length):∃ c:Nat,(kd i).getD q 0=(c:Int)∧i<c∧c<Cur.x.l.length:=by
 obtain⟨f,h,_⟩:=hT.end hi
 obtain⟨c,h1,h2,h3,h4⟩:=h.kids q (Nat.zero_le _) hq
 exact⟨c,h1,by omega,h4⟩
theorem Ks.last {i k next e:Nat}{a:Int}(h:Ks i k next a e):k<(kd i).length→∃ c:Nat,(kd i).getD ((kd i).length-1) 0=(c:Int)∧next≤c∧c<Cur.x.l.length∧Ks c 0 (c+1) (atF c) e:=by
 induction h with
 | done hk=>exact fun h=>absurd h (by omega)
 | @kid i k next e' e a hk hv hn ha h1 h2 ih1 ih2=>
  intro _
  have l1:=h1.lt
  by_cases hl:k+1<(kd i).length
  ·obtain⟨c,g1,g2,g3,g4⟩:=ih2 hl
   exact⟨c,g1,by omega,g3,g4⟩
  ·have hk1:(kd i).length-1=k:=by omega
   rw[hk1]
   cases h2 with
   | done _ _=>exact⟨next,hv,Nat.le_refl _,hn,h1⟩
   | kid hk'=>omega
theorem Ks.none {i next e:Nat}{a:Int}(h:Ks i 0 next a e)(h0:(kd i).length=0):e=next:=by
 cases h with
 | done _ _=>rfl
 | kid hk=>omega
theorem prgEnd {n:Nat}(hn:Cur.x.l.length<n)(hL:Cur.x.l.length≤1000000){i e:Nat}(h:Ks i 0 (i+1) (atF i) e)(hi:i<Cur.x.l.length)(he:e≤Cur.x.l.length):qil_ n Cur.x (i:Int)=some (e:Int):=by
 obtain⟨r,rfl,hl⟩:=whileI (B:=qhn_ n Cur.x) (fun s=>∃ c:Nat,s=c∧c<Cur.x.l.length∧Ks c 0 (c+1) (atF c) e) (fun s=>Cur.x.l.length-s.toNat) (fun r=>r=(e:Int)-1)
  (fun s hI=>by
   obtain⟨c,rfl,hc,hk⟩:=hI
   have hkl:=kd_le c
   unfold qhn_
   dsimp only
   rw[if_pos (by omega)]
   simp only[Option.bind_some,Int.toNat_natCast]
   by_cases h0:0<(kd c).length
   ·obtain⟨d,g1,g2,g3,g4⟩:=hk.last h0
    have e1:w64 (((((Cur.x.l.getD c (0,0,0,0,0,0,nl0,0)).2.2.2.2.2.2.1.l.length:Nat)):Int)-1)=(((kd c).length-1:Nat):Int):=by
     show w64 ((((kd c).length:Nat):Int)-1)=_
     rw[w64_id (by omega) (by omega)]; omega
    rw[if_pos (show ((((Cur.x.l.getD c (0,0,0,0,0,0,nl0,0)).2.2.2.2.2.2.1.l.length:Nat)):Int) > 0 from Int.ofNat_lt.2 h0),e1,if_pos (show (0:Int)≤(((kd c).length-1:Nat):Int)∧(((kd c).length-1:Nat):Int)<((((Cur.x.l.getD c (0,0,0,0,0,0,nl0,0)).2.2.2.2.2.2.1.l.length:Nat)):Int) from⟨Int.natCast_nonneg _,Int.ofNat_lt.2 (show (kd c).length-1<(kd c).length by omega)⟩)]
    simp only[Int.toNat_natCast]
    rw[if_pos (show (kd c).length-1<(Cur.x.l.getD c (0,0,0,0,0,0,nl0,0)).2.2.2.2.2.2.1.l.length from (show (kd c).length-1<(kd c).length by omega))]
    exact .inl ⟨_,⟨d,g1,g3,g4⟩,by rw[g1]; omega,rfl⟩
   ·rw[if_neg (show ¬ ((((Cur.x.l.getD c (0,0,0,0,0,0,nl0,0)).2.2.2.2.2.2.1.l.length:Nat)):Int) > 0 from fun hc=>h0 (Int.ofNat_lt.1 hc))]
    have:=hk.none (by omega)
    exact .inr ⟨_,by omega,rfl⟩) n (i:Int) ⟨i,rfl,hi,h⟩ (by omega)
 have h0:=h.lt
 unfold qil_ qph_
 rw[hl]
 simp only[Option.bind_some]
 rw[qy6_ (by omega) (by omega)]
 congr 1
 omega
end

section
variable [Cur]

theorem Ks.count {i k next e:Nat}{a:Int}(h:Ks i k next a e):(kd i).length+next≤e+k:=by
 induction h with
 | done hk=>omega
 | kid hk hv hn ha h1 h2 ih1 ih2=>have:=h1.lt; omega
theorem kd_out {i:Nat}(h:Cur.x.l.length≤i):kd i=[]:=by
 have:pt i=d8:=by unfold pt; rw[List.getD_eq_getElem?_getD,List.getElem?_eq_none h]; rfl
 unfold kd; rw[this]; rfl
theorem Tree.few (hT:Tree)(i:Nat):(kd i).length≤Cur.x.l.length:=by
 rcases Nat.lt_or_ge i Cur.x.l.length with h | h
 ·obtain⟨e,h1,-,h3⟩:=hT.end h
  have:=h1.count
  omega
 ·rw[kd_out h]; exact Nat.zero_le _
end

section
variable [Cur]

def setK (L:List Int)(i:Int)(ks:List Int):List Int:=ks.foldl (fun L k=>L.set k.toNat i) L
theorem setK_snoc {L:List Int}{i:Int}{ks:List Int}{k:Int}:setK L i (ks ++ [k])=(setK L i ks).set k.toNat i:=by simp[setK]
theorem setK_len {L:List Int}{i:Int}:∀ {ks:List Int},(setK L i ks).length=L.length:=by
 intro ks
 unfold setK
 induction ks generalizing L with
 | nil=>rfl
 | cons k ks ih=>rw[List.foldl_cons,ih,List.length_set]
def parN:Nat→List Int→List Int
 | 0,L=>L
 | n+1,L=>setK (parN n L) (n:Int) (kd n)
theorem qtv_ {L:List Int}:∀ n,(parN n L).length=L.length
 | 0=>rfl
 | n+1=>by
  show (setK (parN n L) (n:Int) (kd n)).length=_
  rw[setK_len,qtv_ n]
def par0:List Int:=(List.replicate Cur.x.l.length (0:Int)).set 0 (-1)
def parL:List Int:=parN Cur.x.l.length par0
theorem parL_len:parL.length=Cur.x.l.length:=by unfold parL par0; rw[qtv_,List.length_set,List.length_replicate]
theorem take_snoc {L:List Int}{q:Nat}(h:q<L.length):L.take (q+1)=L.take q ++ [L.getD q 0]:=by
 rw[List.take_add_one,List.getElem?_eq_getElem h,List.getD_eq_getElem?_getD,List.getElem?_eq_getElem h]; rfl
theorem prgPar2 {n i:Nat}{L:List Int}{u:Int}(hT:Tree)(hi:i<Cur.x.l.length)(hn:(kd i).length<n)(hL:L.length=Cur.x.l.length):qif_ n Cur.x.l.length (i:Int) Cur.x u (pt i).2.2.2.2.2.2.1 ((kd i).length:Int) (L,0)=some (setK L (i:Int) (kd i)):=by
 have hkl:=kd_le i
 obtain⟨r,rfl,h⟩:=hoare (B:=qdl_ n Cur.x.l.length (i:Int) Cur.x u (pt i).2.2.2.2.2.2.1 ((kd i).length:Int)) (σ:=List Int) (fun s q=>(s,q)) (fun q s=>s=setK L (i:Int) ((kd i).take q)) (fun r=>r=setK L (i:Int) (kd i)) (kd i).length
  (fun q s hq hI=>by
   subst hI
   obtain⟨c,h1,h2,h3⟩:=hT.kid hi hq
   have hB:qdl_ n Cur.x.l.length (i:Int) Cur.x u (pt i).2.2.2.2.2.2.1 ((kd i).length:Int) (setK L (i:Int) ((kd i).take q),(q:Int))=(some ((kd i).getD q 0)).bind fun y=>if 0≤y∧y<((Cur.x.l.length:Nat):Int) then (if y.toNat<(setK L (i:Int) ((kd i).take q)).length then some (.inl ((setK L (i:Int) ((kd i).take q)).set y.toNat (i:Int),w64 ((q:Int)+1))) else none) else none:=by
    unfold qdl_
    dsimp only
    rw[if_pos (by omega),if_pos (show (0:Int)≤(q:Int)∧(q:Int)<(((pt i).2.2.2.2.2.2.1.l.length:Nat):Int) from⟨Int.natCast_nonneg _,Int.ofNat_lt.2 hq⟩),if_pos (show ((q:Int)).toNat<(pt i).2.2.2.2.2.2.1.l.length from by rw[Int.toNat_natCast]; exact hq)]
    rw[Int.toNat_natCast]
    rfl
   rw[hB]
   rw[h1]
   simp only[Option.bind_some]
   rw[if_pos (by omega)]
   simp only[Int.toNat_natCast]
   rw[if_pos (by rw[setK_len]; omega),w64_inc' (by omega)]
   refine .inl ⟨_,?_,rfl⟩
   rw[take_snoc hq,h1,setK_snoc,Int.toNat_natCast])
  (fun s hI=>by
   subst hI
   unfold qdl_
   dsimp only
   rw[if_neg (by omega)]
   exact⟨_,by rw[List.take_length],rfl⟩) n 0 L (Nat.zero_le _) rfl (by omega)
 exact h
theorem prgPar1 {n K:Nat}(hT:Tree)(hK:∀ j,(kd j).length≤K)(hn:Cur.x.l.length+K<n):qih_ n Cur.x.l.length Cur.x (Cur.x.l.length:Int) (par0,0)=some parL:=by
 have hmax:=hT.max
 obtain⟨r,rfl,h⟩:=hoare (B:=qdm_ n Cur.x.l.length Cur.x (Cur.x.l.length:Int)) (σ:=List Int) (fun s q=>(s,q)) (fun q s=>s=parN q par0) (fun r=>r=parL) Cur.x.l.length
  (fun q s hq hI=>by
   subst hI
   have hk:=hK q
   have e:=prgPar2 (n:=n) (u:=(Cur.x.l.length:Int)) hT hq (by omega) (show (parN q par0).length=Cur.x.l.length by rw[qtv_]; unfold par0; rw[List.length_set,List.length_replicate])
   have hB:qdm_ n Cur.x.l.length Cur.x (Cur.x.l.length:Int) (parN q par0,(q:Int))=(qif_ n Cur.x.l.length (q:Int) Cur.x (Cur.x.l.length:Int) (pt q).2.2.2.2.2.2.1 ((kd q).length:Int) (parN q par0,0)).bind fun y=>some (.inl (y,w64 ((q:Int)+1))):=by
    unfold qdm_
    dsimp only
    rw[if_pos (by omega),if_pos (by omega)]
    simp only[Option.bind_some,Int.toNat_natCast]
    rfl
   rw[hB,e]
   simp only[Option.bind_some]
   rw[w64_inc (by omega)]
   exact .inl ⟨_,rfl,rfl⟩)
  (fun s hI=>by
   subst hI
   unfold qdm_
   dsimp only
   rw[if_neg (by omega)]
   exact⟨_,rfl,rfl⟩) n 0 par0 (Nat.zero_le _) rfl (by omega)
 exact h
theorem prgPar {n K:Nat}(hT:Tree)(hK:∀ j,(kd j).length≤K)(hn:Cur.x.l.length+K<n):∃ y,qdz_ n Cur.x=some y∧y.l=parL:=by
 have hmax:=hT.max
 have hpos:=hT.pos
 unfold qdz_
 rw[check_ok hT (by omega)]
 simp only[Option.bind_some]
 rw[if_pos trivial,if_pos (by omega)]
 simp only[Int.toNat_natCast]
 rw[if_pos (by omega),if_pos (by omega),if_pos (by rw[List.length_replicate]; exact hpos)]
 have h:qih_ n Cur.x.l.length Cur.x (Cur.x.l.length:Int) ((List.replicate Cur.x.l.length (0:Int)).set ((0:Int)).toNat (-1),0)=some parL:=prgPar1 hT hK hn
 rw[h]
 simp only[Option.bind_some]
 rw[if_pos parL_len.symm,dif_pos (by rw[parL_len]; omega)]
 exact⟨_,rfl,rfl⟩
theorem setK_ok {L:List Int}{i:Nat}{ks:List Int}(hk:∀ k∈ks,∃ c:Nat,k=c∧i<c)(hL:∀ c:Nat,0<c→c<L.length→0≤L.getD c 0∧L.getD c 0<c):∀ c:Nat,0<c→c<L.length→0≤(setK L (i:Int) ks).getD c 0∧(setK L (i:Int) ks).getD c 0<c:=by
 unfold setK
 induction ks generalizing L with
 | nil=>exact hL
 | cons k ks ih=>
  intro c h1 h2
  rw[List.foldl_cons]
  obtain⟨d,rfl,hd⟩:=hk k (List.mem_cons_self ..)
  rw[Int.toNat_natCast]
  refine ih (fun k hk'=>hk k (List.mem_cons_of_mem _ hk')) (fun c g1 g2=>?_) c h1 (by rw[List.length_set]; exact h2)
  rw[List.length_set] at g2
  rcases Nat.lt_or_ge d L.length with h3 | h3
  ·rw[qnh_ h3]
   by_cases e:c=d
   ·rw[if_pos e]; omega
   ·rw[if_neg e]; exact hL c g1 g2
  ·rw[List.set_eq_of_length_le h3]; exact hL c g1 g2
theorem parL_ok (hT:Tree):∀ c:Nat,0<c→c<Cur.x.l.length→0≤parL.getD c 0∧parL.getD c 0<c:=by
 have h0:par0.length=Cur.x.l.length:=by unfold par0; rw[List.length_set,List.length_replicate]
 have main:∀ n,n≤Cur.x.l.length→∀ c:Nat,0<c→c<Cur.x.l.length→0≤(parN n par0).getD c 0∧(parN n par0).getD c 0<c:=by
  intro n
  induction n with
  | zero=>
   intro _ c h1 h2
   show 0≤par0.getD c 0∧par0.getD c 0<c
   have:par0.getD c 0=0:=by
    unfold par0
    rw[qnh_ (by rw[List.length_replicate]; omega),if_neg (by omega)]
    simp[List.getD_eq_getElem?_getD,List.getElem?_replicate,h2]
   omega
  | succ n ih=>
   intro hn c h1 h2
   refine setK_ok (fun k hk=>?_) (fun c g1 g2=>ih (by omega) c g1 (by rw[qtv_,h0] at g2; exact g2)) c h1 (by rw[qtv_,h0]; exact h2)
   obtain⟨q,hq,rfl⟩:=qjr_ 0 hk
   obtain⟨c,e,h3,_⟩:=hT.kid (by omega:n<Cur.x.l.length) hq
   exact⟨c,e,h3⟩
 exact main _ (Nat.le_refl _)
end

section
variable [Cur]

theorem Ks.uniq {i e f:Nat}(h:Ks i 0 (i+1) (atF i) e)(g:Ks i 0 (i+1) (atF i) f)(hi:i<Cur.x.l.length):e=f:=by
 obtain⟨K,hK⟩:=bound_kd
 have a1:=endOf (n:=Cur.x.l.length+K+20) hK h hi (by omega)
 have a2:=endOf (n:=Cur.x.l.length+K+20) hK g hi (by omega)
 rw[a1] at a2
 have:=Option.some.inj a2
 omega
theorem Ks.par {i k next e:Nat}{a:Int}(h:Ks i k next a e):i<next→i<Cur.x.l.length→∀ j:Nat,next≤j→j<e→∃ p:Nat,p<j∧p<Cur.x.l.length∧(j:Int)∈kd p:=by
 induction h with
 | done=>exact fun _ _ j h1 h2=>absurd h1 (by omega)
 | @kid i k next e' e a hk hv hn ha h1 h2 ih1 ih2=>
  intro hi hiL j h3 h4
  have l1:=h1.lt
  by_cases e1:j=next
  ·subst e1; exact⟨i,hi,hiL,by rw[←hv]; exact qog_ hk⟩
  ·rcases Nat.lt_or_ge j e' with h5 | h5
   ·exact ih1 (by omega) hn j (by omega) h5
   ·exact ih2 (by omega) hiL j h5 h4
theorem setK_get {i:Int}{c:Nat}:∀ {ks:List Int} {L:List Int},(∀ k∈ks,0≤k)→c<L.length→(setK L i ks).getD c 0=if (c:Int)∈ks then i else L.getD c 0
 | [],L,_,_=>by rw[if_neg (by simp)]; rfl
 | k::ks,L,hk,hc=>by
  have ih:=setK_get (i:=i) (c:=c) (ks:=ks) (L:=L.set k.toNat i) (fun k h=>hk k (List.mem_cons_of_mem _ h)) (by rw[List.length_set]; exact hc)
  have h0:=hk k (List.mem_cons_self ..)
  show (setK (L.set k.toNat i) i ks).getD c 0=_
  rw[ih]
  by_cases h1:(c:Int)∈ks
  ·rw[if_pos h1,if_pos (List.mem_cons_of_mem _ h1)]
  ·rw[if_neg h1]
   by_cases h2:(c:Int)=k
   ·subst h2
    rw[if_pos (List.mem_cons_self ..),Int.toNat_natCast,qnh_ hc,if_pos rfl]
   ·rw[if_neg (fun h=>by rcases List.mem_cons.1 h with h | h; exact h2 h; exact h1 h)]
    rcases Nat.lt_or_ge k.toNat L.length with h3 | h3
    ·rw[qnh_ h3,if_neg (by omega)]
    ·rw[List.set_eq_of_length_le h3]
theorem kd_nat (hT:Tree){n:Nat}(hn:n<Cur.x.l.length):∀ k∈kd n,∃ c:Nat,k=c∧n<c:=fun k hk=>by
 obtain⟨q,hq,rfl⟩:=qjr_ 0 hk
 obtain⟨c,e,h3,_⟩:=hT.kid hn hq
 exact⟨c,e,h3⟩
end

end Go.Proofs.Ytdcocjjkfodjeaa.spc20
