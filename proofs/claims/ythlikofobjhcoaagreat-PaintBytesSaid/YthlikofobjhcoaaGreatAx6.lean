/-
 A trie of values, by number. Own work, plain lemmas.
-/
import Derived.WalkKit
import Derived.Below
import Derived.OrdersIn
import Derived.RangeFuncLeaves
import Derived.Laws.Tables
import Derived.Laws.Append
import Derived.Lib.Builder
import Derived.Lib.UnsafeStr
import Derived.Lib.MakeNoZero
import Derived.Laws.Externs
set_option linter.unusedSimpArgs false
set_option linter.unusedVariables false
set_option linter.unnecessarySimpa false
set_option linter.deprecated false
set_option linter.unusedSectionVars false
/-! A trie of values, by number. Own work, plain lemmas. -/
namespace Go.Proofs.YthlikofobjhcoaaGreat.Ax
inductive Tr (α:Type) where
 | nil
 | node (l:Tr α) (v:Option α) (r:Tr α)
noncomputable def sel {α:Type}(b:Bool)(x y:α):α:=@Bool.rec (fun _=>α) y x b
noncomputable def oc {α β:Type}(o:Option α)(d:β)(f:α→β):β:=@Option.rec α (fun _=>β) d f o
@[simp] theorem sel_true {α:Type}(x y:α):sel true x y=x:=rfl
@[simp] theorem sel_false {α:Type}(x y:α):sel false x y=y:=rfl
@[simp] theorem oc_none {α β:Type}(d:β)(f:α→β):oc none d f=d:=rfl
@[simp] theorem oc_some {α β:Type}(x:α)(d:β)(f:α→β):oc (some x) d f=f x:=rfl
theorem oI {α:Type}{a b:α}(h:some a=some b):a=b:=Option.some.inj h
theorem pI {α β:Type}{a c:α}{b d:β}(h:(a,b)=(c,d)):a=c∧b=d:=Prod.mk.inj h
theorem nB {n m:Nat}(h:Nat.beq n m=true):n=m:=Nat.eq_of_beq_eq_true h
theorem bA (a b:Bool):((a&&b)=true)=(a=true∧b=true):=Bool.and_eq_true a b
theorem oS {α β:Type}{o:Option α}{f:α→Option β}{y:β}(h:oc o none f=some y):∃ x,o=some x∧f x=some y:=by
 cases o with
 | none=>exact absurd h (by simp)
 | some x=>exact⟨x,rfl,h⟩
theorem qa_ {β:Type}{b:Bool}{x y:Option β}{z:β}(h:sel b x y=some z):(b=true∧x=some z)∨(b=false∧y=some z):=by
 cases b
 ·exact .inr ⟨rfl,h⟩
 ·exact .inl ⟨rfl,h⟩
theorem sel_none {β:Type}{b:Bool}{x:Option β}{z:β}(h:sel b x none=some z):b=true∧x=some z:=by
 rcases qa_ h with h | h
 ·exact h
 ·exact absurd h.2 (by simp)
noncomputable def gsB {α:Type}(gl gr:Nat→Option α)(n:Nat)(odd:Bool):Option α:=@Bool.rec (fun _=>Option α) (gr (Nat.sub n 1)) (gl n) odd
noncomputable def gsA {α:Type}(v:Option α)(gl gr:Nat→Option α)(n:Nat)(z:Bool):Option α:=@Bool.rec (fun _=>Option α) (gsB gl gr (Nat.shiftRight n 1) (Nat.beq (Nat.land n 1) 1)) v z
noncomputable def Tr.get {α:Type}(t:Tr α):Nat→Option α:=
 @Tr.rec α (fun _=>Nat→Option α) (fun _=>none) (fun _ v _ gl gr n=>gsA v gl gr n (Nat.beq n 0)) t
noncomputable def trL {α:Type}(t:Tr α):Tr α:=@Tr.rec α (fun _=>Tr α) .nil (fun l _ _ _ _=>l) t
noncomputable def trR {α:Type}(t:Tr α):Tr α:=@Tr.rec α (fun _=>Tr α) .nil (fun _ _ r _ _=>r) t
noncomputable def trV {α:Type}(t:Tr α):Option α:=@Tr.rec α (fun _=>Option α) none (fun _ v _ _ _=>v) t
noncomputable def stB {α:Type}(ih:Tr α→Nat→Option α→Tr α)(t:Tr α)(x:Option α)(n:Nat)(odd:Bool):Tr α:=@Bool.rec (fun _=>Tr α) (.node (trL t) (trV t) (ih (trR t) (Nat.sub n 1) x)) (.node (ih (trL t) n x) (trV t) (trR t)) odd
noncomputable def stA {α:Type}(ih:Tr α→Nat→Option α→Tr α)(t:Tr α)(x:Option α)(n:Nat)(z:Bool):Tr α:=@Bool.rec (fun _=>Tr α) (stB ih t x (Nat.shiftRight n 1) (Nat.beq (Nat.land n 1) 1)) (.node (trL t) x (trR t)) z
noncomputable def Tr.setF {α:Type}(f:Nat):Tr α→Nat→Option α→Tr α:=
 @Nat.rec (fun _=>Tr α→Nat→Option α→Tr α) (fun t _ _=>t) (fun _ ih t n x=>stA ih t x n (Nat.beq n 0)) f
noncomputable def Tr.put {α:Type}(t:Tr α)(n:Nat)(x:Option α):Tr α:=Tr.setF (Nat.succ n) t n x
noncomputable def Tr.set {α:Type}(t:Tr α)(n:Nat)(x:α):Tr α:=Tr.setF (Nat.succ n) t n (some x)
theorem shr1 (n:Nat):Nat.shiftRight n 1=n / 2:=Nat.shiftRight_eq_div_pow n 1
theorem land1 (n:Nat):Nat.land n 1=n % 2:=by
 have:=Nat.and_one_is_mod n
 simpa using this
theorem Tr.get_nil {α:Type}(n:Nat):(Tr.nil:Tr α).get n=none:=rfl
theorem Tr.get_node {α:Type}(l:Tr α)(v:Option α)(r:Tr α)(n:Nat) :
  (Tr.node l v r).get n=if n=0 then v else if n % 2=1 then l.get (n / 2) else r.get (n / 2-1):=by
 show gsA v l.get r.get n (Nat.beq n 0)=_
 by_cases h0:n=0
 ·subst h0; rfl
 ·have hb:Nat.beq n 0=false:=by cases n with | zero=>exact absurd rfl h0 | succ k=>rfl
  rw[if_neg h0,hb]
  show gsB l.get r.get (Nat.shiftRight n 1) (Nat.beq (Nat.land n 1) 1)=_
  rw[shr1,land1]
  by_cases h1:n % 2=1
  ·rw[if_pos h1,h1]; rfl
  ·have h2:n % 2=0:=by omega
   rw[if_neg h1,h2]; rfl
theorem Tr.get_parts {α:Type}(t:Tr α)(n:Nat) :
  t.get n=if n=0 then trV t else if n % 2=1 then (trL t).get (n / 2) else (trR t).get (n / 2-1):=by
 cases t with
 | nil=>simp[Tr.get_nil,trV,trL,trR]
 | node l v r=>exact Tr.get_node l v r n
theorem Tr.setF_succ {α:Type}(f:Nat)(t:Tr α)(n:Nat)(x:Option α) :
  Tr.setF (f+1) t n x=if n=0 then .node (trL t) x (trR t) else if n % 2=1 then .node (Tr.setF f (trL t) (n / 2) x) (trV t) (trR t) else .node (trL t) (trV t) (Tr.setF f (trR t) (n / 2-1) x):=by
 show stA (Tr.setF f) t x n (Nat.beq n 0)=_
 by_cases h0:n=0
 ·subst h0; rfl
 ·have hb:Nat.beq n 0=false:=by cases n with | zero=>exact absurd rfl h0 | succ k=>rfl
  rw[if_neg h0,hb]
  show stB (Tr.setF f) t x (Nat.shiftRight n 1) (Nat.beq (Nat.land n 1) 1)=_
  rw[shr1,land1]
  by_cases h1:n % 2=1
  ·rw[if_pos h1,h1]; rfl
  ·have h2:n % 2=0:=by omega
   rw[if_neg h1,h2]; rfl
theorem Tr.get_setF {α:Type}(f:Nat):∀ (t:Tr α) (n m:Nat) (x:Option α),n<f→(Tr.setF f t n x).get m=if m=n then x else t.get m:=by
 induction f with
 | zero=>intro t n m x h; omega
 | succ f ih=>
  intro t n m x h
  rw[Tr.setF_succ]
  by_cases h0:n=0
  ·subst h0
   rw[if_pos rfl,Tr.get_node,Tr.get_parts t m]
   by_cases hm:m=0
   ·rw[if_pos hm,if_pos hm]
   ·rw[if_neg hm,if_neg hm,if_neg hm]
  ·rw[if_neg h0]
   by_cases h1:n % 2=1
   ·rw[if_pos h1,Tr.get_node,Tr.get_parts t m,ih (trL t) (n / 2) (m / 2) x (by omega)]
    by_cases hm:m=0
    ·have:m ≠ n:=by omega
     rw[if_pos hm,if_neg this,if_pos hm]
    ·rw[if_neg hm,if_neg hm]
     by_cases hm1:m % 2=1
     ·rw[if_pos hm1,if_pos hm1]
      by_cases he:m=n
      ·rw[if_pos he,if_pos (by omega)]
      ·rw[if_neg he,if_neg (by omega)]
     ·rw[if_neg hm1,if_neg hm1,if_neg (by omega)]
   ·rw[if_neg h1,Tr.get_node,Tr.get_parts t m,ih (trR t) (n / 2-1) (m / 2-1) x (by omega)]
    by_cases hm:m=0
    ·have:m ≠ n:=by omega
     rw[if_pos hm,if_neg this,if_pos hm]
    ·rw[if_neg hm,if_neg hm]
     by_cases hm1:m % 2=1
     ·rw[if_pos hm1,if_pos hm1,if_neg (by omega)]
     ·rw[if_neg hm1,if_neg hm1]
      by_cases he:m=n
      ·rw[if_pos he,if_pos (by omega)]
      ·rw[if_neg he,if_neg (by omega)]
theorem Tr.get_set {α:Type}(t:Tr α)(n m:Nat)(x:α):(t.set n x).get m=if m=n then some x else t.get m:=
 Tr.get_setF _ t n m (some x) (Nat.lt_succ_self n)
theorem Tr.get_put {α:Type}(t:Tr α)(n m:Nat)(x:Option α):(t.put n x).get m=if m=n then x else t.get m:=
 Tr.get_setF _ t n m x (Nat.lt_succ_self n)
noncomputable def layL {α:Type}(l:List α):Nat→Tr α→Tr α:=
 @List.rec α (fun _=>Nat→Tr α→Tr α) (fun _ t=>t) (fun v _ ih i t=>ih (Nat.succ i) (t.set i v)) l
theorem qve_ {α:Type}(v:α)(l:List α)(i:Nat)(t:Tr α):layL (v::l) i t=layL l (i+1) (t.set i v):=rfl
theorem layL_get {α:Type}(l:List α):∀ (i:Nat) (t:Tr α) (m:Nat),(layL l i t).get m=if i≤m∧m<i+l.length then l[m-i]? else t.get m:=by
 induction l with
 | nil=>intro i t m; rw[if_neg (by simp)]; rfl
 | cons v l ih=>
  intro i t m
  rw[qve_,ih,Tr.get_set]
  by_cases h:i≤m∧m<i+(v::l).length
  ·rw[if_pos h]
   by_cases hm:m=i
   ·subst hm
    rw[if_neg (by omega),if_pos rfl]
    simp
   ·have hlt:i+1≤m∧m<i+1+l.length:=by simp at h; omega
    rw[if_pos hlt]
    have:m-i=(m-(i+1))+1:=by omega
    rw[this,List.getElem?_cons_succ]
  ·rw[if_neg h]
   have h1:¬ (i+1≤m∧m<i+1+l.length):=by simp at h; omega
   have h2:m ≠ i:=by simp at h; omega
   rw[if_neg h1,if_neg h2]
noncomputable def layT {α:Type}(l:List α):Tr α:=layL l 0 .nil
theorem qfu_ {α:Type}(l:List α)(m:Nat):(layT l).get m=l[m]?:=by
 unfold layT
 rw[layL_get]
 by_cases h:m<l.length
 ·rw[if_pos (by omega)]; rfl
 ·rw[if_neg (by omega),List.getElem?_eq_none (by omega)]; rfl
noncomputable def rdT {α:Type}(c:Tr α)(n:Nat):Nat→Option (List α):=
 @Nat.rec (fun _=>Nat→Option (List α)) (fun _=>some []) (fun _ ih i=>oc (c.get i) none (fun v=>oc (ih (Nat.succ i)) none (fun l=>some (v::l)))) n
theorem rdT_succ {α:Type}(c:Tr α)(n i:Nat):rdT c (n+1) i=oc (c.get i) none (fun v=>oc (rdT c n (i+1)) none (fun l=>some (v::l))):=rfl
theorem qvf_ {α:Type}(c:Tr α):∀ (n i:Nat) (l:List α),rdT c n i=some l→l.length=n∧∀ j,j<n→c.get (i+j)=l[j]?:=by
 intro n
 induction n with
 | zero=>
  intro i l h
  have:l=[]:=(oI h).symm
  subst this
  exact⟨rfl,fun j hj=>by omega⟩
 | succ n ih=>
  intro i l h
  rw[rdT_succ] at h
  obtain⟨v,hv,h⟩:=oS h
  obtain⟨l',hl',h⟩:=oS h
  obtain rfl:=oI h
  obtain⟨h1,h2⟩:=ih (i+1) l' hl'
  refine⟨by simp[h1],fun j hj=>?_⟩
  cases j with
  | zero=>simpa using hv
  | succ j=>
   have:=h2 j (by omega)
   rw[show i+(j+1)=i+1+j from by omega,this]
   simp
end Go.Proofs.YthlikofobjhcoaaGreat.Ax
namespace Go.Proofs.YthlikofobjhcoaaGreat.Ax
open Go.RowKit
class Tabs where
 tab:Nat→Option (List Value)
 win:Nat→Option (Nat×Nat×List Value):=fun _=>none
 frz:Nat→Bool:=fun _=>false
variable [Tabs]
def big:Nat:=1180591620717411303424
def bigL (es lb:Nat):Nat:=Nat.add (Nat.mul big (Nat.add lb 2)) es
theorem bigL_ge (es lb:Nat):big≤bigL es lb:=Nat.le_trans (Nat.le_mul_of_pos_right big (Nat.succ_pos _)) (Nat.le_add_right _ _)
structure Ren where
 f:Nat→Option (Nat×Nat×Nat)
 z:Nat→Nat→Nat→Prop
instance:CoeFun Ren (fun _=>Nat→Option (Nat×Nat×Nat)):=⟨Ren.f⟩
def Ren.nil:Ren:=⟨fun _=>none,fun _ _ _=>False⟩
def Ren.put (σ:Ren)(b:Nat)(t:Nat×Nat×Nat):Ren:=⟨fun x=>if x=b then some t else σ x,σ.z⟩
structure Ren.Ext (σ σ':Ren):Prop where
 f:∀ b t,σ b=some t→σ' b=some t
 z:∀ j c d,σ.z j c d→σ'.z j c d
instance {σ σ':Ren}:CoeFun (Ren.Ext σ σ') (fun _=>∀ b t,σ b=some t→σ' b=some t):=⟨Ren.Ext.f⟩
inductive WinAt (σ:Ren):Nat→Nat→Nat→Prop
 | arg {j b d:Nat} {l:List Value} (h:Tabs.win j=some (b,d,l)) (hz:Tabs.frz j=false):WinAt σ j b d
 | frz {j c d:Nat} (hz:Tabs.frz j=true) (h:σ.z j c d):WinAt σ j c d
theorem WinAt.mono {σ σ':Ren}(h:σ.Ext σ'){j b d:Nat}(hw:WinAt σ j b d):WinAt σ' j b d:=by
 cases hw with
 | arg h1 hz=>exact .arg h1 hz
 | frz hz h1=>exact .frz hz (h.z _ _ _ h1)
inductive FnR (σ:Ren):Fn→Fn→Prop
 | func (f:FuncId):FnR σ (.func f) (.func f)
 | method (s:String):FnR σ (.method s) (.method s)
 | yield {l c:Nat} (h:σ l=some (c,0,0)):FnR σ (.yield l) (.yield c)
def zstr (n:Nat):ByteArray:=⟨⟨List.replicate n 0⟩⟩
theorem zstr_size (n:Nat):(zstr n).size=n:=by simp[zstr,ByteArray.size]
inductive VR (σ:Ren):Value→Value→Prop
 | bool (b:Bool):VR σ (.bool b) (.bool b)
 | int (k:IntKind) (n:Int):VR σ (.int k n) (.int k n)
 | float (k:FloatKind) (n:Nat):VR σ (.float k n) (.float k n)
 | string (s:ByteArray):VR σ (.string s) (.string s)
 | ptr0:VR σ (.pointer none) (.pointer none)
 | any (v:Value):VR σ (.chan none) v
 | zeros (n:Nat):VR σ (.chan (some n)) (.string (zstr n))
 | glob (g o:Nat):VR σ (.pointer (some ⟨g,o,some 0⟩)) (.pointer (some ⟨g,o,none⟩))
 | win {j b d:Nat} (o:Nat) (h:WinAt σ j b d):VR σ (.pointer (some ⟨j,o,some 1⟩)) (.pointer (some ⟨b,d+o,none⟩))
 | winS {j b d:Nat} (o n k:Nat) (h:WinAt σ j b d) (hk:k<big) (hn:n≤k):VR σ (.slice (some ⟨j,o,some 1⟩) n k) (.slice (some ⟨b,d+o,none⟩) n k)
 | winU {j b d:Nat} (o n k kk:Nat) (h:WinAt σ j b d) (hn:n≤k) (hk:big+n≤kk):VR σ (.slice (some ⟨j,o,some 1⟩) n kk) (.slice (some ⟨b,d+o,none⟩) n k)
 | winU0 (j o k kk:Nat) (a:Option Addr) (hk:big≤kk):VR σ (.slice (some ⟨j,o,some 1⟩) 0 kk) (.slice a 0 k)
 | win0 (j o k:Nat) (a:Option Addr) (hk:k<big):VR σ (.slice (some ⟨j,o,some 1⟩) 0 k) (.slice a 0 k)
 | ptr {b c d m:Nat} (o:Nat) (h:σ b=some (c,d,m)):VR σ (.pointer (some ⟨b,o,none⟩)) (.pointer (some ⟨c,d+o,none⟩))
 | slice0 (n k:Nat):VR σ (.slice none n k) (.slice none n k)
 | slice {b c d m:Nat} (o n k:Nat) (h:σ b=some (c,d,m)) (hk:k<big) (hn:n≤k):VR σ (.slice (some ⟨b,o,none⟩) n k) (.slice (some ⟨c,d+o,none⟩) n k)
 | sliceU {b c d m:Nat} (o o' n k' es:Nat) (h:σ b=some (c,d,m)) (hk:n≤k') (ho:n=0∨o'=d+o) (hd:d≤o') (hm:o' + k' * es≤m) (he:es<big) :
   VR σ (.slice (some ⟨b,o,none⟩) n (big+es)) (.slice (some ⟨c,o',none⟩) n k')
 | sliceL {b c d m:Nat} (o n k' es lb:Nat) (h:σ b=some (c,d,m)) (hk:n≤k') (hl:lb≤k') (hm:d+o+k' * es≤m) (he:es<big):VR σ (.slice (some ⟨b,o,none⟩) n (bigL es lb)) (.slice (some ⟨c,d+o,none⟩) n k')
 | map0:VR σ (.map none) (.map none)
 | map {b c:Nat} (h:σ b=some (c,0,0)):VR σ (.map (some b)) (.map (some c))
 | func {fn fn':Fn} {x x' y y':Array Value} (h:FnR σ fn fn') (hx:x.size=x'.size) (hxs:∀ (i:Nat) (h:i<x.size) (h':i<x'.size),VR σ x[i] x'[i])
   (hy:y.size=y'.size) (hys:∀ (i:Nat) (h:i<y.size) (h':i<y'.size),VR σ y[i] y'[i]):VR σ (.func fn x y) (.func fn' x' y')
 | nilFunc:VR σ .nilFunc .nilFunc
 | iface (t:TypeId) {v v':Value} (h:VR σ v v'):VR σ (.iface t v) (.iface t v')
 | nilIface:VR σ .nilIface .nilIface
 | agg {x x':Array Value} (hx:x.size=x'.size) (hxs:∀ (i:Nat) (h:i<x.size) (h':i<x'.size),VR σ x[i] x'[i]):VR σ (.agg x) (.agg x')
 | tuple {x x':Array Value} (hx:x.size=x'.size) (hxs:∀ (i:Nat) (h:i<x.size) (h':i<x'.size),VR σ x[i] x'[i]):VR σ (.tuple x) (.tuple x')
inductive VRs (σ:Ren):List Value→List Value→Prop
 | nil:VRs σ [] []
 | cons {v v':Value} {l l':List Value} (h:VR σ v v') (hl:VRs σ l l'):VRs σ (v::l) (v' :: l')
theorem FnR.mono {σ σ':Ren}(h:σ.Ext σ'){f f':Fn}(hf:FnR σ f f'):FnR σ' f f':=by
 cases hf with
 | func f=>exact .func f
 | method s=>exact .method s
 | yield hl=>exact .yield (h _ _ hl)
theorem VR.mono {σ σ':Ren}(h:σ.Ext σ'){v v':Value}(hv:VR σ v v'):VR σ' v v':=by
 induction hv with
 | bool b=>exact .bool b
 | int k n=>exact .int k n
 | float k n=>exact .float k n
 | string s=>exact .string s
 | ptr0=>exact .ptr0
 | any v=>exact .any v
 | zeros n=>exact .zeros n
 | glob g o=>exact .glob g o
 | win o h1=>exact .win o (h1.mono h)
 | winS o n k h1 hk hn=>exact .winS o n k (h1.mono h) hk hn
 | winU o n k kk h1 hn hk=>exact .winU o n k kk (h1.mono h) hn hk
 | winU0 j o k kk a hk=>exact .winU0 j o k kk a hk
 | win0 j o k a hk=>exact .win0 j o k a hk
 | ptr o hb=>exact .ptr o (h _ _ hb)
 | slice0 n k=>exact .slice0 n k
 | slice o n k hb hk hn=>exact .slice o n k (h _ _ hb) hk hn
 | sliceU o o' n k' es hb hk ho hd hm he=>exact .sliceU o o' n k' es (h _ _ hb) hk ho hd hm he
 | sliceL o n k' es lb hb hk hl hm he=>exact .sliceL o n k' es lb (h _ _ hb) hk hl hm he
 | map0=>exact .map0
 | map hb=>exact .map (h _ _ hb)
 | func hf hx _ hy _ ih1 ih2=>exact .func (hf.mono h) hx ih1 hy ih2
 | nilFunc=>exact .nilFunc
 | iface t _ ih=>exact .iface t ih
 | nilIface=>exact .nilIface
 | agg hx _ ih=>exact .agg hx ih
 | tuple hx _ ih=>exact .tuple hx ih
theorem VRs.mono {σ σ':Ren}(h:σ.Ext σ'){l l':List Value}(hl:VRs σ l l'):VRs σ' l l':=by
 induction hl with
 | nil=>exact .nil
 | cons hv _ ih=>exact .cons (hv.mono h) ih
theorem VRs.length {σ:Ren}{l l':List Value}(h:VRs σ l l'):l.length=l'.length:=by
 induction h with
 | nil=>rfl
 | cons _ _ ih=>simp[ih]
theorem VRs.get {σ:Ren}{l l':List Value}(h:VRs σ l l'):∀ (i:Nat) (v:Value),l[i]?=some v→∃ v',l'[i]?=some v'∧VR σ v v':=by
 induction h with
 | nil=>intro i v hv; simp at hv
 | cons hv _ ih=>
  intro i u hu
  cases i with
  | zero=>
   simp at hu
   subst hu
   exact⟨_,by simp,hv⟩
  | succ i=>simpa using ih i u (by simpa using hu)
theorem VRs.append {σ:Ren}{l l' k k':List Value}(h:VRs σ l l')(hk:VRs σ k k'):VRs σ (l++k) (l' ++ k'):=by
 induction h with
 | nil=>exact hk
 | cons hv _ ih=>exact .cons hv ih
theorem VRs.of_get {σ:Ren}:∀ {l l':List Value},l.length=l'.length→(∀ (i:Nat) (h:i<l.length) (h':i<l'.length),VR σ l[i] l'[i])→VRs σ l l'
 | [],[],_,_=>.nil
 | [],_::_,h,_=>by simp at h
 | _::_,[],h,_=>by simp at h
 | v::l,v' :: l',h,hi=>.cons (hi 0 (by simp) (by simp)) (VRs.of_get (by simpa using h) fun i h1 h2=>hi (i+1) (by simpa using h1) (by simpa using h2))
theorem VRs.arr {σ:Ren}{x x':Array Value}(hx:x.size=x'.size)(hxs:∀ (i:Nat) (h:i<x.size) (h':i<x'.size),VR σ x[i] x'[i]):VRs σ x.toList x'.toList:=
 VRs.of_get (by simpa using hx) fun i h1 h2=>by simpa using hxs i (by simpa using h1) (by simpa using h2)
theorem VRs.size {σ:Ren}{x x':Array Value}(h:VRs σ x.toList x'.toList):x.size=x'.size:=by simpa using h.length
theorem VRs.elem {σ:Ren}{x x':Array Value}(h:VRs σ x.toList x'.toList)(i:Nat)(h1:i<x.size)(h2:i<x'.size):VR σ x[i] x'[i]:=by
 obtain⟨v',hv',hr⟩:=h.get i x[i] (by simp[h1])
 have:v'=x'[i]:=by simpa [h2] using hv'.symm
 exact this ▸ hr
theorem VRs.agg {σ:Ren}{l l':List Value}(h:VRs σ l l'):VR σ (.agg ⟨l⟩) (.agg ⟨l'⟩):=.agg (VRs.size h) (VRs.elem h)
theorem VRs.tuple {σ:Ren}{l l':List Value}(h:VRs σ l l'):VR σ (.tuple ⟨l⟩) (.tuple ⟨l'⟩):=.tuple (VRs.size h) (VRs.elem h)
theorem VRs.func {σ:Ren}{f f':Fn}{x x' y y':Array Value}(hf:FnR σ f f')(hx:VRs σ x.toList x'.toList)(hy:VRs σ y.toList y'.toList):VR σ (.func f x y) (.func f' x' y'):=
 .func hf (VRs.size hx) (VRs.elem hx) (VRs.size hy) (VRs.elem hy)
theorem qo4_ (σ:Ren):VR σ undef undef:=VRs.tuple (l:=[]) (l':=[]) .nil
noncomputable def tget (T:Tr Value)(i:Nat):Value:=oc (T.get i) undef (fun v=>v)
theorem q08_ (T:Tr Value)(d i:Nat)(v:Value):tget (T.set d v) i=if i=d then v else tget T i:=by
 unfold tget
 rw[Tr.get_set]
 by_cases h:i=d
 ·rw[if_pos h,if_pos h]; rfl
 ·rw[if_neg h,if_neg h]
structure TR (σ:Ren) (N:Nat) (T:Tr Value) (ts:Array Value):Prop where
 size:ts.size=N
 slot:∀ i,VR σ (tget T i) (ts.getD i undef)
theorem TR.mono {σ σ':Ren}(h:σ.Ext σ'){N:Nat}{T:Tr Value}{ts:Array Value}(ht:TR σ N T ts):TR σ' N T ts:=⟨ht.size,fun i=>(ht.slot i).mono h⟩
theorem TR.set {σ:Ren}{N:Nat}{T:Tr Value}{ts:Array Value}(ht:TR σ N T ts){d:Nat}{v v':Value}(hv:VR σ v v')(hd:d<N):TR σ N (T.set d v) (ts.setIfInBounds d v'):=by
 refine⟨by simp[ht.size],fun i=>?_⟩
 rw[q08_]
 by_cases h:i=d
 ·subst h
  have:i<ts.size:=by rw[ht.size]; exact hd
  simpa [this] using hv
 ·rw[if_neg h]
  have:=ht.slot i
  simpa [Array.getElem?_setIfInBounds_ne (Ne.symm h)] using this
structure ALoop where
 st:LoopState
 pend:Option Code
 T:Tr Value
 N:Nat
 params:Array Tmp
 assign:Code
 body:Code
 defers:Nat
inductive ABlk where
 | cells (c:Tr Value) (elem:TypeId)
 | loop (x:ALoop)
 | marks (isOpen:Bool)
 | map (es:List MapEntry) (clock:Nat)
 | box (v:Value) (elem:TypeId)
 | iter (m clock:Nat)
 | iterAt (m clock born:Nat)
 | pair (c:Tr Value) (elem:TypeId)
 | zeros (n:Nat) (elem:TypeId)
structure AH where
 blocks:Tr ABlk
 next:Nat
 low:Nat
inductive MRs (σ:Ren):List MapEntry→List MapEntry→Prop
 | nil:MRs σ [] []
 | cons {e e':MapEntry} {l l':List MapEntry} (hk:e'.key=e.key) (hv:VR σ e.val e'.val) (hl:MRs σ l l'):MRs σ (e::l) (e' :: l')
theorem MRs.mono {σ σ':Ren}(h:σ.Ext σ'){l l':List MapEntry}(hl:MRs σ l l'):MRs σ' l l':=by
 induction hl with
 | nil=>exact .nil
 | cons hk hv _ ih=>exact .cons hk (hv.mono h) ih
def MPs (σ:Ren)(es ES:List MapEntry)(clock:Nat):Prop:=(∃ L,L.Perm ES∧MRs σ es L)∧(ES.map (·.born)).Nodup∧∀ x∈ES,x.born<clock
theorem MPs.mono {σ σ':Ren}(h:σ.Ext σ'){es ES:List MapEntry}{clock:Nat}(hl:MPs σ es ES clock):MPs σ' es ES clock:=by
 obtain⟨⟨L,h1,h2⟩,h3⟩:=hl
 exact⟨⟨L,h1,h2.mono h⟩,h3⟩
def BR (σ:Ren)(d m:Nat)(o:Option Obj):ABlk→Prop
 | .cells c e=>∃ C,o=some (.cells C e (0,0))∧C.size=m∧∀ i v,c.get i=some v→∃ v',C[d+i]?=some v'∧VR σ v v'
 | .loop x=>∃ fn ts dc,o=some (.loop { state:=x.st,pending:=x.pend,fn:=fn,tmps:=ts,params:=x.params,assign:=x.assign,body:=x.body,defers:=dc })∧TR σ x.N x.T ts∧σ x.defers=some (dc,0,0)∧d=0∧m=0
 | .marks b=>o=some (.deferred (if b then some [] else none))∧d=0∧m=0
 | .map es clock=>∃ ES:List MapEntry,o=some (.map ⟨ES⟩ clock)∧MPs σ es ES clock∧d=0∧m=0
 | .box v e=>∃ v',o=some (.cells #[v'] e (0,0))∧VR σ v v'∧d=0∧m=1
 | .iter b clock=>∃ c,o=some (.mapIter (some c) clock #[] clock)∧σ b=some (c,0,0)∧d=0∧m=0
 | .pair c e=>∃ C,o=some (.cells C e (0,0))∧C.size=m∧(∀ i v,c.get i=some v→∃ v',C[d+i]?=some v'∧VR σ v v')∧d=0∧m=2
 | .zeros n e=>∃ C,o=some (.cells C e (0,0))∧C.size=m∧d=0∧m=n∧∀ i,i<n→C[i]?=some (.int .u8 0)
 | .iterAt b clock born=>∃ (c:Nat) (seen:Array Nat),o=some (.mapIter (some c) clock (seen.push born) clock)∧σ b=some (c,0,0)∧d=0∧m=0
theorem BR.mono {σ σ':Ren}(h:σ.Ext σ'){d m:Nat}{o:Option Obj}{x:ABlk}(hx:BR σ d m o x):BR σ' d m o x:=by
 cases x with
 | cells c e=>
  obtain⟨C,h1,h2,h3⟩:=hx
  exact⟨C,h1,h2,fun i v hv=>let ⟨v',a,b⟩:=h3 i v hv; ⟨v',a,b.mono h⟩⟩
 | loop x=>
  obtain⟨fn,ts,dc,h1,h2,h3,h4⟩:=hx
  exact⟨fn,ts,dc,h1,h2.mono h,h _ _ h3,h4⟩
 | marks b=>exact hx
 | map es clock=>
  obtain⟨ES,h1,h2,h3,h4⟩:=hx
  exact⟨ES,h1,h2.mono h,h3,h4⟩
 | box v e=>
  obtain⟨v',h1,h2,h3⟩:=hx
  exact⟨v',h1,h2.mono h,h3⟩
 | iter b clock=>
  obtain⟨c,h1,h2,h3⟩:=hx
  exact⟨c,h1,h _ _ h2,h3⟩
 | iterAt b clock born=>
  obtain⟨c,seen,h1,h2,h3⟩:=hx
  exact⟨c,seen,h1,h _ _ h2,h3⟩
 | zeros n e=>exact hx
 | pair c e=>
  obtain⟨C,h1,h2,h3,h4⟩:=hx
  exact⟨C,h1,h2,fun i v hv=>let ⟨v',a,b⟩:=h3 i v hv; ⟨v',a,b.mono h⟩,h4⟩
structure Base where
 n:Nat
 Q:Nat→Prop
def Base.Own (s:Base)(c:Nat):Prop:=s.n≤c∧¬ s.Q c
structure Bs where
 n:Base
 X:Nat→Prop
def TabsOK1 (n:Nat)(w:World):Prop:=∀ g l,Tabs.tab g=some l→g<n∧∀ w':World,w'.heap[g]?=w.heap[g]?→∀ i v,l[i]?=some v→w'.cell? ⟨g,i,none⟩=some v
def WinOK (n:Nat)(w:World):Prop:=∀ j b d l,Tabs.win j=some (b,d,l)→Tabs.frz j=false→∀ w':World,(b<n→w'.heap[b]?=w.heap[b]?)→∀ i v,l[i]?=some v→∃ v',w'.cell? ⟨b,d+i,none⟩=some v'∧∀ σ,VR σ v v'
def TabsOK (n:Nat)(w:World):Prop:=TabsOK1 n w∧WinOK n w
theorem TabsOK.calm {n:Nat}{w w':World}(h:TabsOK n w)(hk:∀ k,k<n→w'.heap[k]?=w.heap[k]?):TabsOK n w':=
 ⟨fun g l hg=>⟨(h.1 g l hg).1,fun w'' e=>(h.1 g l hg).2 w'' (e.trans (hk g (h.1 g l hg).1))⟩,
 fun j b d l hg hz w'' e=>h.2 j b d l hg hz w'' fun hb=>(e hb).trans (hk b hb)⟩
def FrzOK (σ:Ren)(w:World):Prop:=∀ j c d,σ.z j c d→Tabs.frz j=true∧c<w.heap.size∧(∀ b t,σ b=some t→t.1 ≠ c)∧∃ y,Tabs.win j=some y∧∀ i v,y.2.2[i]?=some v→∃ v',w.cell? ⟨c,d+i,none⟩=some v'∧∀ τ:Ren,(∀ j c d,σ.z j c d→τ.z j c d)→VR τ v v'
theorem FrzOK.nil {w:World}:FrzOK Ren.nil w:=fun j c d h=>h.elim
theorem cell_same {w w':World}{c:Nat}(h:w'.heap[c]?=w.heap[c]?)(i:Nat):w'.cell? ⟨c,i,none⟩=w.cell? ⟨c,i,none⟩:=by
 simp only[World.cell?,h]
theorem FrzOK.mono {σ σ':Ren}{w w':World}(h:FrzOK σ w)(hz:∀ j c d,σ'.z j c d→σ.z j c d)(hs:w.heap.size≤w'.heap.size)
  (hk:∀ c,c<w.heap.size→(∀ b t,σ b=some t→t.1 ≠ c)→w'.heap[c]?=w.heap[c]?∧∀ b t,σ' b=some t→t.1 ≠ c) (hz':∀ j c d,σ.z j c d→σ'.z j c d:=by exact fun _ _ _ h=>h):FrzOK σ' w':=fun j c d hj=>by
 obtain⟨h1,h2,h3,y,h4,h5⟩:=h j c d (hz _ _ _ hj)
 obtain⟨k1,k2⟩:=hk c h2 h3
 exact⟨h1,Nat.lt_of_lt_of_le h2 hs,k2,y,h4,fun i v hv=>by
  obtain⟨v',g1,g2⟩:=h5 i v hv
  exact⟨v',by rw[cell_same k1]; exact g1,fun τ ht=>g2 τ fun j c d h=>ht j c d (hz' j c d h)⟩⟩
theorem FrzOK.put {σ:Ren}{w w':World}(h:FrzOK σ w)(b:Nat)(t:Nat×Nat×Nat)(ht:w.heap.size≤t.1)(hs:w.heap.size≤w'.heap.size)(hk:∀ c,c<w.heap.size→w'.heap[c]?=w.heap[c]?):FrzOK (σ.put b t) w':=
 h.mono (fun _ _ _ h=>h) hs fun c hc hn=>⟨hk c hc,fun b' t' h'=>by
  by_cases e:b'=b
  ·have h':(if b'=b then some t else σ b')=some t':=h'
   rw[if_pos e] at h'
   obtain rfl:=oI h'
   omega
  ·have h':(if b'=b then some t else σ b')=some t':=h'
   rw[if_neg e] at h'
   exact hn b' t' h'⟩
theorem FrzOK.putIn {σ:Ren}{w w':World}(h:FrzOK σ w){b:Nat}{t:Nat×Nat×Nat}(hb:σ b=some t)(b':Nat)(t':Nat×Nat×Nat)(ht:t'.1=t.1)(hs:w.heap.size≤w'.heap.size)(hk:∀ c,c ≠ t.1→w'.heap[c]?=w.heap[c]?):FrzOK (σ.put b' t') w':=
 h.mono (fun _ _ _ h=>h) hs fun c hc hn=>⟨hk c fun e=>hn b t hb e.symm,fun x u hx=>by
  by_cases e:x=b'
  ·have hx:(if x=b' then some t' else σ x)=some u:=hx
   rw[if_pos e] at hx
   obtain rfl:=oI hx
   rw[ht]; exact hn b t hb
  ·have hx:(if x=b' then some t' else σ x)=some u:=hx
   rw[if_neg e] at hx
   exact hn x u hx⟩
theorem FrzOK.set {σ:Ren}{w w':World}(h:FrzOK σ w){b:Nat}{t:Nat×Nat×Nat}(hb:σ b=some t)(hs:w.heap.size≤w'.heap.size)(hk:∀ c,c ≠ t.1→w'.heap[c]?=w.heap[c]?):FrzOK σ w':=
 h.mono (fun _ _ _ h=>h) hs fun c hc hn=>⟨hk c fun e=>hn b t hb e.symm,hn⟩
structure HR (n0:Bs) (σ:Ren) (H:AH) (w:World):Prop where
 base:n0.n.n≤w.heap.size∧(∀ c,n0.n.Q c→c<w.heap.size)∧TabsOK n0.n.n w
 blk:∀ b x,H.blocks.get b=some x→∃ c d m,σ b=some (c,d,m)∧n0.n.Own c∧BR σ d m (w.heap[c]?) x
 inj:∀ b₁ b₂ x₁ x₂ c d₁ m₁ d₂ m₂,H.blocks.get b₁=some x₁→H.blocks.get b₂=some x₂→σ b₁=some (c,d₁,m₁)→σ b₂=some (c,d₂,m₂)→b₁=b₂
 dom:∀ b t,σ b=some t→b<H.next
 img:∀ b c d m,σ b=some (c,d,m)→c<w.heap.size
 hol:∀ b,n0.X b→b<H.next∧σ b=none
 frz:FrzOK σ w
structure Step (n0:Bs) (σ:Ren) (w:World) (low:Nat) (σ':Ren) (w':World):Prop where
 ext:σ.Ext σ'
 below:Below n0.n.n w w'
 keep:∀ c,c<w.heap.size→(n0.n.Q c∨∀ b d m,σ b=some (c,d,m)→b<low)→w'.heap[c]?=w.heap[c]?∧∀ b d m,σ' b=some (c,d,m)→σ b=some (c,d,m)
 kz:∀ c,c<w.heap.size→(n0.n.Q c∨∀ b d m,σ b=some (c,d,m)→b<low)→∀ j d,σ'.z j c d→σ.z j c d
theorem Ren.Ext.refl (σ:Ren):σ.Ext σ:=⟨fun _ _ h=>h,fun _ _ _ h=>h⟩
theorem Ren.Ext.trans {σ₁ σ₂ σ₃:Ren}(h:σ₁.Ext σ₂)(k:σ₂.Ext σ₃):σ₁.Ext σ₃:=⟨fun b t hb=>k b t (h b t hb),fun j c d hz=>k.z _ _ _ (h.z _ _ _ hz)⟩
theorem Step.refl (n0:Bs)(σ:Ren)(w:World)(low:Nat):Step n0 σ w low σ w:=⟨.refl σ,.refl _ _,fun _ _ _=>⟨rfl,fun _ _ _ h=>h⟩,fun _ _ _ _ _ h=>h⟩
theorem Step.lower {n0:Bs}{σ σ':Ren}{w w':World}{low low':Nat}(h:Step n0 σ w low σ' w')(hl:low'≤low):Step n0 σ w low' σ' w':=
 ⟨h.ext,h.below,fun c hc hb=>h.keep c hc (hb.imp id fun hb b d m hs=>Nat.lt_of_lt_of_le (hb b d m hs) hl),fun c hc hb=>h.kz c hc (hb.imp id fun hb b d m hs=>Nat.lt_of_lt_of_le (hb b d m hs) hl)⟩
theorem Step.trans {n0:Bs}{σ₁ σ₂ σ₃:Ren}{w₁ w₂ w₃:World}{low low':Nat}(h:Step n0 σ₁ w₁ low σ₂ w₂)(k:Step n0 σ₂ w₂ low' σ₃ w₃)(hl:low'≤low):Step n0 σ₁ w₁ low' σ₃ w₃:=by
 refine⟨h.ext.trans k.ext,h.below.trans k.below,fun c hc hb=>?_,fun c hc hb j d hj=>?_⟩
 ·obtain⟨h1,h2⟩:=h.keep c hc (hb.imp id fun hb b d m hs=>Nat.lt_of_lt_of_le (hb b d m hs) hl)
  obtain⟨k1,k2⟩:=k.keep c (Nat.lt_of_lt_of_le hc h.below.size) (hb.imp id fun hb b d m hs=>hb b d m (h2 b d m hs))
  exact⟨k1.trans h1,fun b d m hs=>h2 b d m (k2 b d m hs)⟩
 ·have hb':n0.n.Q c∨∀ b d m,σ₁ b=some (c,d,m)→b<low:=hb.imp id fun hb b d m hs=>Nat.lt_of_lt_of_le (hb b d m hs) hl
  obtain⟨h1,h2⟩:=h.keep c hc hb'
  exact h.kz c hc hb' j d (k.kz c (Nat.lt_of_lt_of_le hc h.below.size) (hb.imp id fun hb b d m hs=>hb b d m (h2 b d m hs)) j d hj)
theorem Step.calm {n0:Bs}{σ σ':Ren}{w w':World}{low:Nat}{H:AH}(h:Step n0 σ w low σ' w')(hr:HR n0 σ H w)(hl:H.next≤low)(c:Nat)(hc:c<w.heap.size) :
  w'.heap[c]?=w.heap[c]?∧∀ b d m,σ' b=some (c,d,m)→σ b=some (c,d,m):=
 h.keep c hc (.inr fun b d m hs=>Nat.lt_of_lt_of_le (hr.dom b _ hs) hl)
theorem qoq_ {s:Base}{w w':World}(h:s.n≤w.heap.size∧(∀ c,s.Q c→c<w.heap.size)∧TabsOK s.n w)(hz:w.heap.size≤w'.heap.size)(hk:∀ k,k<s.n→w'.heap[k]?=w.heap[k]?):s.n≤w'.heap.size∧(∀ c,s.Q c→c<w'.heap.size)∧TabsOK s.n w':=
 ⟨Nat.le_trans h.1 hz,fun c hc=>Nat.lt_of_lt_of_le (h.2.1 c hc) hz,h.2.2.calm hk⟩
theorem HR.own_new {n0:Bs}{σ:Ren}{H:AH}{w:World}(hr:HR n0 σ H w):n0.n.Own w.heap.size:=⟨hr.base.1,fun h=>absurd (hr.base.2.1 _ h) (Nat.lt_irrefl _)⟩
theorem HR.setQ {n:Nat}{Q Q' X:Nat→Prop}{σ:Ren}{H:AH}{w:World}(hr:HR ⟨⟨n,Q'⟩,X⟩ σ H w)(h:∀ c,Q c→Q' c):HR ⟨⟨n,Q⟩,X⟩ σ H w:=
 ⟨⟨hr.base.1,fun c hc=>hr.base.2.1 c (h c hc),hr.base.2.2⟩,fun b x hb=>let ⟨c,d,m,h1,h2,h3⟩:=hr.blk b x hb; ⟨c,d,m,h1,⟨h2.1,fun hq=>h2.2 (h c hq)⟩,h3⟩,hr.inj,hr.dom,hr.img,hr.hol,hr.frz⟩
theorem Step.setQ {n:Nat}{Q Q' X:Nat→Prop}{σ σ':Ren}{w w':World}{low:Nat}(st:Step ⟨⟨n,Q'⟩,X⟩ σ w low σ' w')(h:∀ c,Q c→Q' c):Step ⟨⟨n,Q⟩,X⟩ σ w low σ' w':=
 ⟨st.ext,st.below,fun c hc hb=>st.keep c hc (hb.imp (h c) id),fun c hc hb=>st.kz c hc (hb.imp (h c) id)⟩
end Go.Proofs.YthlikofobjhcoaaGreat.Ax
namespace Go.Proofs.YthlikofobjhcoaaGreat.Ax
open Go.RowKit
variable [Tabs]
theorem Ren.put_self (σ:Ren)(b:Nat)(t:Nat×Nat×Nat):σ.put b t b=some t:=if_pos rfl
theorem Ren.put_other (σ:Ren){b x:Nat}(t:Nat×Nat×Nat)(h:x ≠ b):σ.put b t x=σ x:=if_neg h
theorem HR.fresh {n0:Bs}{σ:Ren}{H:AH}{w:World}(hr:HR n0 σ H w):σ H.next=none:=by
 cases h:σ H.next with
 | none=>rfl
 | some t=>exact absurd (hr.dom _ _ h) (Nat.lt_irrefl _)
theorem HR.ext_put {n0:Bs}{σ:Ren}{H:AH}{w:World}(hr:HR n0 σ H w)(t:Nat×Nat×Nat):σ.Ext (σ.put H.next t):=⟨fun b u hb=>by
 have:b ≠ H.next:=Nat.ne_of_lt (hr.dom b u hb)
 rw[Ren.put_other σ t this]
 exact hb,fun _ _ _ h=>h⟩
theorem HR.notNew {n0:Bs}{σ:Ren}{H:AH}{w:World}(hr:HR n0 σ H w){b:Nat}{x:ABlk}(hb:H.blocks.get b=some x):b ≠ H.next:=by
 obtain⟨c,d,m,hs,_⟩:=hr.blk b x hb
 exact Nat.ne_of_lt (hr.dom b _ hs)
theorem qnf_ (w:World)(o:Obj):(w.alloc o).heap.size=w.heap.size+1:=by
 show (w.heap.push o).size=_
 simp
theorem alloc_self (w:World)(o:Obj):(w.alloc o).heap[w.heap.size]?=some o:=by
 show (w.heap.push o)[w.heap.size]?=_
 simp
noncomputable def AH.push (H:AH)(x:ABlk):AH:=⟨H.blocks.set H.next x,Nat.succ H.next,H.low⟩
theorem HR.alloc {n0:Bs}{σ:Ren}{H:AH}{w:World}(hr:HR n0 σ H w){x:ABlk}{o:Obj}{m:Nat}(hx:BR (σ.put H.next (w.heap.size,0,m)) 0 m (some o) x) :
  HR n0 (σ.put H.next (w.heap.size,0,m)) (H.push x) (w.alloc o)∧Step n0 σ w H.low (σ.put H.next (w.heap.size,0,m)) (w.alloc o):=by
 have hext:=hr.ext_put (w.heap.size,0,m)
 refine⟨⟨qoq_ hr.base (by rw[qnf_]; exact Nat.le_succ _) ((Below.refl n0.n.n w).alloc hr.base.1 o).block,?_,?_,?_,?_,fun b hb=>⟨Nat.lt_succ_of_lt (hr.hol b hb).1,by rw[Ren.put_other _ _ (Nat.ne_of_lt (hr.hol b hb).1)]; exact (hr.hol b hb).2⟩,hr.frz.put _ _ (Nat.le_refl _) (by rw[qnf_]; omega) fun c hc=>Below.heap_alloc w o c hc⟩,⟨hext,(Below.refl n0.n.n w).alloc hr.base.1 o,?_,fun _ _ _ _ _ h=>h⟩⟩
 ·intro b y hb
  simp only[AH.push,Tr.get_set] at hb
  by_cases h:b=H.next
  ·subst h
   rw[if_pos rfl] at hb
   obtain rfl:=oI hb
   exact⟨w.heap.size,0,m,Ren.put_self _ _ _,hr.own_new,by rw[alloc_self]; exact hx⟩
  ·rw[if_neg h] at hb
   obtain⟨c,d,m',hs,hn,hB⟩:=hr.blk b y hb
   refine⟨c,d,m',hext _ _ hs,hn,?_⟩
   rw[Below.heap_alloc w o c (hr.img b c d m' hs)]
   exact hB.mono hext
 ·intro b₁ b₂ x₁ x₂ c d₁ m₁ d₂ m₂ h1 h2 s1 s2
  simp only[AH.push,Tr.get_set] at h1 h2
  by_cases e1:b₁=H.next
  ·by_cases e2:b₂=H.next
   ·rw[e1,e2]
   ·rw[if_neg e2] at h2
    rw[Ren.put_other _ _ e2] at s2
    subst e1
    rw[Ren.put_self] at s1
    have:=hr.img b₂ c d₂ m₂ s2
    injection s1 with s1
    injection s1 with s1 _
    omega
  ·rw[if_neg e1] at h1
   rw[Ren.put_other _ _ e1] at s1
   by_cases e2:b₂=H.next
   ·subst e2
    rw[Ren.put_self] at s2
    have:=hr.img b₁ c d₁ m₁ s1
    injection s2 with s2
    injection s2 with s2 _
    omega
   ·rw[if_neg e2] at h2
    rw[Ren.put_other _ _ e2] at s2
    exact hr.inj b₁ b₂ x₁ x₂ c d₁ m₁ d₂ m₂ h1 h2 s1 s2
 ·intro b t hb
  by_cases e:b=H.next
  ·subst e; exact Nat.lt_succ_self _
  ·rw[Ren.put_other _ _ e] at hb
   exact Nat.lt_succ_of_lt (hr.dom b t hb)
 ·intro b c d m' hb
  have hz:=qnf_ w o
  by_cases e:b=H.next
  ·subst e
   rw[Ren.put_self] at hb
   injection hb with hb
   injection hb with hb _
   omega
  ·rw[Ren.put_other _ _ e] at hb
   have:=hr.img b c d m' hb
   omega
 ·intro c hc _
  refine⟨Below.heap_alloc w o c hc,fun b d m' hb=>?_⟩
  by_cases e:b=H.next
  ·subst e
   rw[Ren.put_self] at hb
   injection hb with hb
   injection hb with hb _
   omega
  ·rwa [Ren.put_other _ _ e] at hb
theorem qrk_ {w:World}{c o:Nat}{C:Array Value}{e:TypeId}{f:Nat×Nat}(h:w.heap[c]?=some (.cells C e f))(v:Value) :
  (w.setCell ⟨c,o,none⟩ v).heap[c]?=some (.cells (C.setIfInBounds o v) e f):=by
 simp[World.setCell,Array.getElem?_modify,h]
theorem qg1_ {w:World}{c o:Nat}{C:Array Value}{e:TypeId}{f:Nat×Nat}(h:w.heap[c]?=some (.cells C e f)):w.cell? ⟨c,o,none⟩=C[o]?:=by
 simp[World.cell?,h]
theorem qk5_ {w:World}{c o:Nat}{C:Array Value}{e:TypeId}(h:w.heap[c]?=some (.cells C e (0,0))):w.frozen? ⟨c,o,none⟩=false:=by
 simp[World.frozen?,h]
noncomputable def AH.store (H:AH)(b:Nat)(c:Tr Value)(e:TypeId):AH:=⟨H.blocks.set b (.cells c e),H.next,Nat.min H.low b⟩
theorem HR.cell {n0:Bs}{σ:Ren}{H:AH}{w:World}(hr:HR n0 σ H w){b:Nat}{c:Tr Value}{e:TypeId}(hb:H.blocks.get b=some (.cells c e)){k d m:Nat}(hs:σ b=some (k,d,m)){o:Nat}{v:Value}
  (hv:c.get o=some v):∃ v',w.cell? ⟨k,d+o,none⟩=some v'∧VR σ v v':=by
 obtain⟨k',d',m',hs',hn,C,h1,h2,h3⟩:=hr.blk b _ hb
 rw[hs] at hs'
 injection hs' with hs'
 injection hs' with e1 hs'
 injection hs' with e2 e3
 subst e1 e2 e3
 obtain⟨v',hv',hvr⟩:=h3 o v hv
 exact⟨v',by rw[qg1_ h1]; exact hv',hvr⟩
theorem getElem?_some_lt {α:Type}{C:Array α}{i:Nat}{v:α}(h:C[i]?=some v):i<C.size:=by
 rcases Nat.lt_or_ge i C.size with h' | h'
 ·exact h'
 ·rw[Array.getElem?_eq_none h'] at h; cases h
theorem HR.store {n0:Bs}{σ:Ren}{H:AH}{w:World}(hr:HR n0 σ H w){b:Nat}{c:Tr Value}{e:TypeId}(hb:H.blocks.get b=some (.cells c e)){k d m:Nat}(hs:σ b=some (k,d,m)){o:Nat}{u v v':Value}
  (hu:c.get o=some u) (hv:VR σ v v') :
  (∃ u',w.cell? ⟨k,d+o,none⟩=some u')∧w.frozen? ⟨k,d+o,none⟩=false∧HR n0 σ (H.store b (c.set o v) e) (w.setCell ⟨k,d+o,none⟩ v')∧Step n0 σ w (Nat.min H.low b) σ (w.setCell ⟨k,d+o,none⟩ v'):=by
 obtain⟨k',d',m',hs',hn,C,h1,h2,h3⟩:=hr.blk b _ hb
 rw[hs] at hs'
 injection hs' with hs'
 injection hs' with e1 hs'
 injection hs' with e2 e3
 subst e1 e2 e3
 obtain⟨u',hu',_⟩:=h3 o u hu
 have hlt:=getElem?_some_lt hu'
 refine⟨⟨u',by rw[qg1_ h1]; exact hu'⟩,qk5_ h1,⟨qoq_ hr.base (by simp[World.setCell]) ((Below.refl n0.n.n w).setCell hn.1 v').block,?_,?_,hr.dom,?_,hr.hol,hr.frz.set hs (by simp[World.setCell]) fun c hc=>Below.heap_setCell w ⟨k,d+o,none⟩ v' c hc⟩,⟨.refl σ,(Below.refl n0.n.n w).setCell hn.1 v',?_,fun _ _ _ _ _ h=>h⟩⟩
 ·intro b₁ x hx
  simp only[AH.store,Tr.get_set] at hx
  by_cases eb:b₁=b
  ·subst eb
   rw[if_pos rfl] at hx
   obtain rfl:=oI hx
   refine⟨k,d,m,hs,hn,C.setIfInBounds (d+o) v',qrk_ h1 v',by simpa using h2,fun i y hy=>?_⟩
   rw[Tr.get_set] at hy
   by_cases ei:i=o
   ·subst ei
    rw[if_pos rfl] at hy
    obtain rfl:=oI hy
    exact⟨v',by simp[hlt],hv⟩
   ·rw[if_neg ei] at hy
    obtain⟨y',hy',hr'⟩:=h3 i y hy
    exact⟨y',by rw[Array.getElem?_setIfInBounds_ne (by omega)]; exact hy',hr'⟩
  ·rw[if_neg eb] at hx
   obtain⟨k₁,d₁,m₁,hs₁,hn₁,hB⟩:=hr.blk b₁ x hx
   refine⟨k₁,d₁,m₁,hs₁,hn₁,?_⟩
   have:k₁ ≠ k:=fun ek=>eb (hr.inj b₁ b x _ k d₁ m₁ d m hx hb (ek ▸ hs₁) hs)
   rw[Below.heap_setCell w ⟨k,d+o,none⟩ v' k₁ this]
   exact hB
 ·intro b₁ b₂ x₁ x₂ c' d₁ m₁ d₂ m₂ g1 g2 s1 s2
  have get:∀ bb xx,(H.store b (c.set o v) e).blocks.get bb=some xx→∃ yy,H.blocks.get bb=some yy:=fun bb xx hh=>by
   simp only[AH.store,Tr.get_set] at hh
   by_cases eb:bb=b
   ·exact⟨_,eb ▸ hb⟩
   ·rw[if_neg eb] at hh; exact⟨_,hh⟩
  obtain⟨y₁,g1⟩:=get _ _ g1
  obtain⟨y₂,g2⟩:=get _ _ g2
  exact hr.inj b₁ b₂ y₁ y₂ c' d₁ m₁ d₂ m₂ g1 g2 s1 s2
 ·intro b₁ c' d₁ m₁ h
  have:=hr.img b₁ c' d₁ m₁ h
  simpa [World.setCell] using this
 ·intro c' hc hlow
  refine⟨Below.heap_setCell w ⟨k,d+o,none⟩ v' c' fun ec=>?_,fun _ _ _ h=>h⟩
  have:c'=k:=ec
  subst this
  rcases hlow with hq | hlow
  ·exact hn.2 hq
  ·exact absurd (hlow b d m hs) (Nat.not_lt.2 (Nat.min_le_right _ _))
end Go.Proofs.YthlikofobjhcoaaGreat.Ax
namespace Go.Proofs.YthlikofobjhcoaaGreat.Ax
open Go.RowKit
variable [Tabs]
abbrev VRes:=Option (Value×AH)
def Gives (P:Program)(n0:Bs)(σ:Ren)(w:World)(s:Sem Value)(v:Value)(H':AH):Prop:=
 ∃ v' σ' w',s.run P w=.ok v' w'∧VR σ' v v'∧HR n0 σ' H' w'∧Step n0 σ w H'.low σ' w'
def GivesU (P:Program)(n0:Bs)(σ:Ren)(w:World)(s:Sem Unit)(H':AH):Prop:=
 ∃ σ' w',s.run P w=.ok () w'∧HR n0 σ' H' w'∧Step n0 σ w H'.low σ' w'
def GivesE (P:Program)(n0:Bs)(σ:Ren)(w:World)(s:Sem Unit)(H':AH):Prop:=
 ∃ w',s.run P w=.ok () w'∧HR n0 σ H' w'∧Step n0 σ w H'.low σ w'
theorem GivesE.toU {P:Program}{n0:Bs}{σ:Ren}{w:World}{s:Sem Unit}{H':AH}(h:GivesE P n0 σ w s H'):GivesU P n0 σ w s H':=
 let ⟨w',h⟩:=h
 ⟨σ,w',h⟩
def GivesP (P:Program)(n0:Bs)(σ:Ren)(w:World)(H:AH)(s:Sem Value)(v:Value)(H':AH):Prop:=H'=H∧∃ v',s.run P w=.ok v' w∧VR σ v v'
theorem GivesP.pure {P:Program}{n0:Bs}{σ:Ren}{w:World}{H:AH}(hr:HR n0 σ H w){s:Sem Value}{v v':Value}(hs:s.run P w=.ok v' w)(hv:VR σ v v'):GivesP P n0 σ w H s v H:=⟨rfl,v',hs,hv⟩
theorem GivesP.gives {P:Program}{n0:Bs}{σ:Ren}{w:World}{H H':AH}(hr:HR n0 σ H w){s:Sem Value}{v:Value}(h:GivesP P n0 σ w H s v H'):Gives P n0 σ w s v H':=by
 obtain⟨rfl,v',h1,h2⟩:=h
 exact⟨v',σ,w,h1,h2,hr,Step.refl _ _ _ _⟩
theorem Gives.pure {P:Program}{n0:Bs}{σ:Ren}{w:World}{H:AH}(hr:HR n0 σ H w){s:Sem Value}{v v':Value}(hs:s.run P w=.ok v' w)(hv:VR σ v v'):Gives P n0 σ w s v H:=
 ⟨v',σ,w,hs,hv,hr,Step.refl _ _ _ _⟩
def aggOf:TypeDesc→Bool
 | .struct _=>true
 | .array _ _=>true
 | _=>false
noncomputable def aggB (P:Program)(t:TypeId):Option Bool:=oc (P.underlying t) none (fun d=>some (aggOf d))
noncomputable def sizeB (P:Program)(t:TypeId):Option Nat:=oc (P.info? t) none (fun i=>some i.size)
theorem qjn_ {P:Program}{t:TypeId}{b:Bool}(h:aggB P t=some b)(w:World):(isAgg t).run P w=.ok b w:=by
 obtain⟨d,hd,h⟩:=oS h
 obtain rfl:=oI h
 cases d<;>simp[isAgg,run_underlying hd,aggOf]
theorem qcy_ {P:Program}{t:TypeId}{n:Nat}(h:sizeB P t=some n)(w:World):(sizeOf t).run P w=.ok n w:=by
 obtain⟨i,hi,h⟩:=oS h
 obtain rfl:=oI h
 simp[sizeOf,typeInfo,hi]
def qpj_ (v:Value):Option (Nat×Nat):=
 match v with
 | .pointer (some ⟨b,o,none⟩)=>some (b,o)
 | _=>none
theorem addrOf_eq {v:Value}{a:Nat×Nat}(h:qpj_ v=some a):v=.pointer (some ⟨a.1,a.2,none⟩):=by
 unfold qpj_ at h
 split at h
 ·obtain rfl:=oI h; rfl
 ·cases h
theorem qqh_ {σ:Ren}{v v':Value}{a:Nat×Nat}(h:qpj_ v=some a)(hv:VR σ v v'):∃ c d m,σ a.1=some (c,d,m)∧v'=.pointer (some ⟨c,d+a.2,none⟩):=by
 rw[addrOf_eq h] at hv
 cases hv with
 | ptr o hb=>exact⟨_,_,_,hb,rfl⟩
def cellsOf (x:ABlk):Option (Tr Value×TypeId):=
 match x with
 | .cells c e=>some (c,e)
 | _=>none
noncomputable def qd0_ (H:AH)(b:Nat):Option (Tr Value×TypeId):=oc (H.blocks.get b) none cellsOf
theorem qds_ {H:AH}{b:Nat}{x:Tr Value×TypeId}(h:qd0_ H b=some x):H.blocks.get b=some (.cells x.1 x.2):=by
 obtain⟨y,hy,h⟩:=oS h
 unfold cellsOf at h
 split at h
 ·obtain rfl:=oI h; exact hy
 ·cases h
def pairX (x:ABlk):Option (Tr Value×TypeId):=
 match x with
 | .pair c e=>some (c,e)
 | _=>none
noncomputable def pairOf (H:AH)(b:Nat):Option (Tr Value×TypeId):=oc (H.blocks.get b) none pairX
theorem pairOf_eq {H:AH}{b:Nat}{x:Tr Value×TypeId}(h:pairOf H b=some x):H.blocks.get b=some (.pair x.1 x.2):=by
 obtain⟨y,hy,h⟩:=oS h
 unfold pairX at h
 split at h
 ·obtain rfl:=oI h; exact hy
 ·cases h
noncomputable def AH.setK (H:AH)(b:Nat)(x:ABlk)(low:Nat):AH:=⟨H.blocks.set b x,H.next,low⟩
theorem HR.setK {n0:Bs}{σ:Ren}{H:AH}{w:World}(hr:HR n0 σ H w){b:Nat}{x y:ABlk}(hb:H.blocks.get b=some x)(hxy:∀ c d m,σ b=some (c,d,m)→BR σ d m (w.heap[c]?) x→BR σ d m (w.heap[c]?) y)(low:Nat):HR n0 σ (H.setK b y low) w:=by
 have get:∀ bb xx,(H.setK b y low).blocks.get bb=some xx→∃ yy,H.blocks.get bb=some yy:=fun bb xx hh=>by
  simp only[AH.setK,Tr.get_set] at hh
  by_cases eb:bb=b
  ·exact⟨_,eb ▸ hb⟩
  ·rw[if_neg eb] at hh; exact⟨_,hh⟩
 refine⟨hr.base,fun bb xx hh=>?_,fun b₁ b₂ x₁ x₂ c d₁ m₁ d₂ m₂ g1 g2=>?_,hr.dom,hr.img,hr.hol,hr.frz⟩
 ·simp only[AH.setK,Tr.get_set] at hh
  by_cases eb:bb=b
  ·subst eb
   rw[if_pos rfl] at hh
   obtain rfl:=oI hh
   obtain⟨c,d,m,h1,h2,h3⟩:=hr.blk _ _ hb
   exact⟨c,d,m,h1,h2,hxy c d m h1 h3⟩
  ·rw[if_neg eb] at hh; exact hr.blk bb xx hh
 ·obtain⟨y₁,g1⟩:=get _ _ g1
  obtain⟨y₂,g2⟩:=get _ _ g2
  exact hr.inj b₁ b₂ y₁ y₂ c d₁ m₁ d₂ m₂ g1 g2
noncomputable def AH.loosen (H:AH)(b:Nat):AH:=oc (pairOf H b) H fun y=>H.setK b (.cells y.1 y.2) H.low
theorem HR.loosen {n0:Bs}{σ:Ren}{H:AH}{w:World}(hr:HR n0 σ H w)(b:Nat):HR n0 σ (H.loosen b) w:=by
 unfold AH.loosen
 cases h:pairOf H b with
 | none=>exact hr
 | some y=>
  rw[oc_some]
  refine hr.setK (pairOf_eq h) ?_ _
  rintro c d m _ ⟨C,h1,h2,h3,h4⟩
  exact⟨C,h1,h2,h3⟩
theorem loosen_cells {H:AH}{b:Nat}{x:Tr Value×TypeId}(h:qd0_ H b=some x):H.loosen b=H:=by
 unfold AH.loosen pairOf
 rw[qds_ h,oc_some]; rfl
theorem qfe_ (c o n:Nat):(⟨c,o,none⟩:Addr).add n=⟨c,o+n,none⟩:=by
 unfold Addr.add
 split
 ·rename_i h; subst h; rfl
 ·rfl
theorem qef_ {P:Program}{w:World}{c o:Nat}:∀ (l:List Value) (i:Nat) (acc:Array Value),(∀ j v,l[j]?=some v→w.cell? ⟨c,o+(i+j),none⟩=some v) →
  (loadCellsFrom ⟨c,o,none⟩ i l.length acc).run P w=.ok (acc++l.toArray) w
 | [],i,acc,_=>by simp[loadCellsFrom]
 | v::l,i,acc,h=>by
  have h0:w.cell? ⟨c,o+i,none⟩=some v:=h 0 v (by simp)
  have ih:=qef_ (P:=P) l (i+1) (acc.push v) fun j u hu=>by
   have:=h (j+1) u (by simpa using hu)
   rw[show o+(i+1+j)=o+(i+(j+1)) from by omega]
   exact this
  simp only[List.length_cons,loadCellsFrom,qfe_,load]
  simp[Sem.run,h0,Sem.run_bind,ih]
theorem HR.reads {n0:Bs}{σ:Ren}{H:AH}{w:World}(hr:HR n0 σ H w){b:Nat}{c:Tr Value}{e:TypeId}(hb:H.blocks.get b=some (.cells c e)){k d m:Nat}(hs:σ b=some (k,d,m)) :
  ∀ (n o:Nat) (l:List Value),rdT c n o=some l→∃ l',VRs σ l l'∧∀ j v',l'[j]?=some v'→w.cell? ⟨k,d+(o+j),none⟩=some v':=by
 intro n
 induction n with
 | zero=>
  intro o l h
  obtain rfl:[]=l:=oI h
  exact⟨[],.nil,fun j v' h=>by simp at h⟩
 | succ n ih=>
  intro o l h
  rw[rdT_succ] at h
  obtain⟨v,hv,h⟩:=oS h
  obtain⟨l₁,hl,h⟩:=oS h
  obtain rfl:=oI h
  obtain⟨l',h1,h2⟩:=ih (o+1) l₁ hl
  obtain⟨v',c1,c2⟩:=hr.cell hb hs hv
  refine⟨v' :: l',.cons c2 h1,fun j u hu=>?_⟩
  cases j with
  | zero=>
       obtain rfl:v'=u:=by simpa using hu
       exact c1
  | succ j=>
   have:=h2 j u (by simpa using hu)
   rwa [show o+(j+1)=o+1+j from by omega]
theorem qr7_ {P:Program}{n0:Bs}{σ:Ren}{H:AH}{w:World}(hr:HR n0 σ H w){b:Nat}{c:Tr Value}{e:TypeId}(hb:H.blocks.get b=some (.cells c e)){k d m:Nat}(hs:σ b=some (k,d,m))
  {n o:Nat} {l:List Value} (h:rdT c n o=some l):∃ l',VRs σ l l'∧(loadCells ⟨k,d+o,none⟩ n).run P w=.ok ⟨l'⟩ w:=by
 obtain⟨l',h1,h2⟩:=hr.reads hb hs n o l h
 refine⟨l',h1,?_⟩
 have hn:n=l'.length:=by rw[←h1.length]; exact (qvf_ c n o l h).1.symm
 unfold loadCells
 rw[hn,qef_ l' 0 #[] fun j v hv=>by have:=h2 j v hv; rwa [show d+o+(0+j)=d+(o+j) from by omega]]
 simp
noncomputable def loadB (P:Program)(t:TypeId)(H:AH)(b o:Nat):Option Value:=
 oc (qd0_ H b) none fun x=>oc (aggB P t) none fun g=>sel g (oc (sizeB P t) none fun n=>oc (rdT x.1 n o) none fun l=>some (.agg ⟨l⟩)) (x.1.get o)
theorem qyb_ {P:Program}{n0:Bs}{σ:Ren}{H:AH}{w:World}(hr:HR n0 σ H w){t:TypeId}{b o:Nat}{v:Value}(h:loadB P t H b o=some v){k d m:Nat}(hs:σ b=some (k,d,m)) :
  ∃ v',VR σ v v'∧(loadVar t ⟨k,d+o,none⟩).run P w=.ok v' w:=by
 obtain⟨x,hx,h⟩:=oS h
 obtain⟨g,hg,h⟩:=oS h
 have hb:=qds_ hx
 rcases qa_ h with⟨rfl,h⟩ | ⟨rfl,h⟩
 ·obtain⟨n,hn,h⟩:=oS h
  obtain⟨l,hl,h⟩:=oS h
  obtain rfl:=oI h
  obtain⟨l',h1,h2⟩:=qr7_ (P:=P) hr hb hs hl
  refine⟨.agg ⟨l'⟩,h1.agg,?_⟩
  simp[loadVar,Sem.run_bind,qjn_ hg,qcy_ hn,h2]
 ·obtain⟨v',h1,h2⟩:=hr.cell hb hs h
  refine⟨v',h2,?_⟩
  simp[loadVar,Sem.run_bind,qjn_ hg,load,Sem.run,h1]
def flat (v:Value):Bool:=
 match v with
 | .bool _ | .int _ _ | .float _ _ | .string _ | .pointer none | .slice none _ _ | .map none | .nilFunc | .nilIface=>true
 | _=>false
def flatL:List Value→Bool
 | []=>true
 | v::l=>flat v&&flatL l
theorem qua_ {v:Value}(h:flat v=true)(σ:Ren):VR σ v v:=by
 unfold flat at h
 split at h<;>first | constructor | cases h
theorem qfs_ {σ:Ren}{v v':Value}(h:flat v=true)(hv:VR σ v v'):v'=v:=by
 unfold flat at h
 split at h<;>first | exact absurd h Bool.false_ne_true | (cases hv; rfl)
theorem qiw_:∀ {l:List Value},flatL l=true→∀ σ:Ren,VRs σ l l
 | [],_,_=>.nil
 | v::l,h,σ=>by
  simp only[flatL,bA] at h
  exact .cons (qua_ h.1 σ) (qiw_ h.2 σ)
theorem qr8_ {σ:Ren}{l l':List Value}(h:flatL l=true)(hl:VRs σ l l'):l'=l:=by
 induction hl with
 | nil=>rfl
 | cons hv _ ih=>
  simp only[flatL,bA] at h
  rw[qfs_ h.1 hv,ih h.2]
def winOf (v:Value):Option (Nat×Nat):=
 match v with
 | .pointer (some ⟨j,o,some 1⟩)=>some (j,o)
 | _=>none
theorem winOf_eq {v:Value}{a:Nat×Nat}(h:winOf v=some a):v=.pointer (some ⟨a.1,a.2,some 1⟩):=by
 unfold winOf at h
 split at h
 ·obtain rfl:=oI h; rfl
 ·cases h
theorem winOf_vr {σ:Ren}{v v':Value}{a:Nat×Nat}(h:winOf v=some a)(hv:VR σ v v'):∃ b d,WinAt σ a.1 b d∧v'=.pointer (some ⟨b,d+a.2,none⟩):=by
 rw[winOf_eq h] at hv
 cases hv with
 | win o hj=>exact⟨_,_,hj,rfl⟩
def winS (v:Value):Option (Nat×Nat×Nat×Nat):=
 match v with
 | .slice (some ⟨j,o,some 1⟩) n k=>some (j,o,n,k)
 | _=>none
theorem winS_eq {v:Value}{x:Nat×Nat×Nat×Nat}(h:winS v=some x):v=.slice (some ⟨x.1,x.2.1,some 1⟩) x.2.2.1 x.2.2.2:=by
 unfold winS at h
 split at h
 ·obtain rfl:=oI h; rfl
 ·cases h
theorem winS_vr {σ:Ren}{v v':Value}{x:Nat×Nat×Nat×Nat}(h:winS v=some x)(hv:VR σ v v'):(∃ b d k',WinAt σ x.1 b d∧v'=.slice (some ⟨b,d+x.2.1,none⟩) x.2.2.1 k'∧x.2.2.1≤k'∧((k'=x.2.2.2∧k' < big)∨big+x.2.2.1≤x.2.2.2))∨x.2.2.1=0:=by
 rw[winS_eq h] at hv
 generalize hn:x.2.2.1=nn at hv
 generalize hk:x.2.2.2=kk at hv
 cases hv with
 | win0=>exact .inr rfl
 | winS o n k hj hk hn=>exact .inl ⟨_,_,_,hj,rfl,hn,.inl ⟨rfl,hk⟩⟩
 | winU o n k kk hj hn hk=>exact .inl ⟨_,_,_,hj,rfl,hn,.inr hk⟩
 | winU0=>exact .inr rfl
theorem HR.winCell {n0:Bs}{σ:Ren}{H:AH}{w:World}(hr:HR n0 σ H w){j b d:Nat}(hw:WinAt σ j b d){y:Nat×Nat×List Value}(hy:Tabs.win j=some y)(i:Nat)(v:Value)(hv:y.2.2[i]?=some v):∃ v',w.cell? ⟨b,d+i,none⟩=some v'∧VR σ v v':=by
 cases hw with
 | arg h hz=>
  rw[hy] at h
  obtain rfl:=oI h
  obtain⟨v',g1,g2⟩:=hr.base.2.2.2 j _ _ _ hy hz w (fun _=>rfl) i v hv
  exact⟨v',g1,g2 σ⟩
 | frz hz h=>
  obtain⟨_,_,_,y',h4,h5⟩:=hr.frz j b d h
  rw[hy] at h4
  obtain rfl:=oI h4
  obtain⟨v',g1,g2⟩:=h5 i v hv
  exact⟨v',g1,g2 σ fun _ _ _ h=>h⟩
noncomputable def rdL (l:List Value):Nat→Nat→Option (List Value)
 | 0,_=>some []
 | n+1,o=>oc (l[o]?) none fun v=>oc (rdL l n (o+1)) none fun r=>some (v::r)
theorem q0f_ {l:List Value}:∀ {n o:Nat} {r:List Value},rdL l n o=some r→r.length=n∧∀ (j:Nat) v,r[j]?=some v→l[o+j]?=some v
 | 0,o,r,h=>by obtain rfl:=oI h; exact⟨rfl,fun j v hj=>by simp at hj⟩
 | n+1,o,r,h=>by
  obtain⟨v,hv,h⟩:=oS h
  obtain⟨q,hq,h⟩:=oS h
  obtain rfl:=oI h
  obtain⟨h1,h2⟩:=q0f_ hq
  refine⟨by simp[h1],fun j u hu=>?_⟩
  cases j with
  | zero=>
       obtain rfl:v=u:=by simpa using hu
       simpa using hv
  | succ j=>rw[show o+(j+1)=o+1+j from by omega]; exact h2 j u (by simpa using hu)
theorem qwh_ {α β:Type}:∀ (l:List α) {Q:Nat→α→β→Prop},(∀ j v,l[j]?=some v→∃ v',Q j v v')→∃ l':List β,l'.length=l.length∧∀ j v v',l[j]?=some v→l'[j]?=some v'→Q j v v'
 | [],Q,_=>⟨[],rfl,fun j v v' h=>by simp at h⟩
 | a::l,Q,h=>by
  obtain⟨b,hb⟩:=h 0 a rfl
  obtain⟨l',h1,h2⟩:=qwh_ l (Q:=fun j=>Q (j+1)) fun j v hv=>h (j+1) v (by simpa using hv)
  refine⟨b::l',by simp[h1],fun j v v' h3 h4=>?_⟩
  cases j with
  | zero=>
   obtain rfl:a=v:=by simpa using h3
   obtain rfl:b=v':=by simpa using h4
   exact hb
  | succ j=>exact h2 j v v' (by simpa using h3) (by simpa using h4)
theorem q09_ {P:Program}{n0:Bs}{σ:Ren}{H:AH}{w:World}(hr:HR n0 σ H w){j b d:Nat}(hw:WinAt σ j b d){y:Nat×Nat×List Value}(hy:Tabs.win j=some y){n o:Nat}{r:List Value}(h:rdL y.2.2 n o=some r) :
  ∃ r',VRs σ r r'∧∀ k,(loadCells ⟨b,d+o,none⟩ n).run P { w with drawn:=k }=.ok ⟨r'⟩ { w with drawn:=k }:=by
 obtain⟨h1,h2⟩:=q0f_ h
 obtain⟨r',h3,h4⟩:=qwh_ r (Q:=fun j v v'=>w.cell? ⟨b,d+(o+j),none⟩=some v'∧VR σ v v') fun j v hv=>hr.winCell hw hy (o+j) v (h2 j v hv)
 refine⟨r',VRs.of_get h3.symm fun i ha hb=>(h4 i r[i] r'[i] (by simp[ha]) (by simp[hb])).2,fun k=>?_⟩
 unfold loadCells
 rw[←h1,←h3,qef_ r' 0 #[] fun j v hv=>?_]
 ·simp
 ·rw[show d+o+(0+j)=d+(o+j) from by omega]
  have hj:j<r'.length:=by
   rcases Nat.lt_or_ge j r'.length with h | h
   ·exact h
   ·rw[List.getElem?_eq_none h] at hv; cases hv
  exact (h4 j r[j] v (by simp[show j<r.length by omega]) hv).1
def qzz_ (v:Value):Option (Nat×Nat):=
 match v with
 | .pointer (some ⟨g,o,some 0⟩)=>some (g,o)
 | _=>none
theorem globOf_eq {v:Value}{a:Nat×Nat}(h:qzz_ v=some a):v=.pointer (some ⟨a.1,a.2,some 0⟩):=by
 unfold qzz_ at h
 split at h
 ·obtain rfl:=oI h; rfl
 ·cases h
theorem globOf_vr {σ:Ren}{v v':Value}{a:Nat×Nat}(h:qzz_ v=some a)(hv:VR σ v v'):v'=.pointer (some ⟨a.1,a.2,none⟩):=by
 rw[globOf_eq h] at hv
 cases hv with
 | glob g o=>rfl
def isNum (v:Value):Bool:=
 match v with
 | .int _ _=>true
 | _=>false
noncomputable def loadW (P:Program)(t:TypeId)(p:Value)(H:AH):VRes:=
 oc (winOf p) none fun a=>oc (Tabs.win a.1) none fun y=>oc (aggB P t) none fun g=>sel g (oc (sizeB P t) none fun n=>oc (rdL y.2.2 n a.2) none fun l=>some (.agg ⟨l⟩,H)) (oc (y.2.2[a.2]?) none fun v=>some (v,H))
theorem loadW_ok {P:Program}{n0:Bs}{σ:Ren}{H H':AH}{w:World}(hr:HR n0 σ H w){t:TypeId}{p p' v:Value}(h:loadW P t p H=some (v,H'))(hp:VR σ p p'):GivesP P n0 σ w H (Instr.loadAt t p') v H':=by
 obtain⟨a,ha,h⟩:=oS h
 obtain⟨y,hy,h⟩:=oS h
 obtain⟨g,hg,h⟩:=oS h
 obtain⟨b,d,hw,rfl⟩:=winOf_vr ha hp
 rcases qa_ h with⟨rfl,h⟩ | ⟨rfl,h⟩
 ·obtain⟨n,hn,h⟩:=oS h
  obtain⟨l,hl,h⟩:=oS h
  obtain⟨rfl,rfl⟩:=pI (oI h)
  obtain⟨l',hv,h2⟩:=q09_ (P:=P) hr hw hy hl
  have h2:(loadCells ⟨b,d+a.2,none⟩ n).run P w=.ok ⟨l'⟩ w:=h2 w.drawn
  exact GivesP.pure hr (by simp[Instr.loadAt,Instr.sureAddr,loadVar,Sem.run_bind,qjn_ hg,qcy_ hn,h2]) hv.agg
 ·obtain⟨u,hu,h⟩:=oS h
  obtain⟨rfl,rfl⟩:=pI (oI h)
  obtain⟨u',hc,hv⟩:=hr.winCell hw hy a.2 u hu
  exact GivesP.pure hr (by simp[Instr.loadAt,Instr.sureAddr,Sem.run_bind,loadVar,qjn_ hg,load,Sem.run,hc]) hv
theorem loadW_any {P:Program}{t:TypeId}{p v:Value}{H H':AH}(h:loadW P t p H=some (v,H)):loadW P t p H'=some (v,H'):=by
 obtain⟨a,ha,h⟩:=oS h
 obtain⟨y,hy,h⟩:=oS h
 obtain⟨g,hg,h⟩:=oS h
 unfold loadW
 rw[ha,oc_some,hy,oc_some,hg,oc_some]
 rcases qa_ h with⟨rfl,h⟩ | ⟨rfl,h⟩
 ·obtain⟨n,hn,h⟩:=oS h
  obtain⟨l,hl,h⟩:=oS h
  obtain⟨rfl,_⟩:=pI (oI h)
  rw[sel_true,hn,oc_some,hl,oc_some]
 ·obtain⟨u,hu,h⟩:=oS h
  obtain⟨rfl,_⟩:=pI (oI h)
  rw[sel_false,hu,oc_some]
noncomputable def loadG (P:Program)(t:TypeId)(p:Value)(H:AH):VRes:=
 oc (qzz_ p) (loadW P t p H) fun a=>oc (Tabs.tab a.1) none fun l=>oc (l[a.2]?) none fun v=>oc (aggB P t) none fun g=>sel (!g&&isNum v) (some (v,H)) none
theorem loadG_ok {P:Program}{n0:Bs}{σ:Ren}{H H':AH}{w:World}(hr:HR n0 σ H w){t:TypeId}{p p' v:Value}(h:loadG P t p H=some (v,H'))(hp:VR σ p p'):GivesP P n0 σ w H (Instr.loadAt t p') v H':=by
 cases ha:qzz_ p with
 | none=>
  unfold loadG at h
  rw[ha,oc_none] at h
  exact loadW_ok hr h hp
 | some a=>
 unfold loadG at h
 rw[ha,oc_some] at h
 obtain⟨l,hl,h⟩:=oS h
 obtain⟨u,hu,h⟩:=oS h
 obtain⟨g,hg,h⟩:=oS h
 obtain⟨hb,h⟩:=sel_none h
 obtain⟨rfl,rfl⟩:=pI (oI h)
 obtain rfl:=globOf_vr ha hp
 simp only[bA,Bool.not_eq_true'] at hb
 obtain⟨rfl,hn⟩:=hb
 have hc:=(hr.base.2.2.1 a.1 l hl).2 w rfl a.2 u hu
 have hv:VR σ u u:=by
  cases u with
  | int k n=>exact .int k n
  | _=>cases hn
 exact GivesP.pure hr (by simp[Instr.loadAt,Instr.sureAddr,Sem.run_bind,loadVar,qjn_ hg,load,Sem.run,hc]) hv
def cellsX (x:ABlk):Option (Tr Value×TypeId):=
 match x with
 | .cells c e=>some (c,e)
 | .pair c e=>some (c,e)
 | _=>none
noncomputable def loadB2 (P:Program)(t:TypeId)(H:AH)(b o:Nat):Option Value:=
 oc (H.blocks.get b) none fun y=>oc (cellsX y) none fun x=>oc (aggB P t) none fun g=>sel g (oc (sizeB P t) none fun n=>oc (rdT x.1 n o) none fun l=>some (.agg ⟨l⟩)) (x.1.get o)
theorem loadB2_eq {P:Program}{t:TypeId}{H:AH}{b o:Nat}{v:Value}(h:loadB2 P t H b o=some v):loadB P t (H.loosen b) b o=some v:=by
 obtain⟨y,hy,h⟩:=oS h
 obtain⟨x,hx,h⟩:=oS h
 have e:qd0_ (H.loosen b) b=some x:=by
  unfold cellsX at hx
  split at hx
  ·obtain rfl:=oI hx
   have h1:=(show qd0_ H b=_ from by unfold qd0_; rw[hy,oc_some])
   have h1:=h1
   simp only[cellsOf] at h1
   rw[loosen_cells h1]; exact h1
  ·obtain rfl:=oI hx
   have h1:=(show pairOf H b=_ from by unfold pairOf; rw[hy,oc_some])
   simp only[pairX] at h1
   unfold AH.loosen
   rw[h1,oc_some]
   simp[qd0_,AH.setK,Tr.get_set,cellsOf]
  ·cases hx
 unfold loadB
 rw[e,oc_some]
 exact h
noncomputable def opLoad (P:Program)(t:TypeId)(p:Value)(H:AH):VRes:=oc (qpj_ p) (loadG P t p H) fun a=>oc (loadB2 P t H a.1 a.2) none fun v=>some (v,H)
theorem load_ok {P:Program}{n0:Bs}{σ:Ren}{H H':AH}{w:World}(hr:HR n0 σ H w){t:TypeId}{p p' v:Value}(h:opLoad P t p H=some (v,H'))(hp:VR σ p p'):GivesP P n0 σ w H (Instr.loadAt t p') v H':=by
 cases ha:qpj_ p with
 | none=>exact loadG_ok hr (by unfold opLoad at h; rw[ha] at h; exact h) hp
 | some a=>
 unfold opLoad at h
 rw[ha,oc_some] at h
 obtain⟨u,hu,h⟩:=oS h
 obtain⟨rfl,rfl⟩:=pI (oI h)
 obtain⟨c,d,m,hs,rfl⟩:=qqh_ ha hp
 obtain⟨v',h1,h2⟩:=qyb_ (hr.loosen a.1) (loadB2_eq hu) hs
 exact GivesP.pure hr (by simp[Instr.loadAt,Instr.sureAddr,Sem.run_bind,h2]) h1
def isAny (v:Value):Bool:=
 match v with
 | .chan none=>true
 | _=>false
def qxm_ (v:Value):List Value:=
 match v with
 | .agg cs=>cs.toList
 | v=>[v]
theorem qvg_ {σ:Ren}{v v':Value}(h:VR σ v v')(hn:isAny v=false):VRs σ (qxm_ v) (v'.cells.toList):=by
 have h0:=h
 cases h with
 | agg hx hxs=>exact VRs.arr hx hxs
 | any=>cases hn
 | _=>exact .cons h0 .nil
def isCell (v:Value):Bool:=
 match v with
 | .agg _=>false
 | .tuple _=>false
 | .chan _=>false
 | _=>true
theorem isCell_vr {σ:Ren}{v v':Value}(h:VR σ v v')(hc:isCell v=true):isCell v'=true:=by
 cases h<;>first | rfl | (cases hc; done) | exact hc
theorem run_store {P:Program}{w:World}{a:Addr}{v u:Value}(hc:isCell v=true)(h1:w.cell? a=some u)(h2:w.frozen? a=false):(store a v).run P w=.ok () (w.setCell a v):=by
 unfold store
 cases v<;>first | (simp[isCell] at hc; done) | simp[Sem.run,h1,h2]
theorem HR.congr {n0:Bs}{σ:Ren}{H₁ H₂:AH}{w:World}(hr:HR n0 σ H₁ w)(hg:∀ b,H₂.blocks.get b=H₁.blocks.get b)(hn:H₂.next=H₁.next):HR n0 σ H₂ w:=
 ⟨hr.base,fun b x h=>hr.blk b x (by rw[←hg]; exact h),fun b₁ b₂ x₁ x₂ c d₁ m₁ d₂ m₂ h1 h2=>hr.inj b₁ b₂ x₁ x₂ c d₁ m₁ d₂ m₂ (by rw[←hg]; exact h1) (by rw[←hg]; exact h2),
 fun b t h=>by rw[hn]; exact hr.dom b t h,hr.img,(fun b hb=>by rw[hn]; exact hr.hol b hb),hr.frz⟩
def qbn_:List Value→Bool
 | []=>true
 | v::l=>isCell v&&qbn_ l
theorem HR.stores {P:Program}{n0:Bs}{σ:Ren}{b k d m:Nat}{e:TypeId}(hs:σ b=some (k,d,m)):∀ {l l':List Value},VRs σ l l'→∀ {H:AH} {w:World} {c:Tr Value} {o o':Nat} {i:Nat},HR n0 σ H w→H.blocks.get b=some (.cells c e) →
  qbn_ l=true→(∀ j,j<l.length→∃ u,c.get (o+j)=some u)→o' + i=d+o →
  ∃ w',(storeCells ⟨k,o',none⟩ l' i).run P w=.ok () w'∧HR n0 σ (H.store b (layL l o c) e) w'∧Step n0 σ w (Nat.min H.low b) σ w'∧∀ q,q ≠ k→w'.heap[q]?=w.heap[q]?:=by
 intro l l' h
 induction h with
 | nil=>
  intro H w c o o' i hr hb _ _ _
  refine⟨w,by simp[storeCells],?_,Step.refl _ _ _ _,fun _ _=>rfl⟩
  refine hr.congr (fun b₁=>?_) rfl
  show (H.blocks.set b _).get b₁=_
  rw[Tr.get_set]
  by_cases hb1:b₁=b
  ·subst hb1; rw[if_pos rfl,hb]; rfl
  ·rw[if_neg hb1]
 | @cons v v' l l' hv hl ih=>
  intro H w c o o' i hr hb hc hu ho
  simp only[qbn_,bA] at hc
  obtain⟨u,hu0⟩:=hu 0 (by simp)
  obtain⟨⟨u',hcell⟩,hfro,hr1,st1⟩:=hr.store hb hs (o:=o) hu0 hv
  have hb1:(H.store b (c.set o v) e).blocks.get b=some (.cells (c.set o v) e):=by simp[AH.store,Tr.get_set]
  obtain⟨w',r1,r2,r3,r4⟩:=ih (o:=o+1) (o':=o') (i:=i+1) hr1 hb1 hc.2 (fun j hj=>by
   obtain⟨y,hy⟩:=hu (j+1) (by simpa using hj)
   refine⟨y,?_⟩
   rw[Tr.get_set,if_neg (by omega),show o+1+j=o+(j+1) from by omega]
   exact hy) (by omega)
  refine⟨w',?_,?_,?_,fun q hq=>(r4 q hq).trans (Below.heap_setCell w ⟨k,d+o,none⟩ v' q hq)⟩
  ·simp only[storeCells,qfe_,ho,Sem.run_bind,run_store (isCell_vr hv hc.1) hcell hfro,Result.andThen_ok]
   exact r1
  ·refine r2.congr (fun b₁=>?_) rfl
   simp only[AH.store,Tr.get_set]
   by_cases e1:b₁=b
   ·rw[if_pos e1,if_pos e1]; rfl
   ·rw[if_neg e1,if_neg e1,if_neg e1]
  ·refine st1.trans r3 ?_ |>.lower ?_
   ·exact Nat.min_le_left _ _
   ·show Nat.min H.low b≤Nat.min (Nat.min H.low b) b
    exact Nat.le_min.2 ⟨Nat.le_refl _,Nat.min_le_right _ _⟩
noncomputable def storeB (H:AH)(b o:Nat)(l:List Value):Option AH:=
 oc (qd0_ H b) none fun x=>oc (rdT x.1 l.length o) none fun _=>sel (qbn_ l) (some (H.store b (layL l o x.1) x.2)) none
noncomputable def storeP (H:AH)(b o:Nat)(l:List Value)(y:Tr Value×TypeId):Option AH:=
 oc (rdT y.1 l.length o) none fun _=>sel (qbn_ l) (some (H.setK b (.pair (layL l o y.1) y.2) (Nat.min H.low b))) none
noncomputable def storeC (H:AH)(b o:Nat)(l:List Value)(x:Tr Value×TypeId):Option AH:=oc (rdT x.1 l.length o) none fun _=>sel (qbn_ l) (some (H.store b (layL l o x.1) x.2)) none
noncomputable def storeB2 (H:AH)(b o:Nat)(l:List Value):Option AH:=oc (H.blocks.get b) none fun y=>oc (pairX y) (oc (cellsOf y) none fun x=>storeC H b o l x) fun q=>storeP H b o l q
theorem qw2_ {P:Program}{n0:Bs}{σ:Ren}{H H':AH}{w:World}(hr:HR n0 σ H w){b o:Nat}{l l':List Value}(h:storeB2 H b o l=some H')(hl:VRs σ l l'){k d m:Nat}(hs:σ b=some (k,d,m)){o' i:Nat}(ho:o' + i=d+o) :
  (∃ x,H.blocks.get b=some x)∧∃ w',(storeCells ⟨k,o',none⟩ l' i).run P w=.ok () w'∧HR n0 σ H' w'∧Step n0 σ w H'.low σ w'∧∀ q,q ≠ k→w'.heap[q]?=w.heap[q]?:=by
 obtain⟨z,hz,h⟩:=oS h
 cases hpz:pairX z with
 | none=>
  rw[hpz,oc_none] at h
  obtain⟨x,hx,h⟩:=oS h
  have hx:qd0_ H b=some x:=by unfold qd0_; rw[hz]; exact hx
  obtain⟨old,hold,h⟩:=oS h
  obtain⟨hc,h⟩:=sel_none h
  obtain rfl:=oI h
  obtain⟨h1,h2⟩:=qvf_ x.1 l.length o old hold
  obtain⟨w',r⟩:=HR.stores (P:=P) hs hl (o:=o) (o':=o') (i:=i) hr (qds_ hx) hc (fun j hj=>⟨old[j]'(by rw[h1]; exact hj),by rw[h2 j hj]; simp⟩) ho
  exact⟨⟨_,qds_ hx⟩,w',r⟩
 | some y=>
  rw[hpz,oc_some] at h
  have hp:pairOf H b=some y:=by unfold pairOf; rw[hz]; exact hpz
  obtain⟨old,hold,h⟩:=oS h
  obtain⟨hc,h⟩:=sel_none h
  obtain rfl:=oI h
  obtain⟨h1,h2⟩:=qvf_ y.1 l.length o old hold
  have hb:=pairOf_eq hp
  have hl0:=hr.loosen b
  have e0:H.loosen b=H.setK b (.cells y.1 y.2) H.low:=by unfold AH.loosen; rw[hp,oc_some]
  rw[e0] at hl0
  obtain⟨c,dd,mm,s1,_,_,_,_,_,hd,hm⟩:=hr.blk _ _ hb
  rw[hs] at s1
  obtain⟨rfl,rfl,rfl⟩:k=c∧d=dd∧m=mm:=by
   injection s1 with s1
   injection s1 with a1 s1
   injection s1 with a2 a3
   exact⟨a1,a2,a3⟩
  obtain⟨w',r1,r2,r3,r4⟩:=HR.stores (P:=P) hs hl (o:=o) (o':=o') (i:=i) hl0 (c:=y.1) (e:=y.2) (by simp[AH.setK,Tr.get_set]) hc (fun j hj=>⟨old[j]'(by rw[h1]; exact hj),by rw[h2 j hj]; simp⟩) ho
  refine⟨⟨_,hb⟩,w',r1,?_,r3,r4⟩
  have hx:=r2.setK (b:=b) (x:=.cells (layL l o y.1) y.2) (y:=.pair (layL l o y.1) y.2) (by simp[AH.store,Tr.get_set]) (fun c2 d2 m2 hs2 hB=>by
   rw[hs] at hs2
   injection hs2 with hs2
   injection hs2 with a1 hs2
   injection hs2 with a2 a3
   obtain⟨C,g1,g2,g3⟩:=hB
   exact⟨C,g1,g2,g3,by omega,by omega⟩) 0
  refine hx.congr (fun b₁=>?_) rfl
  simp only[AH.setK,AH.store,Tr.get_set]
  by_cases e1:b₁=b
  ·rw[if_pos e1,if_pos e1]
  ·rw[if_neg e1,if_neg e1,if_neg e1,if_neg e1]
theorem qxy_ {P:Program}{n0:Bs}{σ:Ren}{H H':AH}{w:World}(hr:HR n0 σ H w){b o:Nat}{l l':List Value}(h:storeB H b o l=some H')(hl:VRs σ l l'){k d m:Nat}(hs:σ b=some (k,d,m)){o' i:Nat}(ho:o' + i=d+o) :
  GivesU P n0 σ w (storeCells ⟨k,o',none⟩ l' i) H':=by
 obtain⟨x,hx,h⟩:=oS h
 obtain⟨old,hold,h⟩:=oS h
 obtain⟨hc,h⟩:=sel_none h
 obtain rfl:=oI h
 obtain⟨h1,h2⟩:=qvf_ x.1 l.length o old hold
 obtain⟨w',r1,r2,r3,_⟩:=HR.stores (P:=P) hs hl (o:=o) (o':=o') (i:=i) hr (qds_ hx) hc (fun j hj=>⟨old[j]'(by rw[h1]; exact hj),by rw[h2 j hj]; simp⟩) ho
 exact⟨σ,w',r1,r2,r3⟩
noncomputable def opStore (P:Program)(t:TypeId)(p v:Value)(H:AH):VRes:=
 oc (qpj_ p) none fun a=>oc (sizeB P t) none fun n=>sel (Nat.beq (qxm_ v).length n && !isAny v) (oc (storeB2 H a.1 a.2 (qxm_ v)) none fun H'=>some (undef,H')) none
theorem store_ok {P:Program}{n0:Bs}{σ:Ren}{H H':AH}{w:World}(hr:HR n0 σ H w){t:TypeId}{p p' v v' u:Value}(h:opStore P t p v H=some (u,H'))(hp:VR σ p p')(hv:VR σ v v') :
  u=undef∧GivesU P n0 σ w (Instr.storeAt t p' v') H':=by
 obtain⟨a,ha,h⟩:=oS h
 obtain⟨n,hn,h⟩:=oS h
 obtain⟨hl,h⟩:=sel_none h
 obtain⟨H₁,h1,h⟩:=oS h
 obtain⟨rfl,rfl⟩:=pI (oI h)
 obtain⟨c,d,m,hs,rfl⟩:=qqh_ ha hp
 simp only[bA,Bool.not_eq_true'] at hl
 obtain⟨hl,hna⟩:=hl
 have hcl:=qvg_ hv hna
 have hlen:v'.cells.size=n:=by
  have h1:=hcl.length
  have h2:=nB hl
  simp at h1
  omega
 obtain⟨_,w',r1,r2,r3,_⟩:=qw2_ (P:=P) hr h1 hcl hs (o':=d+a.2) (i:=0) (by omega)
 refine⟨rfl,σ,w',?_,r2,r3⟩
 simp[Instr.storeAt,Instr.sureAddr,storeVar,Sem.run_bind,qcy_ hn,hlen,r1]
theorem store_exact {P:Program}{n0:Bs}{σ:Ren}{H H':AH}{w:World}(hr:HR n0 σ H w){t:TypeId}{p p' v v' u:Value}(h:opStore P t p v H=some (u,H'))(hp:VR σ p p')(hv:VR σ v v') :
  u=undef∧∃ a,qpj_ p=some a∧∃ k d m w',σ a.1=some (k,d,m)∧(∃ x,H.blocks.get a.1=some x)∧(Instr.storeAt t p' v').run P w=.ok () w'∧HR n0 σ H' w'∧Step n0 σ w H'.low σ w'∧∀ q,q ≠ k→w'.heap[q]?=w.heap[q]?:=by
 obtain⟨a,ha,h⟩:=oS h
 obtain⟨n,hn,h⟩:=oS h
 obtain⟨hl,h⟩:=sel_none h
 obtain⟨H₁,h1,h⟩:=oS h
 obtain⟨rfl,rfl⟩:=pI (oI h)
 obtain⟨c,d,m,hs,rfl⟩:=qqh_ ha hp
 simp only[bA,Bool.not_eq_true'] at hl
 obtain⟨hl,hna⟩:=hl
 have hcl:=qvg_ hv hna
 have hlen:v'.cells.size=n:=by
  have h1:=hcl.length
  have h2:=nB hl
  simp at h1
  omega
 obtain⟨hx,w',r1,r2,r3,r4⟩:=qw2_ (P:=P) hr h1 hcl hs (o':=d+a.2) (i:=0) (by omega)
 refine⟨rfl,a,ha,c,d,m,w',hs,hx,?_,r2,r3,r4⟩
 simp[Instr.storeAt,Instr.sureAddr,storeVar,Sem.run_bind,qcy_ hn,hlen,r1]
noncomputable def newB (H:AH)(l:List Value)(e:TypeId):VRes:=some (.pointer (some ⟨H.next,0,none⟩),H.push (.cells (layT l) e))
theorem q1a_ {P:Program}{n0:Bs}{σ:Ren}{H:AH}{w:World}(hr:HR n0 σ H w){l l':List Value}(hl:VRs σ l l')(e:TypeId) :
  ∃ σ' w',(newRow e ⟨l'⟩).run P w=.ok ⟨w.heap.size,0,none⟩ w'∧σ' H.next=some (w.heap.size,0,l'.length)∧HR n0 σ' (H.push (.cells (layT l) e)) w'∧Step n0 σ w H.low σ' w':=by
 have hx:BR (σ.put H.next (w.heap.size,0,l'.length)) 0 l'.length (some (.cells ⟨l'⟩ e (0,0))) (.cells (layT l) e):=by
  refine⟨⟨l'⟩,rfl,by simp,fun i v hv=>?_⟩
  rw[qfu_] at hv
  obtain⟨v',h1,h2⟩:=hl.get i v hv
  exact⟨v',by simpa using h1,h2.mono (hr.ext_put _)⟩
 obtain⟨h1,h2⟩:=hr.alloc hx
 exact⟨_,_,by simp[newRow,newObj,Sem.run_bind,Sem.run,World.alloc_eq],Ren.put_self _ _ _,h1,h2⟩
theorem newB_ok {P:Program}{n0:Bs}{σ:Ren}{H H':AH}{w:World}(hr:HR n0 σ H w){l l':List Value}(hl:VRs σ l l'){e:TypeId}{v:Value}(h:newB H l e=some (v,H')) :
  Gives P n0 σ w (do pure (.pointer (some (←newRow e ⟨l'⟩)))) v H':=by
 obtain⟨rfl,rfl⟩:=pI (oI h)
 obtain⟨σ',w',r1,r2,r3,r4⟩:=q1a_ (P:=P) hr hl e
 exact⟨.pointer (some ⟨w.heap.size,0,none⟩),σ',w',by simp[Sem.run_bind,r1],by simpa using VR.ptr 0 r2,r3,r4⟩
def isPair (l:List Value):Bool:=
 match l with
 | [.pointer none,.slice none 0 0]=>true
 | _=>false
noncomputable def allocB (l:List Value)(e:TypeId):ABlk:=sel (isPair l) (.pair (layT l) e) (.cells (layT l) e)
theorem allocB_br {σ:Ren}{d m:Nat}{o:Option Obj}{l l':List Value}{e:TypeId}(hl:VRs σ l l')(h:BR σ d m o (.cells (layT l) e))(hd:d=0)(hm:m=l'.length):BR σ d m o (allocB l e):=by
 unfold allocB
 cases hp:isPair l with
 | false=>exact h
 | true=>
  obtain⟨C,h1,h2,h3⟩:=h
  refine⟨C,h1,h2,h3,hd,?_⟩
  rw[hm,←hl.length]
  unfold isPair at hp
  split at hp
  ·rfl
  ·cases hp
noncomputable def newA (H:AH)(l:List Value)(e:TypeId):VRes:=some (.pointer (some ⟨H.next,0,none⟩),H.push (allocB l e))
theorem newA_ok {P:Program}{n0:Bs}{σ:Ren}{H H':AH}{w:World}(hr:HR n0 σ H w){l l':List Value}(hl:VRs σ l l'){e:TypeId}{v:Value}(h:newA H l e=some (v,H')) :
  Gives P n0 σ w (do pure (.pointer (some (←newRow e ⟨l'⟩)))) v H':=by
 obtain⟨rfl,rfl⟩:=pI (oI h)
 have hx:BR (σ.put H.next (w.heap.size,0,l'.length)) 0 l'.length (some (.cells ⟨l'⟩ e (0,0))) (allocB l e):=by
  refine allocB_br (hl.mono (hr.ext_put _)) ?_ rfl rfl
  refine⟨⟨l'⟩,rfl,by simp,fun i v hv=>?_⟩
  rw[qfu_] at hv
  obtain⟨v',h1,h2⟩:=hl.get i v hv
  exact⟨v',by simpa using h1,h2.mono (hr.ext_put _)⟩
 obtain⟨h1,h2⟩:=hr.alloc hx
 exact⟨.pointer (some ⟨w.heap.size,0,none⟩),_,_,by simp[newRow,newObj,Sem.run_bind,Sem.run,World.alloc_eq],by simpa using VR.ptr 0 (Ren.put_self _ _ _),h1,h2⟩
noncomputable def opBox (e:TypeId)(v:Value)(H:AH):VRes:=sel (!isAny v) (newB H (qxm_ v) e) none
theorem box_ok {P:Program}{n0:Bs}{σ:Ren}{H H':AH}{w:World}(hr:HR n0 σ H w){e:TypeId}{v v' u:Value}(h:opBox e v H=some (u,H'))(hv:VR σ v v'):Gives P n0 σ w (Instr.box e v') u H':=by
 obtain⟨hn,h⟩:=sel_none h
 simp only[Bool.not_eq_true'] at hn
 have:=newB_ok (P:=P) hr (qvg_ hv hn) h
 simpa [Instr.box,newVar] using this
noncomputable def zeroB (P:Program)(t:TypeId):Option (List Value):=oc (P.info? t) none fun i=>oc i.zero none fun z=>sel (flatL (qxm_ z)) (some (qxm_ z)) none
theorem qxz_ (v:Value):v.cells.toList=qxm_ v:=by cases v<;>rfl
theorem qtl_ {P:Program}{t:TypeId}{l:List Value}(h:zeroB P t=some l)(w:World):∃ z:Value,(zeroValue t).run P w=.ok z w∧z.cells=⟨l⟩∧flatL l=true:=by
 obtain⟨i,hi,h⟩:=oS h
 obtain⟨z,hz,h⟩:=oS h
 obtain⟨hf,h⟩:=sel_none h
 obtain rfl:=oI h
 refine⟨z,by simp[zeroValue,typeInfo,hi,hz],?_,hf⟩
 rw[←qxz_]
noncomputable def opAlloc (P:Program)(e:TypeId)(H:AH):VRes:=oc (zeroB P e) none fun l=>newA H l e
theorem alloc_ok {P:Program}{n0:Bs}{σ:Ren}{H H':AH}{w:World}(hr:HR n0 σ H w){e:TypeId}{u:Value}(h:opAlloc P e H=some (u,H')):Gives P n0 σ w (Instr.alloc e true (.tuple #[])) u H':=by
 obtain⟨l,hl,h⟩:=oS h
 obtain⟨z,h1,h2,h3⟩:=qtl_ hl w
 obtain⟨v',σ',w',r1,r2⟩:=newA_ok (P:=P) hr (qiw_ h3 σ) h
 refine⟨v',σ',w',?_,r2⟩
 simpa [Instr.alloc,newVar,Sem.run_bind,h1,h2] using r1
end Go.Proofs.YthlikofobjhcoaaGreat.Ax
namespace Go.Proofs.YthlikofobjhcoaaGreat.Ax
open Go.RowKit
variable [Tabs]
theorem sel_none' {β:Type}{b:Bool}{x:Option β}{z:β}(h:sel b none x=some z):b=false∧x=some z:=by
 rcases qa_ h with h | h
 ·exact absurd h.2 (by simp)
 ·exact h
noncomputable def pureS {α:Type}(P:Program)(s:Sem α):Option α:=
 @Sem.rec α (fun _=>Option α) (fun a=>some a) (fun _ _ _ _=>none) (fun _ _ _ _ _=>none) (fun _ _ _=>none) (fun _ _ _=>none) (fun _ _ _ _=>none) (fun _ _ _=>none) (fun _ _ _=>none) (fun _ _ _ _=>none) (fun _ _ _=>none) (fun _ _ _=>none) (fun _ ih=>ih P) (fun _ _ ih=>ih) (fun _=>none) s
theorem qwi_ {α:Type}{P:Program}:∀ {s:Sem α} {a:α},pureS P s=some a→∀ w:World,s.run P w=.ok a w:=by
 intro s
 induction s with
 | pure x=>intro a h w; obtain rfl:x=a:=oI h; rfl
 | program k ih=>intro a h w; exact ih P h w
 | mark m k ih=>intro a h w; exact ih h w
 | _=>intro a h w; exact absurd h (by intro h'; cases h')
noncomputable def qwj_ (P:Program)(s:Sem Value)(H:AH):VRes:=oc (pureS P s) none fun v=>sel (flat v) (some (v,H)) none
theorem qjo_ {P:Program}{n0:Bs}{σ:Ren}{H H':AH}{w:World}(hr:HR n0 σ H w){s:Sem Value}{v:Value}(h:qwj_ P s H=some (v,H')):GivesP P n0 σ w H s v H':=by
 obtain⟨u,hu,h⟩:=oS h
 obtain⟨hf,h⟩:=sel_none h
 obtain⟨rfl,rfl⟩:=pI (oI h)
 exact GivesP.pure hr (qwi_ hu w) (qua_ hf σ)
def intOp (op:BinOp)(k:IntKind)(a b:Int):Option Value:=
 match op with
 | .add=>some (.int k (k.wrap (a+b)))
 | .sub=>some (.int k (k.wrap (a-b)))
 | .mul=>some (.int k (k.wrap (a*b)))
 | .eql=>some (.bool (a == b))
 | .neq=>some (.bool (a != b))
 | .lss=>some (.bool (a<b))
 | .leq=>some (.bool (a≤b))
 | .gtr=>some (.bool (a > b))
 | .geq=>some (.bool (a ≥ b))
 | _=>none
def kindEq (a b:IntKind):Bool:=
 match a,b with
 | .i64,.i64=>true
 | .u8,.u8=>true
 | .u64,.u64=>true
 | .i32,.i32=>true
 | .u16,.u16=>true
 | .u32,.u32=>true
 | .i8,.i8=>true
 | .i16,.i16=>true
 | _,_=>false
theorem q1b_ {a b:IntKind}(h:kindEq a b=true):a=b:=by
 cases a<;>cases b<;>first | rfl | exact absurd h Bool.false_ne_true
def qyc_ (x y:Value):Option ((Nat×Nat)×(Nat×Nat)):=
 match x,y with
 | .pointer (some ⟨b,o,none⟩),.pointer (some ⟨b',o',none⟩)=>some ((b,o),(b',o'))
 | _,_=>none
def nilEq (x y:Value):Option Bool:=
 match x,y with
 | .pointer none,.pointer b=>some b.isNone
 | .pointer (some _),.pointer none=>some false
 | .nilFunc,.nilFunc=>some true
 | .nilFunc,.func _ _ _=>some false
 | .func _ _ _,.nilFunc=>some false
 | .slice none _ _,.slice none _ _=>some true
 | .slice none _ _,.slice (some ⟨_,_,none⟩) _ _=>some false
 | .slice (some ⟨_,_,none⟩) _ _,.slice none _ _=>some false
 | .slice (some ⟨_,_,some 1⟩) (n+1) _,.slice none _ _=>some false
 | .map none,.map b=>some b.isNone
 | .map (some _),.map none=>some false
 | .iface _ _,.nilIface=>some false
 | .nilIface,.iface _ _=>some false
 | _,_=>none
def cmpOp (op:BinOp)(b:Bool):Option Value:=
 match op with
 | .eql=>some (.bool b)
 | .neq=>some (.bool (!b))
 | _=>none
def eqKind (d:TypeDesc)(x:Value):Bool:=
 match d,x with
 | .pointer _,.pointer _=>true
 | .func _ _ _,.nilFunc=>true
 | .func _ _ _,.func _ _ _=>true
 | .slice _,.slice _ _ _=>true
 | .map _ _,.map _=>true
 | .interface _,.iface _ _=>true
 | .interface _,.nilIface=>true
 | _,_=>false
noncomputable def opNilEq (P:Program)(op:BinOp)(t:TypeId)(x y:Value)(H:AH):VRes:=
 oc (nilEq x y) none fun b=>oc (P.underlying t) none fun d=>sel (eqKind d x) (oc (cmpOp op b) none fun v=>some (v,H)) none
theorem eq_ifc1 {P:Program}{w:World}{D:Nat}{t u:TypeId}{ms:Array (String×TypeId)}{y:Value}(hd:P.underlying t=some (.interface ms)):(Op.equalIn (D+1) t (.iface u y) .nilIface).run P w=.ok false w:=by
 unfold Op.equalIn
 simp only[Sem.run_bind,run_underlying hd,Result.andThen_ok]
 rfl
theorem eq_ifc2 {P:Program}{w:World}{D:Nat}{t u:TypeId}{ms:Array (String×TypeId)}{y:Value}(hd:P.underlying t=some (.interface ms)):(Op.equalIn (D+1) t .nilIface (.iface u y)).run P w=.ok false w:=by
 unfold Op.equalIn
 simp only[Sem.run_bind,run_underlying hd,Result.andThen_ok]
 rfl
set_option maxHeartbeats 2000000 in
theorem nilEq_run {P:Program}{σ:Ren}{w:World}{D:Nat}{t:TypeId}{d:TypeDesc}{x x' y y':Value}{b:Bool}(hb:nilEq x y=some b)(hd:P.underlying t=some d)(hk:eqKind d x=true)(hx:VR σ x x')(hy:VR σ y y') :
  (Op.equalIn (D+1) t x' y').run P w=.ok b w:=by
 unfold nilEq at hb
 split at hb<;>first | (cases hb; done) | skip
 all_goals obtain rfl:=oI hb
 all_goals cases hx
 all_goals cases hy
 rotate_right 2
 ·cases d<;>first | exact absurd hk Bool.false_ne_true | exact eq_ifc1 hd
 ·cases d<;>first | exact absurd hk Bool.false_ne_true | exact eq_ifc2 hd
 all_goals cases d<;>first | exact absurd hk Bool.false_ne_true | skip
 all_goals simp[Op.equalIn,run_underlying hd]
set_option maxHeartbeats 2000000 in
theorem nilEq_bin {P:Program}{σ:Ren}{w:World}{t:TypeId}{x x' y y':Value}{b:Bool}(hb:nilEq x y=some b)(hx:VR σ x x')(hy:VR σ y y')(key:(Op.equal t x' y').run P w=.ok b w)(ox oy:Operand) :
  (do eqGuard .eql t ox oy x' y'; binOp .eql t x' y').run P w=.ok (.bool b) w∧(do eqGuard .neq t ox oy x' y'; binOp .neq t x' y').run P w=.ok (.bool (!b)) w:=by
 unfold nilEq at hb
 split at hb<;>first | (cases hb; done) | skip
 all_goals obtain rfl:=oI hb
 all_goals cases hx
 all_goals cases hy
 all_goals simp[eqGuard,binOp,Sem.run_bind,key]
theorem nilEq_ok {P:Program}{n0:Bs}{σ:Ren}{H H':AH}{w:World}(hr:HR n0 σ H w){op:BinOp}{t:TypeId}{x x' y y' v:Value}(h:opNilEq P op t x y H=some (v,H'))(hx:VR σ x x')(hy:VR σ y y')(ox oy:Operand) :
  GivesP P n0 σ w H (do eqGuard op t ox oy x' y'; binOp op t x' y') v H':=by
 obtain⟨b,hb,h⟩:=oS h
 obtain⟨d,hd,h⟩:=oS h
 obtain⟨hk,h⟩:=sel_none h
 obtain⟨u,hu,h⟩:=oS h
 obtain⟨rfl,rfl⟩:=pI (oI h)
 have hv:VR σ u u:=by
  cases op<;>simp[cmpOp] at hu<;>(subst hu; constructor)
 refine GivesP.pure hr ?_ hv
 have key:(Op.equal t x' y').run P w=.ok b w:=nilEq_run (D:=9999) hb hd hk hx hy
 obtain⟨k1,k2⟩:=nilEq_bin hb hx hy key ox oy
 cases op<;>simp[cmpOp] at hu
 all_goals subst hu
 ·exact k1
 ·exact k2
end Go.Proofs.YthlikofobjhcoaaGreat.Ax
namespace Go.Proofs.YthlikofobjhcoaaGreat.Ax
open Go.RowKit
variable [Tabs]
theorem int_ok {P:Program}{n0:Bs}{σ:Ren}{H:AH}{w:World}(hr:HR n0 σ H w){op:BinOp}{t:TypeId}{k k':IntKind}{a b:Int}{v:Value}(hk:kindEq k k'=true)(h:intOp op k a b=some v)(ox oy:Operand) :
  GivesP P n0 σ w H (do eqGuard op t ox oy (.int k a) (.int k' b); binOp op t (.int k a) (.int k' b)) v H:=by
 obtain rfl:=q1b_ hk
 cases op<;>simp only[intOp] at h<;>first | (cases h; done) | skip
 all_goals obtain rfl:=oI h
 all_goals refine GivesP.pure hr ?_ (by constructor)
 all_goals simp[eqGuard,binOp,Op.intArith,Op.intCmp,Sem.run_bind]
noncomputable def opPtrEq (P:Program)(op:BinOp)(t:TypeId)(x y:Value)(H:AH):VRes:=
 oc (qyc_ x y) none fun p=>oc (P.underlying t) none fun d=>
  match d with
  | .pointer e=>oc (sizeB P e) none fun n=>sel (Nat.beq n 0) none
    (oc (cmpOp op (sel (Nat.beq p.1.1 p.2.1) (Nat.beq p.1.2 p.2.2) false)) none fun v=>sel (sel (Nat.beq p.1.1 p.2.1) true (oc (qd0_ H p.1.1) false fun _=>oc (qd0_ H p.2.1) false fun _=>true)) (some (v,H)) none)
  | _=>none
theorem qvh_ {w:World}{c:Nat}{C:Array Value}{e:TypeId}{f:Nat×Nat}(h:w.heap[c]?=some (.cells C e f)):w.shape? c=some (e,C.size):=by
 simp[World.shape?,h]
theorem ptrPair_eq {x y:Value}{p:(Nat×Nat)×(Nat×Nat)}(h:qyc_ x y=some p):x=.pointer (some ⟨p.1.1,p.1.2,none⟩)∧y=.pointer (some ⟨p.2.1,p.2.2,none⟩):=by
 unfold qyc_ at h
 split at h
 ·obtain rfl:=oI h; exact⟨rfl,rfl⟩
 ·cases h
theorem HR.block {n0:Bs}{σ:Ren}{H:AH}{w:World}(hr:HR n0 σ H w){b:Nat}{c:Tr Value}{e:TypeId}(hb:H.blocks.get b=some (.cells c e)){k d m:Nat}(hs:σ b=some (k,d,m)) :
  n0.n.Own k∧∃ C,w.heap[k]?=some (.cells C e (0,0))∧C.size=m∧∀ i v,c.get i=some v→∃ v',C[d+i]?=some v'∧VR σ v v':=by
 obtain⟨k',d',m',hs',hn,C,h1,h2,h3⟩:=hr.blk b _ hb
 rw[hs] at hs'
 injection hs' with hs'
 injection hs' with e1 hs'
 injection hs' with e2 e3
 subst e1 e2 e3
 exact⟨hn,C,h1,h2,h3⟩
theorem ptrEq_ok {P:Program}{n0:Bs}{σ:Ren}{H H':AH}{w:World}(hr:HR n0 σ H w){op:BinOp}{t:TypeId}{x x' y y' v:Value}(h:opPtrEq P op t x y H=some (v,H'))(hx:VR σ x x')(hy:VR σ y y')(ox oy:Operand) :
  GivesP P n0 σ w H (do eqGuard op t ox oy x' y'; binOp op t x' y') v H':=by
 obtain⟨p,hp,h⟩:=oS h
 obtain⟨d,hd,h⟩:=oS h
 split at h
 case h_2=>cases h
 rename_i e
 obtain⟨n,hn,h⟩:=oS h
 obtain⟨hz,h⟩:=sel_none' h
 obtain⟨u,hu,h⟩:=oS h
 obtain⟨hlive,h⟩:=sel_none h
 obtain⟨rfl,rfl⟩:=pI (oI h)
 obtain⟨rfl,rfl⟩:=ptrPair_eq hp
 obtain⟨⟨b,o⟩,⟨b',o'⟩⟩:=p
 simp only at hx hy hu hlive
 have hn0:n ≠ 0:=fun e=>by subst e; cases hz
 cases hx with
 | @ptr _ c d₁ m₁ _ hs=>
 cases hy with
 | @ptr _ c' d₂ m₂ _ hs'=>
 have key:∀ r,r=sel (Nat.beq b b') (Nat.beq o o') false→(Op.equal t (.pointer (some ⟨c,d₁+o,none⟩)) (.pointer (some ⟨c',d₂+o',none⟩))).run P w=.ok r w:=by
  rintro r rfl
  show (Op.equalIn (9999+1) t _ _).run P w=_
  generalize 9999=D
  have hsame:(sameAddr ⟨c,d₁+o,none⟩ ⟨c',d₂+o',none⟩).run P w=.ok (sel (Nat.beq b b') (Nat.beq o o') false) w:=by
   by_cases hb:b=b'
   ·subst hb
    rw[hs] at hs'
    obtain⟨rfl,rfl,rfl⟩:c=c'∧d₁=d₂∧m₁=m₂:=by
     injection hs' with hs'; injection hs' with e1 hs'; injection hs' with e2 e3; exact⟨e1,e2,e3⟩
    have hbb:Nat.beq b b=true:=Nat.beq_refl b
    simp only[hbb,sel_true]
    have:((⟨c,d₁+o,none⟩:Addr) == ⟨c,d₁+o',none⟩)=Nat.beq o o':=by
     by_cases ho:o=o'
     ·subst ho; rw[Nat.beq_refl]; simp
     ·have h1:Nat.beq o o'=false:=by
       cases hq:Nat.beq o o'
       ·rfl
       ·exact absurd (nB hq) ho
      rw[h1]
      simp<;>omega
    simp[sameAddr,this]
   ·have hbb:Nat.beq b b'=false:=by
     cases hq:Nat.beq b b'
     ·rfl
     ·exact absurd (nB hq) hb
    simp only[hbb,sel_false] at hlive ⊢
    cases h1:qd0_ H b with
    | none=>rw[h1] at hlive; cases hlive
    | some x1=>
     cases h2:qd0_ H b' with
     | none=>rw[h1,h2] at hlive; cases hlive
     | some x2=>
      have g1:=qds_ h1
      have g2:=qds_ h2
      obtain⟨_,C1,q1,_,_⟩:=hr.block g1 hs
      obtain⟨_,C2,q2,_,_⟩:=hr.block g2 hs'
      have hne:c ≠ c':=fun e=>hb (hr.inj b b' _ _ c d₁ m₁ d₂ m₂ g1 g2 hs (e ▸ hs'))
      have hne':(c == c')=false:=by simpa using hne
      have f1:∀ z,w.frozen? ⟨c,z,none⟩=false:=fun z=>qk5_ q1
      have f2:∀ z,w.frozen? ⟨c',z,none⟩=false:=fun z=>qk5_ q2
      simp[sameAddr,hne,frozen,Sem.run,Sem.run_bind,f1,f2,noView,viewAt,shape,qvh_ q1,qvh_ q2,mayBeOne,stringish]
  simp[Op.equalIn,run_underlying hd,Sem.run_bind,qcy_ hn,hn0,hsame]
 have hv:VR σ u u:=by
  cases op<;>simp[cmpOp] at hu<;>(subst hu; constructor)
 refine GivesP.pure hr ?_ hv
 cases op<;>simp[cmpOp] at hu
 all_goals subst hu
 all_goals simp[eqGuard,binOp,Sem.run_bind,key _ rfl]
def plain (v:Value):Bool:=
 match v with
 | .agg cs=>flatL cs.toList
 | v=>flat v
theorem qng_ {σ:Ren}{v v':Value}(h:plain v=true)(hv:VR σ v v'):v'=v:=by
 unfold plain at h
 split at h
 ·cases hv with
  | agg hx hxs=>
   have:=qr8_ h (VRs.arr hx hxs)
   rw[Array.toList_inj.1 this]
 ·exact qfs_ h hv
noncomputable def opPure2 (P:Program)(s:Sem Value)(x y:Value)(H:AH):VRes:=sel (plain x&&plain y) (qwj_ P s H) none
end Go.Proofs.YthlikofobjhcoaaGreat.Ax
namespace Go.Proofs.YthlikofobjhcoaaGreat.Ax
open Go.RowKit
variable [Tabs]
def fieldsOf (d:TypeDesc):Option (Array Field):=
 match d with
 | .struct fs=>some fs
 | _=>none
noncomputable def fieldB (P:Program)(t:TypeId)(f:Nat):Option Field:=oc (P.underlying t) none fun d=>oc (fieldsOf d) none fun fs=>fs[f]?
noncomputable def fieldOff (P:Program)(t:TypeId)(f:Nat):Option Nat:=oc (fieldB P t f) none fun x=>oc (sizeB P x.type) none fun n=>sel (Nat.beq n 0) none (some x.offset)
noncomputable def qhe_ (P:Program)(t:TypeId)(p:Value)(f:Nat)(H:AH):VRes:=oc (qpj_ p) (oc (winOf p) none fun a=>oc (fieldOff P t f) none fun o=>some (.pointer (some ⟨a.1,Nat.add a.2 o,some 1⟩),H)) fun a=>oc (fieldOff P t f) none fun o=>some (.pointer (some ⟨a.1,Nat.add a.2 o,none⟩),H)
theorem q1c_ {P:Program}{t:TypeId}{f:Nat}{x:Field}(h:fieldB P t f=some x):∃ fs,P.underlying t=some (.struct fs)∧fs[f]?=some x:=by
 obtain⟨d,hd,h⟩:=oS h
 obtain⟨fs,hf,h⟩:=oS h
 unfold fieldsOf at hf
 split at hf
 ·obtain rfl:=oI hf; exact⟨_,hd,h⟩
 ·cases hf
theorem qyd_ {P:Program}{n0:Bs}{σ:Ren}{H H':AH}{w:World}(hr:HR n0 σ H w){t:TypeId}{p p' v:Value}{f:Nat}(h:qhe_ P t p f H=some (v,H'))(hp:VR σ p p'):GivesP P n0 σ w H (Instr.fieldAt t p' f) v H':=by
 cases ha:qpj_ p with
 | none=>
  unfold qhe_ at h
  rw[ha,oc_none] at h
  obtain⟨a,ha,h⟩:=oS h
  obtain⟨o,ho,h⟩:=oS h
  obtain⟨rfl,rfl⟩:=pI (oI h)
  obtain⟨b,d,hw,rfl⟩:=winOf_vr ha hp
  obtain⟨x,hx,ho⟩:=oS ho
  obtain⟨n,hn,ho⟩:=oS ho
  obtain⟨hz,ho⟩:=sel_none' ho
  obtain rfl:=oI ho
  obtain⟨fs,hu,hf⟩:=q1c_ hx
  have hn0:n ≠ 0:=fun e=>by subst e; cases hz
  refine GivesP.pure (v':=.pointer (some ⟨b,d+a.2+x.offset,none⟩)) hr ?_ ?_
  ·simp[Instr.fieldAt,run_underlying hu,hf,Instr.sureAddr,fieldPlace,Sem.run_bind,qcy_ hn,hn0,qfe_]
  ·have:=VR.win (σ:=σ) (a.2+x.offset) hw
   rwa [←Nat.add_assoc] at this
 | some a=>
 unfold qhe_ at h
 rw[ha,oc_some] at h
 obtain⟨o,ho,h⟩:=oS h
 obtain⟨rfl,rfl⟩:=pI (oI h)
 obtain⟨c,d,m,hs,rfl⟩:=qqh_ ha hp
 obtain⟨x,hx,ho⟩:=oS ho
 obtain⟨n,hn,ho⟩:=oS ho
 obtain⟨hz,ho⟩:=sel_none' ho
 obtain rfl:=oI ho
 obtain⟨fs,hu,hf⟩:=q1c_ hx
 have hn0:n ≠ 0:=fun e=>by subst e; cases hz
 refine GivesP.pure (v':=.pointer (some ⟨c,d+a.2+x.offset,none⟩)) hr ?_ ?_
 ·simp[Instr.fieldAt,run_underlying hu,hf,Instr.sureAddr,fieldPlace,Sem.run_bind,qcy_ hn,hn0,qfe_]
 ·have:=VR.ptr (σ:=σ) (a.2+x.offset) hs
  rwa [←Nat.add_assoc] at this
theorem qz0_ {P:Program}{t:TypeId}{p v:Value}{f:Nat}{H H1:AH}(h:qhe_ P t p f H=some (v,H1)):H1=H∧∀ H2,qhe_ P t p f H2=some (v,H2):=by
 unfold qhe_ at h ⊢
 cases ha:qpj_ p with
 | none=>
  rw[ha,oc_none] at h
  obtain⟨a,ha,h⟩:=oS h
  obtain⟨o,ho,h⟩:=oS h
  obtain⟨rfl,rfl⟩:=pI (oI h)
  exact⟨rfl,fun H2=>by simp only[oc_none,ha,ho,oc_some]⟩
 | some a=>
  rw[ha,oc_some] at h
  obtain⟨o,ho,h⟩:=oS h
  obtain⟨rfl,rfl⟩:=pI (oI h)
  exact⟨rfl,fun H2=>by simp only[ho,oc_some]⟩
def elemOfD (d:TypeDesc):Option TypeId:=
 match d with
 | .slice e=>some e
 | _=>none
noncomputable def elemB (P:Program)(t:TypeId):Option TypeId:=oc (P.underlying t) none elemOfD
theorem qgn_ {P:Program}{t e:TypeId}(h:elemB P t=some e):P.underlying t=some (.slice e):=by
 obtain⟨d,hd,h⟩:=oS h
 unfold elemOfD at h
 split at h
 ·obtain rfl:=oI h; exact hd
 ·cases h
def arrOfD (d:TypeDesc):Option (Nat×TypeId):=
 match d with
 | .array n e=>some (n,e)
 | _=>none
noncomputable def arrB (P:Program)(t:TypeId):Option (Nat×TypeId):=oc (P.underlying t) none arrOfD
theorem arrB_eq {P:Program}{t:TypeId}{x:Nat×TypeId}(h:arrB P t=some x):P.underlying t=some (.array x.1 x.2):=by
 obtain⟨d,hd,h⟩:=oS h
 unfold arrOfD at h
 split at h
 ·obtain rfl:=oI h; exact hd
 ·cases h
def idx (v:Value)(n:Nat):Option Nat:=
 match v with
 | .int _ (.ofNat k)=>match Nat.blt k n with
  | true=>some k
  | false=>none
 | _=>none
theorem idx_eq {v:Value}{n k:Nat}(h:idx v n=some k):∃ kd,v=.int kd (k:Int)∧k<n:=by
 unfold idx at h
 split at h
 ·rename_i kd j
  split at h
  ·rename_i hb
   obtain rfl:=oI h
   exact⟨kd,rfl,by simpa [Nat.blt_eq] using hb⟩
  ·cases h
 ·cases h
def qjp_ (v:Value):Option (Nat×Nat×Nat×Nat):=
 match v with
 | .slice (some ⟨b,o,none⟩) n k=>some (b,o,n,k)
 | _=>none
theorem qpk_ {v:Value}{x:Nat×Nat×Nat×Nat}(h:qjp_ v=some x):v=.slice (some ⟨x.1,x.2.1,none⟩) x.2.2.1 x.2.2.2:=by
 unfold qjp_ at h
 split at h
 ·obtain rfl:=oI h; rfl
 ·cases h
theorem sliceOf_vr {σ:Ren}{v v':Value}{x:Nat×Nat×Nat×Nat}(h:qjp_ v=some x)(hv:VR σ v v'):∃ c d m o' k',σ x.1=some (c,d,m)∧v'=.slice (some ⟨c,o',none⟩) x.2.2.1 k'∧(0<x.2.2.1→o'=d+x.2.1):=by
 rw[qpk_ h] at hv
 generalize hk:x.2.2.2=kk at hv
 cases hv with
 | @slice _ c d m o n k hs hk=>exact⟨c,d,m,_,_,hs,rfl,fun _=>rfl⟩
 | @sliceU _ c d m o o' n k' es hs hk ho hd hm=>exact⟨c,d,m,o',k',hs,rfl,fun hn=>ho.resolve_left (by omega)⟩
 | @sliceL _ c d m o n k' es lb hs hk hl hm he=>exact⟨c,d,m,_,_,hs,rfl,fun _=>rfl⟩
noncomputable def qvi_ (P:Program)(t:TypeId)(x i:Value)(H:AH):VRes:=
 oc (winS x) none fun s=>oc (idx i s.2.2.1) none fun k=>oc (elemB P t) none fun e=>oc (sizeB P e) none fun n=>some (.pointer (some ⟨s.1,Nat.add s.2.1 (Nat.mul k n),some 1⟩),H)
theorem indexWin_ok {P:Program}{n0:Bs}{σ:Ren}{H H':AH}{w:World}(hr:HR n0 σ H w){t:TypeId}{x x' i i' v:Value}(h:qvi_ P t x i H=some (v,H'))(hx:VR σ x x')(hi:VR σ i i'):GivesP P n0 σ w H (Instr.indexAt t x' i') v H':=by
 obtain⟨s,hs,h⟩:=oS h
 obtain⟨k,hk,h⟩:=oS h
 obtain⟨e,he,h⟩:=oS h
 obtain⟨n,hn,h⟩:=oS h
 obtain⟨rfl,rfl⟩:=pI (oI h)
 obtain⟨kd,rfl,hlt⟩:=idx_eq hk
 cases hi
 rcases winS_vr hs hx with⟨b,d,k',hj,rfl,-⟩ | h0
 rotate_left
 ·omega
 have hu:=qgn_ he
 refine GivesP.pure (v':=.pointer (some ⟨b,d+s.2.1+k*n,none⟩)) hr ?_ ?_
 ·have h1:(k:Int)<(s.2.2.1:Int):=by omega
  simp[Instr.indexAt,asIntOf,run_underlying hu,Sem.run_bind,qcy_ hn,h1,hlt,qfe_]
 ·have:=VR.win (σ:=σ) (s.2.1+k*n) hj
  rwa [←Nat.add_assoc] at this
noncomputable def qfl_ (P:Program)(t:TypeId)(x i:Value)(H:AH):VRes:=
 oc (qjp_ x) (qvi_ P t x i H) fun s=>oc (idx i s.2.2.1) none fun k=>oc (elemB P t) none fun e=>oc (sizeB P e) none fun n=>some (.pointer (some ⟨s.1,Nat.add s.2.1 (Nat.mul k n),none⟩),H)
theorem indexSlice_ok {P:Program}{n0:Bs}{σ:Ren}{H H':AH}{w:World}(hr:HR n0 σ H w){t:TypeId}{x x' i i' v:Value}(h:qfl_ P t x i H=some (v,H'))(hx:VR σ x x')(hi:VR σ i i'):GivesP P n0 σ w H (Instr.indexAt t x' i') v H':=by
 cases hs:qjp_ x with
 | none=>
  unfold qfl_ at h
  rw[hs,oc_none] at h
  exact indexWin_ok hr h hx hi
 | some s=>
 unfold qfl_ at h
 rw[hs,oc_some] at h
 obtain⟨k,hk,h⟩:=oS h
 obtain⟨e,he,h⟩:=oS h
 obtain⟨n,hn,h⟩:=oS h
 obtain⟨rfl,rfl⟩:=pI (oI h)
 obtain⟨kd,rfl,hlt⟩:=idx_eq hk
 cases hi
 obtain⟨c,d,m,o',k',hσ,rfl,ho⟩:=sliceOf_vr hs hx
 obtain rfl:=ho (by omega)
 have hu:=qgn_ he
 refine GivesP.pure (v':=.pointer (some ⟨c,d+s.2.1+k*n,none⟩)) hr ?_ ?_
 ·have h1:(k:Int)<(s.2.2.1:Int):=by omega
  simp[Instr.indexAt,asIntOf,run_underlying hu,Sem.run_bind,qcy_ hn,h1,hlt,qfe_]
 ·have:=VR.ptr (σ:=σ) (s.2.1+k*n) hσ
  rwa [←Nat.add_assoc] at this
theorem qye_ {P:Program}{t:TypeId}{x i v:Value}{H H1:AH}(h:qfl_ P t x i H=some (v,H1)):H1=H∧∀ H2,qfl_ P t x i H2=some (v,H2):=by
 unfold qfl_ at h ⊢
 cases hs:qjp_ x with
 | none=>
  rw[hs,oc_none] at h
  obtain⟨s,hs,h⟩:=oS h
  obtain⟨k,hk,h⟩:=oS h
  obtain⟨e,he,h⟩:=oS h
  obtain⟨n,hn,h⟩:=oS h
  obtain⟨rfl,rfl⟩:=pI (oI h)
  exact⟨rfl,fun H2=>by simp only[oc_none,qvi_,hs,hk,he,hn,oc_some]⟩
 | some s=>
  rw[hs,oc_some] at h
  obtain⟨k,hk,h⟩:=oS h
  obtain⟨e,he,h⟩:=oS h
  obtain⟨n,hn,h⟩:=oS h
  obtain⟨rfl,rfl⟩:=pI (oI h)
  exact⟨rfl,fun H2=>by simp only[hk,he,hn,oc_some]⟩
noncomputable def qnh_ (P:Program)(t:TypeId)(x i:Value)(H:AH):VRes:=
 oc (qpj_ x) (oc (qzz_ x) none fun a=>oc (arrB P t) none fun r=>oc (idx i r.1) none fun k=>oc (sizeB P r.2) none fun n=>some (.pointer (some ⟨a.1,Nat.add a.2 (Nat.mul k n),some 0⟩),H)) fun a=>oc (arrB P t) none fun r=>oc (idx i r.1) none fun k=>oc (sizeB P r.2) none fun n=>some (.pointer (some ⟨a.1,Nat.add a.2 (Nat.mul k n),none⟩),H)
theorem indexArr_ok {P:Program}{n0:Bs}{σ:Ren}{H H':AH}{w:World}(hr:HR n0 σ H w){t:TypeId}{x x' i i' v:Value}(h:qnh_ P t x i H=some (v,H'))(hx:VR σ x x')(hi:VR σ i i'):GivesP P n0 σ w H (Instr.indexAt t x' i') v H':=by
 cases ha:qpj_ x with
 | none=>
  unfold qnh_ at h
  rw[ha,oc_none] at h
  obtain⟨a,ha,h⟩:=oS h
  obtain⟨r,hu,h⟩:=oS h
  obtain⟨k,hk,h⟩:=oS h
  obtain⟨n,hn,h⟩:=oS h
  obtain⟨rfl,rfl⟩:=pI (oI h)
  obtain⟨kd,rfl,hlt⟩:=idx_eq hk
  cases hi
  obtain rfl:=globOf_vr ha hx
  have hu:=arrB_eq hu
  refine GivesP.pure (v':=.pointer (some ⟨a.1,a.2+k*n,none⟩)) hr ?_ (.glob _ _)
  have h1:(k:Int)<(r.1:Int):=by omega
  simp[Instr.indexAt,asIntOf,run_underlying hu,Sem.run_bind,qcy_ hn,h1,hlt,qfe_,Instr.sureAddr]
 | some a=>
 unfold qnh_ at h
 rw[ha,oc_some] at h
 obtain⟨r,hu,h⟩:=oS h
 obtain⟨k,hk,h⟩:=oS h
 obtain⟨n,hn,h⟩:=oS h
 obtain⟨rfl,rfl⟩:=pI (oI h)
 obtain⟨kd,rfl,hlt⟩:=idx_eq hk
 cases hi
 obtain⟨c,d,m,hσ,rfl⟩:=qqh_ ha hx
 have hu:=arrB_eq hu
 refine GivesP.pure (v':=.pointer (some ⟨c,d+a.2+k*n,none⟩)) hr ?_ ?_
 ·have h1:(k:Int)<(r.1:Int):=by omega
  simp[Instr.indexAt,asIntOf,run_underlying hu,Sem.run_bind,qcy_ hn,h1,hlt,qfe_,Instr.sureAddr]
 ·have:=VR.ptr (σ:=σ) (a.2+k*n) hσ
  rwa [←Nat.add_assoc] at this
def isAddr (v:Value):Bool:=
 match v with
 | .pointer _=>true
 | _=>false
noncomputable def qdt_ (P:Program)(t:TypeId)(x i:Value)(H:AH):VRes:=sel (isAddr x) (qnh_ P t x i H) (qfl_ P t x i H)
theorem qyf_ {P:Program}{n0:Bs}{σ:Ren}{H H':AH}{w:World}(hr:HR n0 σ H w){t:TypeId}{x x' i i' v:Value}(h:qdt_ P t x i H=some (v,H'))(hx:VR σ x x')(hi:VR σ i i'):GivesP P n0 σ w H (Instr.indexAt t x' i') v H':=by
 rcases qa_ h with⟨_,h⟩ | ⟨_,h⟩
 ·exact indexArr_ok hr h hx hi
 ·exact indexSlice_ok hr h hx hi
def tupAt (v:Value)(i:Nat):Option Value:=
 match v with
 | .tuple vs=>vs.toList[i]?
 | _=>none
noncomputable def opExtract (v:Value)(i:Nat)(H:AH):VRes:=oc (tupAt v i) none fun u=>some (u,H)
theorem extract_ok {P:Program}{n0:Bs}{σ:Ren}{H H':AH}{w:World}(hr:HR n0 σ H w){x x' v:Value}{i:Nat}(h:opExtract x i H=some (v,H'))(hx:VR σ x x'):GivesP P n0 σ w H (Instr.extract x' i) v H':=by
 obtain⟨u,hu,h⟩:=oS h
 obtain⟨rfl,rfl⟩:=pI (oI h)
 unfold tupAt at hu
 split at hu
 ·cases hx with
  | tuple hz hzs=>
   obtain⟨v',h1,h2⟩:=(VRs.arr hz hzs).get i u hu
   refine GivesP.pure (v':=v') hr ?_ h2
   simp only[Array.getElem?_toList] at h1
   simp[Instr.extract,h1]
 ·cases hu
def asB (v:Value):Option Bool:=
 match v with
 | .bool b=>some b
 | _=>none
theorem asB_eq {v:Value}{b:Bool}(h:asB v=some b):v=.bool b:=by
 unfold asB at h
 split at h
 ·obtain rfl:=oI h; rfl
 ·cases h
noncomputable def opPick (c a b:Value)(H:AH):VRes:=oc (asB c) none fun g=>some (sel g a b,H)
def nilOk (v:Value):Bool:=
 match v with
 | .pointer (some _)=>true
 | .func (.func _) _ _=>true
 | .func (.yield _) _ _=>true
 | _=>false
noncomputable def opUn (P:Program)(op:UnOp)(x:Value)(H:AH):VRes:=sel (flat x) (qwj_ P (Op.unary op x) H) none
theorem un_ok {P:Program}{n0:Bs}{σ:Ren}{H H':AH}{w:World}(hr:HR n0 σ H w){op:UnOp}{x x' v:Value}(h:opUn P op x H=some (v,H'))(hx:VR σ x x'):GivesP P n0 σ w H (Op.unary op x') v H':=by
 obtain⟨hf,h⟩:=sel_none h
 rw[qfs_ hf hx]
 exact qjo_ hr h
end Go.Proofs.YthlikofobjhcoaaGreat.Ax
namespace Go.Proofs.YthlikofobjhcoaaGreat.Ax
open Go.RowKit
variable [Tabs]
theorem VRs.set {σ:Ren}{l l':List Value}(h:VRs σ l l'){v v':Value}(hv:VR σ v v'):∀ k:Nat,VRs σ (l.set k v) (l'.set k v'):=by
 induction h with
 | nil=>intro k; exact .nil
 | cons h1 h2 ih=>
  intro k
  cases k with
  | zero=>exact .cons hv h2
  | succ k=>exact .cons h1 (ih k)
theorem fold_vr {σ:Ren}(off:Nat):∀ {l l':List Value},VRs σ l l'→∀ (i:Nat) {cs cs':Array Value},VRs σ cs.toList cs'.toList →
  VRs σ ((l.zipIdx i).foldl (fun cs (x:Value×Nat)=>cs.setIfInBounds (off+x.2) x.1) cs).toList ((l'.zipIdx i).foldl (fun cs (x:Value×Nat)=>cs.setIfInBounds (off+x.2) x.1) cs').toList:=by
 intro l l' h
 induction h with
 | nil=>intro i cs cs' hc; exact hc
 | cons hv _ ih=>
  intro i cs cs' hc
  simp only[List.zipIdx_cons,List.foldl_cons]
  refine ih (i+1) ?_
  simpa using hc.set hv (off+i)
inductive PRs (σ:Ren):List (Nat×Value)→List (Nat×Value)→Prop
 | nil:PRs σ [] []
 | cons (i:Nat) {v v':Value} {l l':List (Nat×Value)} (h:VR σ v v') (hl:PRs σ l l'):PRs σ ((i,v)::l) ((i,v')::l')
def noAny (ps:List (Nat×Value)):Bool:=ps.all fun p=>!isAny p.2
theorem fill_vr {σ:Ren}{place:Nat→Option (Nat×Nat)}{ps ps':List (Nat×Value)}(h:PRs σ ps ps'):noAny ps=true→∀ {cs cs' out:Array Value},VRs σ cs.toList cs'.toList→Instr.fill place cs ps=some out →
  ∃ out',Instr.fill place cs' ps'=some out'∧VRs σ out.toList out'.toList:=by
 induction h with
 | nil=>
  intro _ cs cs' out hc ho
  obtain rfl:cs=out:=oI ho
  exact⟨cs',rfl,hc⟩
 | @cons i v v' l l' hv _ ih=>
  intro hn cs cs' out hc ho
  simp only[noAny,List.all_cons,bA,Bool.not_eq_true'] at hn
  unfold Instr.fill at ho ⊢
  cases hp:place i with
  | none=>rw[hp] at ho; cases ho
  | some x=>
   obtain⟨off,size⟩:=x
   rw[hp] at ho
   simp only at ho ⊢
   have hcl:=qvg_ hv hn.1
   rw[←qxz_] at hcl
   have e1:v'.cells.size=v.cells.size:=hcl.size.symm
   have e2:cs'.size=cs.size:=hc.size.symm
   rw[e1,e2]
   split at ho
   ·cases ho
   ·rename_i hcond
    rw[if_neg hcond]
    have e3:∀ (u:Value) (ds:Array Value),u.cells.zipIdx.foldl (fun cs (x:Value×Nat)=>cs.setIfInBounds (off+x.2) x.1) ds=(u.cells.toList.zipIdx 0).foldl (fun cs (x:Value×Nat)=>cs.setIfInBounds (off+x.2) x.1) ds:=fun u ds=>by
     rw[←Array.foldl_toList,Array.toList_zipIdx]
    have:=fold_vr off hcl 0 hc
    rw[←e3,←e3] at this
    exact ih hn.2 this ho
noncomputable def opBuild (P:Program)(t:TypeId)(ps:List (Nat×Value))(H:AH):VRes:=sel (noAny ps) (oc (zeroB P t) none fun _=>oc (P.built t ps) none fun cs=>some (.agg cs,H)) none
theorem qub_ {P:Program}{t:TypeId}{l:List Value}(h:zeroB P t=some l){it:TypeInfo}(hi:P.info? t=some it){z:Value}(hz:it.zero=some z)(σ:Ren):VRs σ z.cells.toList z.cells.toList:=by
 obtain⟨i,hi',h⟩:=oS h
 rw[hi] at hi'
 obtain rfl:=oI hi'
 obtain⟨z',hz',h⟩:=oS h
 rw[hz] at hz'
 obtain rfl:=oI hz'
 obtain⟨hf,_⟩:=sel_none h
 rw[qxz_]
 exact qiw_ hf σ
theorem built_vr {P:Program}{σ:Ren}{t:TypeId}{ps ps':List (Nat×Value)}{cs:Array Value}(h:P.built t ps=some cs){l:List Value}(hz:zeroB P t=some l)(hp:PRs σ ps ps')(hn:noAny ps=true):∃ cs',P.built t ps'=some cs'∧VRs σ cs.toList cs'.toList:=by
 unfold Program.built at h ⊢
 split at h
 ·rename_i it n e hit hu
  split at h
  ·rename_i z ie hzz hie
   exact fill_vr hp hn (qub_ hz hit hzz σ) h
  ·cases h
 ·rename_i it fs hit hu
  split at h
  ·rename_i z places hzz hpl
   exact fill_vr hp hn (qub_ hz hit hzz σ) h
  ·cases h
 ·cases h
theorem build_ok {P:Program}{n0:Bs}{σ:Ren}{H H':AH}{w:World}(hr:HR n0 σ H w){t:TypeId}{ps:List (Nat×Value)}{qs:Array (Nat×Value)}{v:Value}(h:opBuild P t ps H=some (v,H'))(hp:PRs σ ps qs.toList):GivesP P n0 σ w H (Instr.build t qs) v H':=by
 obtain⟨hn,h⟩:=sel_none h
 obtain⟨l,hl,h⟩:=oS h
 obtain⟨cs,hcs,h⟩:=oS h
 obtain⟨rfl,rfl⟩:=pI (oI h)
 obtain⟨cs',h1,h2⟩:=built_vr hcs hl hp hn
 refine GivesP.pure (v':=.agg cs') hr (run_build w t qs cs' h1) ?_
 exact .agg h2.size h2.elem
def reps (z:List Value):Nat→List Value
 | 0=>[]
 | n+1=>z++reps z n
theorem qfb_ (z:List Value):∀ n,(reps z n).length=n*z.length
 | 0=>by simp[reps]
 | n+1=>by rw[reps,List.length_append,qfb_ z n,Nat.succ_mul]; omega
theorem reps_get (z:List Value)(d:Value):∀ (n i:Nat),i<n*z.length→(reps z n)[i]?=some (z.getD (i % z.length) d)
 | 0,i,h=>by simp at h
 | n+1,i,h=>by
  rw[reps]
  by_cases hi:i<z.length
  ·rw[List.getElem?_append_left hi,Nat.mod_eq_of_lt hi]
   simp[hi]
  ·rw[List.getElem?_append_right (by omega),reps_get z d n (i-z.length) (by rw[Nat.succ_mul] at h; omega)]
   have:i % z.length=(i-z.length) % z.length:=by
    conv=>lhs; rw[show i=i-z.length+z.length from by omega]
    rw[Nat.add_mod_right]
   rw[this]
theorem qr9_ (z:Array Value)(n m:Nat)(hm:m=n*z.size):(Array.range m).map (fun i=>z[i % z.size]!)=⟨reps z.toList n⟩:=by
 apply Array.ext'
 apply List.ext_getElem?
 intro i
 subst hm
 by_cases hi:i<n*z.size
 ·have h1:=reps_get z.toList default n i (by simpa using hi)
  rw[h1]
  simp[hi]
  have hz:0<z.size:=by
   rcases Nat.eq_zero_or_pos z.size with h | h
   ·rw[h] at hi; simp at hi
   ·exact h
  have hlt:=Nat.mod_lt i hz
  simp[hlt]
 ·rw[List.getElem?_eq_none,List.getElem?_eq_none]
  ·rw[qfb_]; simpa using hi
  ·simpa using hi
def natOf (v:Value):Option Nat:=
 match v with
 | .int _ (.ofNat k)=>some k
 | _=>none
theorem qu1_ {v:Value}{n:Nat}(h:natOf v=some n):∃ k,v=.int k (n:Int):=by
 unfold natOf at h
 split at h
 ·obtain rfl:=oI h; exact⟨_,rfl⟩
 ·cases h
noncomputable def qxn_ (P:Program)(t:TypeId):Option Nat:=oc (P.info? t) none fun i=>some i.bytes
theorem run_bytesB {P:Program}{t:TypeId}{n:Nat}(h:qxn_ P t=some n):∃ i,P.info? t=some i∧i.bytes=n:=by
 obtain⟨i,hi,h⟩:=oS h
 exact⟨i,hi,oI h⟩
def fits (n bytes:Nat):Bool:=Nat.ble (Nat.mul n bytes) 140737488355328&&Nat.ble n 9223372036854775807
def isZ8 (z:List Value):Bool:=
 match z with
 | [.int .u8 (.ofNat 0)]=>true
 | _=>false
noncomputable def zerB (z:List Value)(c:Nat)(e:TypeId):ABlk:=sel (Nat.ble 4096 c&&isZ8 z) (.zeros c e) (.cells (layT (reps z c)) e)
theorem zerB_br {σ:Ren}{m:Nat}{o:Option Obj}{z:List Value}{c:Nat}{e:TypeId}(h:BR σ 0 m o (.cells (layT (reps z c)) e))(hm:m=(reps z c).length):BR σ 0 m o (zerB z c e):=by
 unfold zerB
 cases hz:(Nat.ble 4096 c&&isZ8 z) with
 | false=>exact h
 | true=>
  simp only[bA] at hz
  obtain⟨_,hz⟩:=hz
  have hz:z=[.int .u8 0]:=by
   unfold isZ8 at hz
   split at hz
   ·rfl
   ·cases hz
  subst hz
  have hl:(reps [Value.int .u8 0] c).length=c:=by simp[qfb_]
  obtain⟨C,h1,h2,h3⟩:=h
  refine⟨C,h1,h2,rfl,by rw[hm,hl],fun i hi=>?_⟩
  have hg:(layT (reps [Value.int .u8 0] c)).get i=some (.int .u8 0):=by
   rw[qfu_,reps_get _ (.int .u8 0) c i (by simpa using hi)]
   simp[Nat.mod_one]
  obtain⟨v',q1,q2⟩:=h3 i _ hg
  cases q2
  rwa [Nat.zero_add] at q1
def nilz (v:Value):Value:=
 match v with
 | .slice none 0 0=>.slice (some ⟨64,0,some 1⟩) 0 0
 | v=>v
def nilzL (l:List Value):List Value:=
 match l with
 | []=>[]
 | v::l=>nilz v::nilzL l
theorem qu2_:∀ l,(nilzL l).length=l.length
 | []=>rfl
 | v::l=>congrArg (· + 1) (qu2_ l)
theorem nilz_vr {v:Value}{σ:Ren}(h:VR σ v v):VR σ (nilz v) v:=by
 unfold nilz
 split
 ·exact .win0 64 0 0 none (by decide)
 ·exact h
theorem nilzL_vr {σ:Ren}:∀ {l:List Value},VRs σ l l→VRs σ (nilzL l) l
 | [],_=>.nil
 | v::l,h=>by
  cases h with
  | cons h1 h2=>exact .cons (nilz_vr h1) (nilzL_vr h2)
theorem reps_vr {σ:Ren}{l l':List Value}(h:VRs σ l l'):∀ n,VRs σ (reps l n) (reps l' n)
 | 0=>.nil
 | n+1=>h.append (reps_vr h n)
noncomputable def qna_ (P:Program)(t:TypeId)(l c:Value)(H:AH):VRes:=
 oc (natOf l) none fun l=>oc (natOf c) none fun c=>oc (elemB P t) none fun e=>oc (zeroB P e) none fun z=>oc (sizeB P e) none fun s=>oc (qxn_ P e) none fun bs=>
  sel (Nat.ble l c&&fits c bs&&Nat.beq z.length s) (some (.slice (some ⟨H.next,0,none⟩) l c,H.push (zerB (nilzL z) c e))) none
theorem qyg_:∀ {l m:List Value},flatL l=true→flatL m=true→flatL (l++m)=true
 | [],_,_,h=>h
 | v::l,m,h,k=>by
  simp only[flatL,bA,List.cons_append] at *
  exact⟨h.1,qyg_ h.2 k⟩
theorem qsa_ {z:List Value}(h:flatL z=true):∀ n,flatL (reps z n)=true
 | 0=>rfl
 | n+1=>qyg_ h (qsa_ h n)
theorem qw3_ {P:Program}{n0:Bs}{σ:Ren}{H:AH}{w:World}(hr:HR n0 σ H w){t:TypeId}{l l' c c':Value}{ln cn s bs:Nat}{e:TypeId}{z:List Value}(hln:natOf l=some ln)(hcn:natOf c=some cn)(he:elemB P t=some e)(hz:zeroB P e=some z)(hs:sizeB P e=some s)
  (hbs:qxn_ P e=some bs) (hb:(Nat.ble ln cn&&fits cn bs&&Nat.beq z.length s)=true) (hl:VR σ l l') (hc:VR σ c c') :
  ∃ σ' w',(Instr.makeSlice t l' c').run P w=.ok (.slice (some ⟨w.heap.size,0,none⟩) ln cn) w'∧σ' H.next=some (w.heap.size,0,(reps z cn).length)∧HR n0 σ' (H.push (.cells (layT (reps (nilzL z) cn)) e)) w'∧Step n0 σ w H.low σ' w'∧z.length=s∧ln≤cn∧cn<big:=by
 obtain⟨k1,rfl⟩:=qu1_ hln
 obtain⟨k2,rfl⟩:=qu1_ hcn
 cases hl
 cases hc
 simp only[bA,fits] at hb
 obtain⟨⟨h1,h2,h3⟩,h4⟩:=hb
 have h1:=Nat.le_of_ble_eq_true h1
 have h2:=Nat.le_of_ble_eq_true h2
 have h3:=Nat.le_of_ble_eq_true h3
 have h4:=nB h4
 have hmul:Nat.mul cn bs=cn*bs:=rfl
 rw[hmul] at h2
 obtain⟨i,hi,rfl⟩:=run_bytesB hbs
 obtain⟨zv,z1,z2,z3⟩:=qtl_ hz w
 obtain⟨σ',w',r1,r2,r3,r4⟩:=q1a_ (P:=P) hr (reps_vr (nilzL_vr (qiw_ z3 σ)) cn) e
 have hu:=qgn_ he
 have w1:IntKind.i64.wrap (ln:Int)=(ln:Int):=IntWalk.i64_in _ (by omega)
 have w2:IntKind.i64.wrap (cn:Int)=(cn:Int):=IntWalk.i64_in _ (by omega)
 have hbig:¬ ((281474976710656:Int)<(i.bytes:Int)*(cn:Int)):=by
  have:(i.bytes:Int)*(cn:Int)=((cn*i.bytes:Nat):Int):=by rw[Int.natCast_mul,Int.mul_comm]
  rw[this]; omega
 have hsz:i.size=s:=by
  obtain⟨i',hi',hs'⟩:=oS hs
  rw[hi] at hi'
  obtain rfl:=oI hi'
  exact oI hs'
 have hlt:¬ ((cn:Int)<(ln:Int)):=by omega
 refine⟨σ',w',?_,r2,r3,r4,h4,h1,by unfold big; omega⟩
 have q1:¬ ((cn:Int)<0):=by omega
 have q2:¬ ((ln:Int)<0):=by omega
 by_cases h0:cn*i.size=0
 ·have hrz:reps z cn=[]:=by
   have:=qfb_ z cn
   rw[h4,←hsz,h0] at this
   exact List.length_eq_zero_iff.1 this
  rw[hrz] at r1
  simp[Instr.makeSlice,run_underlying hu,asInt,asIntOf,typeInfo,hi,w1,w2,hlt,hbig,sizeOf,askRoom,h0,q1,q2]
  have e0:Array.map (fun _=>(default:Value)) (Array.range 0)=⟨[]⟩:=by simp[Array.range]
  rw[e0,r1]
  simp
 ·have hrow:=qr9_ ⟨z⟩ cn (cn*i.size) (by simp[h4,hsz])
  simp at hrow
  simp[Instr.makeSlice,run_underlying hu,asInt,asIntOf,typeInfo,hi,w1,w2,hlt,hbig,sizeOf,askRoom,h0,zeroValue,q1,q2]
  obtain⟨iz,hiz,hzz⟩:∃ iz,i.zero=some iz∧iz.cells=⟨z⟩:=by
   simp[zeroValue,typeInfo,hi] at z1
   cases hq:i.zero with
   | none=>rw[hq] at z1; simp[unsupported,Sem.run] at z1
   | some iz=>rw[hq] at z1; simp at z1; subst z1; exact⟨iz,rfl,z2⟩
  simp only[hiz,hzz]
  simp[hzz,hrow,r1]
theorem makeSlice_ok {P:Program}{n0:Bs}{σ:Ren}{H H':AH}{w:World}(hr:HR n0 σ H w){t:TypeId}{l l' c c' v:Value}(h:qna_ P t l c H=some (v,H'))(hl:VR σ l l')(hc:VR σ c c'):Gives P n0 σ w (Instr.makeSlice t l' c') v H':=by
 obtain⟨ln,hln,h⟩:=oS h
 obtain⟨cn,hcn,h⟩:=oS h
 obtain⟨e,he,h⟩:=oS h
 obtain⟨z,hz,h⟩:=oS h
 obtain⟨s,hs,h⟩:=oS h
 obtain⟨bs,hbs,h⟩:=oS h
 obtain⟨hb,h⟩:=sel_none h
 obtain⟨rfl,rfl⟩:=pI (oI h)
 obtain⟨σ',w',r1,r2,r3,r4,_,h1,hbg⟩:=qw3_ hr hln hcn he hz hs hbs hb hl hc
 have r3':HR n0 σ' (H.push (zerB (nilzL z) cn e)) w':=(r3.setK (b:=H.next) (x:=.cells (layT (reps (nilzL z) cn)) e) (y:=zerB (nilzL z) cn e) (by simp[AH.push,Tr.get_set]) (fun c d m hs hB=>by
  rw[r2] at hs
  injection hs with hs
  injection hs with e1 hs
  injection hs with e2 e3
  subst e1 e2 e3
  exact zerB_br hB (by rw[qfb_,qfb_,qu2_])) 0).congr (fun b=>by
   simp only[AH.push,AH.setK,Tr.get_set]
   by_cases e1:b=H.next
   ·rw[if_pos e1,if_pos e1]
   ·rw[if_neg e1,if_neg e1,if_neg e1]) rfl
 exact⟨_,σ',w',r1,by simpa using VR.slice 0 ln cn r2 hbg h1,r3',r4⟩
noncomputable def mkU (l c:Operand):Bool:=
 match l,c with
 | .const (.int _ (.ofNat 0)),.tmp _=>true
 | _,_=>false
noncomputable def q0g_ (P:Program)(t:TypeId)(c:Value)(H:AH):VRes:=
 oc (natOf c) none fun c=>oc (elemB P t) none fun e=>oc (zeroB P e) none fun z=>oc (sizeB P e) none fun s=>oc (qxn_ P e) none fun bs=>
  sel (fits c bs&&Nat.beq z.length s&&Nat.blt s 4096) (some (.slice (some ⟨H.next,0,none⟩) 0 (Nat.add big s),H.push (.cells .nil e))) none
theorem makeU_ok {P:Program}{n0:Bs}{σ:Ren}{H H':AH}{w:World}(hr:HR n0 σ H w){t:TypeId}{k:IntKind}{l' c c' v:Value}(h:q0g_ P t c H=some (v,H'))(hl:VR σ (.int k 0) l')(hc:VR σ c c'):Gives P n0 σ w (Instr.makeSlice t l' c') v H':=by
 obtain⟨cn,hcn,h⟩:=oS h
 obtain⟨e,he,h⟩:=oS h
 obtain⟨z,hz,h⟩:=oS h
 obtain⟨s,hs,h⟩:=oS h
 obtain⟨bs,hbs,h⟩:=oS h
 obtain⟨hb,h⟩:=sel_none h
 obtain⟨rfl,rfl⟩:=pI (oI h)
 simp only[bA] at hb
 have h5:s<4096:=Nat.le_of_ble_eq_true hb.2
 obtain⟨σ',w',r1,r2,r3,r4,h4,_,_⟩:=qw3_ (l:=.int k 0) (ln:=0) hr rfl hcn he hz hs hbs (by simp only[bA]; exact⟨⟨Nat.ble_eq_true_of_le (Nat.zero_le _),hb.1.1⟩,hb.1.2⟩) hl hc
 have r3':HR n0 σ' (H.push (.cells .nil e)) w':=(r3.setK (b:=H.next) (x:=.cells (layT (reps (nilzL z) cn)) e) (y:=.cells .nil e) (by simp[AH.push,Tr.get_set]) (fun c d m hs hB=>by
  obtain⟨C,g1,g2,_⟩:=hB
  exact⟨C,g1,g2,fun i v hv=>by rw[Tr.get_nil] at hv; cases hv⟩) 0).congr (fun b=>by
   simp only[AH.push,AH.setK,Tr.get_set]
   by_cases e1:b=H.next
   ·rw[if_pos e1,if_pos e1]
   ·rw[if_neg e1,if_neg e1,if_neg e1]) rfl
 exact⟨_,σ',w',r1,VR.sliceU 0 0 0 cn s r2 (Nat.zero_le _) (.inl rfl) (Nat.le_refl _) (by rw[qfb_,h4]; omega) (by unfold big; omega),r3',r4⟩
noncomputable def qyh_ (P:Program)(t:TypeId)(len:Nat)(ps:List (Nat×Value))(H:AH):VRes:=
 oc (elemB P t) none fun e=>oc (zeroB P e) none fun z=>oc (sizeB P e) none fun s=>
  sel (Nat.ble (Nat.mul len s) 16777216&&Nat.beq z.length s&&noAny ps) (oc (Instr.fill (fun i=>some (i*s,s)) ⟨reps z len⟩ ps) none fun cs=>some (.slice (some ⟨H.next,0,none⟩) len len,H.push (.cells (layT cs.toList) e))) none
theorem buildSlice_ok {P:Program}{n0:Bs}{σ:Ren}{H H':AH}{w:World}(hr:HR n0 σ H w){t:TypeId}{len:Nat}{ps:List (Nat×Value)}{qs:Array (Nat×Value)}{v:Value}(h:qyh_ P t len ps H=some (v,H'))(hp:PRs σ ps qs.toList)
  (hlen:len<big):Gives P n0 σ w (Instr.buildSlice t len qs) v H':=by
 obtain⟨e,he,h⟩:=oS h
 obtain⟨z,hz,h⟩:=oS h
 obtain⟨s,hs,h⟩:=oS h
 obtain⟨hb,h⟩:=sel_none h
 obtain⟨cs,hcs,h⟩:=oS h
 obtain⟨rfl,rfl⟩:=pI (oI h)
 clear h
 simp only[bA] at hb
 obtain⟨hb,hna⟩:=hb
 have h1:len*s≤16777216:=Nat.le_of_ble_eq_true hb.1
 have h4:=nB hb.2
 obtain⟨zv,z1,z2,z3⟩:=qtl_ hz w
 obtain⟨cs',f1,f2⟩:=fill_vr hp hna (cs:=⟨reps z len⟩) (cs':=⟨reps z len⟩) (qiw_ (qsa_ z3 len) σ) hcs
 obtain⟨σ',w',r1,r2,r3,r4⟩:=q1a_ (P:=P) hr f2 e
 have hu:=qgn_ he
 have hbig:¬ (16777216<len*s):=by omega
 refine⟨.slice (some ⟨w.heap.size,0,none⟩) len len,σ',w',?_,?_,r3,r4⟩
 ·have hbig':¬ (len*s > 2 ^ 24):=by omega
  simp only[Instr.buildSlice,Sem.run_bind,run_underlying hu,Result.andThen_ok,qcy_ hs]
  rw[if_neg hbig']
  by_cases h0:len*s=0
  ·have hrz:reps z len=[]:=by
    have:=qfb_ z len
    rw[h4,h0] at this
    exact List.length_eq_zero_iff.1 this
   rw[hrz] at f1
   have e0:Array.map (fun i=>(#[]:Array Value)[i % (#[]:Array Value).size]!) (Array.range (len*s))=⟨[]⟩:=by rw[h0]; simp[Array.range]
   rw[if_pos h0]
   simp only[Sem.run_bind,Sem.run_pure,Result.andThen_ok,e0,f1,r1]
  ·have hrow:=qr9_ ⟨z⟩ len (len*s) (by simp[h4])
   rw[if_neg h0]
   simp only[Sem.run_bind,Sem.run_pure,Result.andThen_ok,z1,z2,hrow,f1,r1]
 ·simpa using VR.slice 0 len len r2 hlen (Nat.le_refl _)
def bnd (v:Option Value)(d:Nat):Option Nat:=
 match v with
 | none=>some d
 | some v=>natOf v
inductive OR (σ:Ren):Option Value→Option Value→Prop
 | none:OR σ none none
 | some {v v':Value} (h:VR σ v v'):OR σ (some v) (some v')
theorem bnd_vr {σ:Ren}{v v':Option Value}{d n:Nat}(h:bnd v d=some n)(hv:OR σ v v'):(v'=none∧n=d∧v=none)∨∃ k,v'=some (.int k (n:Int))∧v=some (.int k (n:Int)):=by
 cases hv with
 | none=>exact .inl ⟨rfl,(oI h).symm,rfl⟩
 | some hv=>
  obtain⟨k,rfl⟩:=qu1_ h
  cases hv
  exact .inr ⟨k,rfl,rfl⟩
theorem run_bound {P:Program}(w:World)(k:IntKind){n y:Nat}(code:BoundsCode)(h:n≤y):(Instr.sliceBound (.int k (n:Int)) y code).run P w=.ok n w:=by
 have h1:(n:Int)≤(y:Int):=by omega
 simp[Instr.sliceBound,asIntOf,h1,h]
theorem qiz_ {P:Program}(w:World)(sl:Bool){len cap l h:Nat}{σ:Ren}{lo lo' hi hi':Option Value}(hlo:bnd lo 0=some l)(hhi:bnd hi len=some h)(rlo:OR σ lo lo')(rhi:OR σ hi hi')(h1:l≤h)(h2:h≤cap) :
  (Instr.sliceBounds sl len cap lo' hi' none).run P w=.ok (l,h,cap) w:=by
 rcases bnd_vr hlo rlo with⟨rfl,rfl,_⟩ | ⟨k,rfl,_⟩<;>rcases bnd_vr hhi rhi with⟨rfl,rfl,_⟩ | ⟨k2,rfl,_⟩<;>simp[Instr.sliceBounds,run_bound,h1,h2]
theorem qwk_ {P:Program}(w:World)(sl:Bool){len cap l h m:Nat}{σ:Ren}{lo lo':Option Value}{hi hi' mx mx':Value}(hlo:bnd lo 0=some l)(hhi:natOf hi=some h)(hmx:natOf mx=some m)(rlo:OR σ lo lo')(rhi:VR σ hi hi')(rmx:VR σ mx mx')(h1:l≤h)(h2:h≤m)(h3:m≤cap) :
  (Instr.sliceBounds sl len cap lo' (some hi') (some mx')).run P w=.ok (l,h,m) w:=by
 obtain⟨k1,rfl⟩:=qu1_ hhi
 obtain⟨k2,rfl⟩:=qu1_ hmx
 cases rhi
 cases rmx
 rcases bnd_vr hlo rlo with⟨rfl,rfl,_⟩ | ⟨k,rfl,_⟩<;>simp[Instr.sliceBounds,run_bound,h1,h2,h3]
noncomputable def slK (b o n k s:Nat)(lo hi:Option Value):Option Value:=
 oc (bnd lo 0) none fun l=>oc (bnd hi n) none fun h=>sel (Nat.ble l h&&Nat.ble h k) (some (.slice (some ⟨b,sel (Nat.beq k l) o (Nat.add o (Nat.mul l s)),none⟩) (Nat.sub h l) (Nat.sub k l))) none
noncomputable def slU (b o n s:Nat)(lo hi:Option Value):Option Value:=
 oc (bnd lo 0) none fun l=>oc (bnd hi n) none fun h=>sel (Nat.ble l h&&Nat.ble h n) (some (.slice (some ⟨b,Nat.add o (Nat.mul l s),none⟩) (Nat.sub h l) (Nat.add big s))) none
noncomputable def sl3 (b o n k s:Nat)(lo:Option Value)(hi mx:Value):Option Value:=
 oc (bnd lo 0) none fun l=>oc (natOf hi) none fun h=>oc (natOf mx) none fun m=>sel (Nat.ble l h&&Nat.ble h m&&Nat.ble m k&&Nat.blt m big) (some (.slice (some ⟨b,sel (Nat.beq m l) o (Nat.add o (Nat.mul l s)),none⟩) (Nat.sub h l) (Nat.sub m l))) none
noncomputable def slGo (b o n k s:Nat)(lo hi mx:Option Value):Option Value:=
 oc mx (sel (Nat.blt k big) (slK b o n k s lo hi) (sel (Nat.beq k (Nat.add big s)) (slU b o n s lo hi) none))
  fun m=>oc hi none fun h=>sel (Nat.blt k big) (sl3 b o n k s lo h m) (sel (Nat.beq k (Nat.add big s)) (sel (Nat.beq n 0) (oc (natOf m) none fun mm=>sel (Nat.beq mm 0) (slU b o n s lo hi) none) (sl3 b o n n s lo h m)) none)
end Go.Proofs.YthlikofobjhcoaaGreat.Ax
namespace Go.Proofs.YthlikofobjhcoaaGreat.Ax
open Go.RowKit
variable [Tabs]
theorem qf4_ {a b:Nat}(h:Nat.beq a b=false):a ≠ b:=fun e=>by subst e; rw[Nat.beq_refl] at h; cases h
theorem qd1_ {a b:Nat}(h:Nat.ble a b=true):a≤b:=Nat.le_of_ble_eq_true h
theorem qfr_ {a b:Nat}(h:Nat.blt a b=true):a<b:=by simpa [Nat.blt_eq] using h
theorem sel_beq {α:Type}(a b:Nat)(x y:α):sel (Nat.beq a b) x y=if a=b then x else y:=by
 by_cases h:a=b
 ·subst h; rw[Nat.beq_refl,if_pos rfl]; rfl
 ·cases hq:Nat.beq a b
  ·rw[if_neg h]; rfl
  ·exact absurd (nB hq) h
theorem qyi_:0<big:=by decide
theorem bigL_div {es lb:Nat}(h:es<big):bigL es lb / big=lb+2:=by
 show (big*(lb+2)+es) / big=_
 rw[Nat.mul_add_div qyi_,Nat.div_eq_of_lt h]
theorem bigL_mod {es lb:Nat}(h:es<big):bigL es lb % big=es:=by
 show (big*(lb+2)+es) % big=_
 rw[Nat.mul_add_mod,Nat.mod_eq_of_lt h]
def notL (v:Value):Bool:=
 match v with
 | .slice (some ⟨_,_,none⟩) _ k=>Nat.ble (Nat.div k big) 1
 | _=>true
theorem notL_L {b o n es lb:Nat}(h:es<big):notL (.slice (some ⟨b,o,none⟩) n (bigL es lb))=false:=by
 show Nat.ble (bigL es lb / big) 1=false
 rw[bigL_div h]; rfl
noncomputable def weakL (v:Value):Value:=
 match v with
 | .slice (some ⟨b,o,none⟩) n k=>sel (Nat.ble (Nat.div k big) 1) v (.slice (some ⟨b,o,none⟩) n (Nat.add big (Nat.mod k big)))
 | _=>v
theorem q1d_ (v:Value):notL (weakL v)=true:=by
 unfold weakL
 split
 ·rename_i b o n k
  cases h:Nat.ble (Nat.div k big) 1 with
  | true=>exact h
  | false=>
   show Nat.ble ((big+k % big) / big) 1=true
   rw[Nat.add_div_left _ qyi_,Nat.div_eq_of_lt (Nat.mod_lt _ qyi_)]; rfl
 ·rename_i h
  unfold notL
  split
  ·rename_i b o n k; exact absurd rfl (h b o n k)
  ·rfl
theorem weakL_vr {σ:Ren}{v v':Value}(hv:VR σ v v'):VR σ (weakL v) v':=by
 unfold weakL
 split
 ·rename_i b o n k
  cases h:Nat.ble (Nat.div k big) 1 with
  | true=>exact hv
  | false=>
   show VR σ (.slice (some ⟨b,o,none⟩) n (big+k % big)) v'
   generalize hk:k=kk at hv
   cases hv with
   | slice _ _ _ hs hkb=>subst hk; rw[show Nat.div k big=k / big from rfl,Nat.div_eq_of_lt hkb] at h; cases h
   | sliceU _ o' _ k' es hs hk1 ho hd hm he=>
    subst hk
    refine .sliceU o o' n k' _ hs hk1 ho hd (Nat.le_trans (Nat.add_le_add_left (Nat.mul_le_mul_left k' ?_) _) hm) (Nat.mod_lt _ qyi_)
    rw[Nat.add_mod_left]; exact Nat.mod_le _ _
   | sliceL _ _ k' es lb hs hk1 hl hm he=>subst hk; rw[bigL_mod he]; exact .sliceU o _ n k' es hs hk1 (.inr rfl) (Nat.le_add_right _ _) hm he
 ·exact hv
noncomputable def qkw_ (P:Program)(t:TypeId)(x:Value)(lo hi mx:Option Value)(H:AH):VRes:=
 oc (qjp_ x) none fun a=>oc (elemB P t) none fun e=>oc (sizeB P e) none fun s=>oc (slGo a.1 a.2.1 a.2.2.1 a.2.2.2 s lo hi mx) none fun v=>some (v,H)
theorem qff_ {P:Program}{w:World}{t e:TypeId}(hu:P.underlying t=some (.slice e)){s:Nat}(hs:sizeB P e=some s){c o' n k' l h m:Nat}{lo hi mx:Option Value}(hb:(Instr.sliceBounds true n k' lo hi mx).run P w=.ok (l,h,m) w) :
  (Instr.sliceAt t (.slice (some ⟨c,o',none⟩) n k') lo hi mx).run P w=.ok (.slice (some ⟨c,if m=l then o' else o' + l*s,none⟩) (h-l) (m-l)) w:=by
 by_cases hm:m=l
 ·subst hm
  simp[Instr.sliceAt,Instr.slice,run_underlying hu,Sem.run_bind,hb,qcy_ hs]
 ·simp[Instr.sliceAt,Instr.slice,run_underlying hu,Sem.run_bind,hb,qcy_ hs,hm,qfe_]
theorem sliceSome_ok {P:Program}{n0:Bs}{σ:Ren}{H H':AH}{w:World}(hr:HR n0 σ H w){t:TypeId}{x x' v:Value}{lo lo' hi hi' mx mx':Option Value}(h:qkw_ P t x lo hi mx H=some (v,H'))(hx:VR σ x x')(hlo:OR σ lo lo')(hhi:OR σ hi hi')(hmx:OR σ mx mx')(hnl:notL x=true) :
  GivesP P n0 σ w H (Instr.sliceAt t x' lo' hi' mx') v H':=by
 obtain⟨a,ha,h⟩:=oS h
 obtain⟨e,he,h⟩:=oS h
 obtain⟨s,hs,h⟩:=oS h
 obtain⟨u,hu,h⟩:=oS h
 obtain⟨rfl,rfl⟩:=pI (oI h)
 clear h
 have he:=qgn_ he
 obtain⟨b,o,n,k⟩:=a
 rw[qpk_ ha] at hx hnl
 simp only at hu hx hnl
 unfold slGo at hu
 generalize hkk:k=kk at hx
 cases hx with
 | @sliceL _ c d m _ _ k' es lb hσ hk hl hm hes=>subst hkk; rw[notL_L hes] at hnl; cases hnl
 | @slice _ c d m _ _ _ hσ hk=>
  subst hkk
  have hkb:Nat.blt k big=true:=by simpa [Nat.blt_eq] using hk
  cases hmx with
  | none=>
   simp only[oc_none,hkb,sel_true,slK] at hu
   obtain⟨l,hl,hu⟩:=oS hu
   obtain⟨hh,hhe,hu⟩:=oS hu
   obtain⟨hb,hu⟩:=sel_none hu
   obtain rfl:=oI hu
   simp only[bA] at hb
   have b1:=qd1_ hb.1
   have b2:=qd1_ hb.2
   refine GivesP.pure hr (qff_ he hs (qiz_ w true hl hhe hlo hhi b1 b2)) ?_
   rw[sel_beq]
   have:=VR.slice (σ:=σ) (if k=l then o else o+l*s) (hh-l) (k-l) hσ (by omega) (by omega)
   by_cases hkl:k=l
   ·simpa [hkl] using this
   ·simpa [hkl,Nat.add_assoc] using this
  | @some mm mm' hmm=>
   cases hhi with
   | none=>simp at hu
   | @some hv hv' hhv=>
    simp only[oc_some,hkb,sel_true,sl3] at hu
    obtain⟨l,hl,hu⟩:=oS hu
    obtain⟨hh,hhe,hu⟩:=oS hu
    obtain⟨m3,hm3,hu⟩:=oS hu
    obtain⟨hb,hu⟩:=sel_none hu
    obtain rfl:=oI hu
    simp only[bA] at hb
    have b1:=qd1_ hb.1.1.1
    have b2:=qd1_ hb.1.1.2
    have b3:=qd1_ hb.1.2
    refine GivesP.pure hr (qff_ he hs (qwk_ w true hl hhe hm3 hlo hhv hmm b1 b2 b3)) ?_
    rw[sel_beq]
    have:=VR.slice (σ:=σ) (if m3=l then o else o+l*s) (hh-l) (m3-l) hσ (by omega) (by omega)
    by_cases hkl:m3=l
    ·simpa [hkl] using this
    ·simpa [hkl,Nat.add_assoc] using this
 | @sliceU _ c d m _ o' _ k' es hσ hk ho hd hm hebig=>
  subst hkk
  have hkb:Nat.blt (big+es) big=false:=by
   cases hq:Nat.blt (big+es) big
   ·rfl
   ·have:=qfr_ hq; omega
  have low:∀ {l h:Nat},l≤h→h≤n→es=s→VR σ (.slice (some ⟨b,o+l*s,none⟩) (h-l) (big+s)) (.slice (some ⟨c,if k'=l then o' else o' + l*s,none⟩) (h-l) (k' - l)):=by
   rintro l hh b1 b2 rfl
   have e1:l*es+(k' - l)*es=k' * es:=by rw[←Nat.add_mul]; congr 1; omega
   refine VR.sliceU (o+l*es) _ (hh-l) (k' - l) es hσ (by omega) ?_ ?_ ?_ hebig
   ·by_cases hz:hh-l=0
    ·exact .inl hz
    ·refine .inr ?_
     have:o'=d+o:=ho.resolve_left (by omega)
     rw[if_neg (by omega),this]; omega
   ·split<;>omega
   ·split
    ·rename_i e; subst e; simp; omega
    ·omega
  cases hmx with
  | none=>
   simp only[oc_none,hkb,sel_false] at hu
   obtain⟨hes,hu⟩:=sel_none hu
   have hes:es=s:=by have:=nB hes; simp at this; omega
   unfold slU at hu
   obtain⟨l,hl,hu⟩:=oS hu
   obtain⟨hh,hhe,hu⟩:=oS hu
   obtain⟨hb,hu⟩:=sel_none hu
   obtain rfl:=oI hu
   simp only[bA] at hb
   have b1:=qd1_ hb.1
   have b2:=qd1_ hb.2
   exact GivesP.pure hr (qff_ he hs (qiz_ w true hl hhe hlo hhi b1 (by omega))) (low b1 b2 hes)
  | @some mm mm' hmm=>
   cases hhi with
   | none=>simp at hu
   | @some hv hv' hhv=>
    simp only[oc_some,hkb,sel_false] at hu
    obtain⟨hes,hu⟩:=sel_none hu
    have hes:es=s:=by have:=nB hes; simp at this; omega
    rcases qa_ hu with⟨hz,hu⟩ | ⟨hz,hu⟩
    ·have hz:=nB hz
     obtain⟨m3,hm3,hu⟩:=oS hu
     obtain⟨hm0,hu⟩:=sel_none hu
     have hm0:=nB hm0
     unfold slU at hu
     obtain⟨l,hl,hu⟩:=oS hu
     obtain⟨hh,hhe,hu⟩:=oS hu
     obtain⟨hb,hu⟩:=sel_none hu
     obtain rfl:=oI hu
     simp only[bA] at hb
     have b1:=qd1_ hb.1
     have b2:=qd1_ hb.2
     refine GivesP.pure hr (qff_ he hs (qwk_ w true hl hhe hm3 hlo hhv hmm b1 (by omega) (by omega))) ?_
     have hl0:l=0:=by omega
     have hh0:hh=0:=by omega
     subst hl0 hh0 hm0 hes
     simpa using VR.sliceU o o' 0 0 es hσ (Nat.le_refl _) (.inl rfl) hd (by omega) hebig
    ·have hz:=qf4_ hz
     have hoo:o'=d+o:=ho.resolve_left hz
     subst hoo
     unfold sl3 at hu
     obtain⟨l,hl,hu⟩:=oS hu
     obtain⟨hh,hhe,hu⟩:=oS hu
     obtain⟨m3,hm3,hu⟩:=oS hu
     obtain⟨hb,hu⟩:=sel_none hu
     obtain rfl:=oI hu
     simp only[bA] at hb
     have b1:=qd1_ hb.1.1.1
     have b2:=qd1_ hb.1.1.2
     have b3:=qd1_ hb.1.2
     have b4:=qfr_ hb.2
     refine GivesP.pure hr (qff_ he hs (qwk_ w true hl hhe hm3 hlo hhv hmm b1 b2 (by omega))) ?_
     rw[sel_beq]
     have:=VR.slice (σ:=σ) (if m3=l then o else o+l*s) (hh-l) (m3-l) hσ (by omega) (by omega)
     by_cases hkl:m3=l
     ·simpa [hkl] using this
     ·simpa [hkl,Nat.add_assoc] using this
noncomputable def qyj_ (P:Program)(t:TypeId)(x:Value)(lo hi:Option Value)(H:AH):VRes:=
 oc (qpj_ x) none fun a=>oc (arrB P t) none fun r=>oc (sizeB P r.2) none fun s=>sel (Nat.blt r.1 big) (oc (slK a.1 a.2 r.1 r.1 s lo hi) none fun v=>some (v,H)) none
theorem sliceArr_ok {P:Program}{n0:Bs}{σ:Ren}{H H':AH}{w:World}(hr:HR n0 σ H w){t:TypeId}{x x' v:Value}{lo lo' hi hi':Option Value}(h:qyj_ P t x lo hi H=some (v,H'))(hx:VR σ x x')(hlo:OR σ lo lo')(hhi:OR σ hi hi') :
  GivesP P n0 σ w H (Instr.sliceAt t x' lo' hi' none) v H':=by
 obtain⟨a,ha,h⟩:=oS h
 obtain⟨r,hu,h⟩:=oS h
 obtain⟨s,hs,h⟩:=oS h
 obtain⟨hbg,h⟩:=sel_none h
 obtain⟨u,hk,h⟩:=oS h
 obtain⟨rfl,rfl⟩:=pI (oI h)
 obtain⟨c,d,m,hσ,rfl⟩:=qqh_ ha hx
 have hu:=arrB_eq hu
 have hbg:=qfr_ hbg
 unfold slK at hk
 obtain⟨l,hl,hk⟩:=oS hk
 obtain⟨hh,hhe,hk⟩:=oS hk
 obtain⟨hb,hk⟩:=sel_none hk
 obtain rfl:=oI hk
 simp only[bA] at hb
 have b1:=qd1_ hb.1
 have b2:=qd1_ hb.2
 have hb:=qiz_ (P:=P) w false hl hhe hlo hhi b1 b2
 refine GivesP.pure (v':=.slice (some ⟨c,d+(if r.1=l then a.2 else a.2+l*s),none⟩) (hh-l) (r.1-l)) hr ?_ ?_
 ·by_cases hm:r.1=l
  ·simp[Instr.sliceAt,run_underlying hu,Instr.sureAddr,Sem.run_bind,hb,qcy_ hs,hm]
   rw[hm] at hb
   simp[hb]
  ·simp[Instr.sliceAt,run_underlying hu,Instr.sureAddr,Sem.run_bind,hb,qcy_ hs,hm,qfe_,Nat.add_assoc]
 ·rw[sel_beq]
  exact VR.slice _ (hh-l) (r.1-l) hσ (by omega) (by omega)
def flatO (v:Option Value):Bool:=
 match v with
 | none=>true
 | some v=>flat v
theorem qyk_ {σ:Ren}{v v':Option Value}(h:flatO v=true)(hv:OR σ v v'):v'=v:=by
 cases hv with
 | none=>rfl
 | some hv=>rw[qfs_ h hv]
def isNone (v:Option Value):Bool:=
 match v with
 | none=>true
 | some _=>false
noncomputable def capL (n k:Nat):Option (Nat×Nat):=sel (Nat.beq (Nat.div k big) 0) none (sel (Nat.beq (Nat.div k big) 1) (sel (Nat.blt 0 n) (some (Nat.mod k big,n)) none) (some (Nat.mod k big,Nat.sub (Nat.div k big) 2)))
theorem capL_vr {σ:Ren}{b o n k:Nat}{q:Nat×Nat}{v':Value}(h:capL n k=some q)(hv:VR σ (.slice (some ⟨b,o,none⟩) n k) v'):∃ c d m k',v'=.slice (some ⟨c,d+o,none⟩) n k'∧σ b=some (c,d,m)∧n≤k'∧q.2≤k'∧d+o+k' * q.1≤m∧q.1<big:=by
 unfold capL at h
 rcases qa_ h with⟨_,h⟩ | ⟨h0,h⟩
 ·cases h
 have h0:=qf4_ h0
 generalize hk:k=kk at hv
 rcases qa_ h with⟨h1,h⟩ | ⟨h1,h⟩
 ·have h1:=nB h1
  obtain⟨hn,h⟩:=sel_none h
  obtain rfl:=oI h
  have hn:=qfr_ hn
  cases hv with
  | slice _ _ _ hs hkb=>subst hk; exact absurd (Nat.div_eq_of_lt hkb) h0
  | @sliceU _ c d m _ o' _ k' es hs hk1 ho hd hm=>
   subst hk
   obtain rfl:=ho.resolve_left (by omega)
   refine⟨c,d,m,k',rfl,hs,hk1,hk1,Nat.le_trans (Nat.add_le_add_left (Nat.mul_le_mul_left k' ?_) _) hm,Nat.mod_lt _ qyi_⟩
   show (big+es) % big≤es
   rw[Nat.add_mod_left]; exact Nat.mod_le _ _
  | @sliceL _ c d m _ _ k' es lb hs hk1 hl hm he=>
   subst hk
   have:bigL es lb / big=1:=h1
   rw[bigL_div he] at this; omega
 ·have h1:=qf4_ h1
  obtain rfl:=oI h
  cases hv with
  | slice _ _ _ hs hkb=>subst hk; exact absurd (Nat.div_eq_of_lt hkb) h0
  | @sliceU _ c d m _ o' _ k' es hs hk1 ho hd hm he=>
   subst hk
   refine absurd ?_ h1
   show (big+es) / big=1
   rw[Nat.add_div_left _ qyi_,Nat.div_eq_of_lt he]
  | @sliceL _ c d m _ _ k' es lb hs hk1 hl hm he=>
   subst hk
   refine⟨c,d,m,k',rfl,hs,hk1,?_,?_,Nat.mod_lt _ qyi_⟩
   ·show bigL es lb / big-2≤k'
    rw[bigL_div he]; omega
   ·show d+o+k' * (bigL es lb % big)≤m
    rw[bigL_mod he]; exact hm
def lowOn:Bool:=false
noncomputable def lowL (x:Value)(hi:Option Value):Bool:=lowOn&&oc (qjp_ x) false fun a=>oc (capL a.2.2.1 a.2.2.2) false fun _=>oc hi false fun h=>oc (natOf h) false fun m=>Nat.blt m a.2.2.1
noncomputable def qyl_ (P:Program)(t:TypeId)(x:Value)(hi:Option Value)(H:AH):VRes:=
 oc (qjp_ x) none fun a=>oc (capL a.2.2.1 a.2.2.2) none fun q=>oc (elemB P t) none fun e=>oc (sizeB P e) none fun s=>oc (bnd hi a.2.2.1) none fun h=>sel (Nat.ble h a.2.2.1) (some (.slice (some ⟨a.1,a.2.1,none⟩) h (bigL q.1 q.2),H)) none
theorem sliceLow_ok {P:Program}{n0:Bs}{σ:Ren}{H H':AH}{w:World}(hr:HR n0 σ H w){t:TypeId}{x x' v:Value}{hi hi':Option Value}(h:qyl_ P t x hi H=some (v,H'))(hx:VR σ x x')(hhi:OR σ hi hi'):GivesP P n0 σ w H (Instr.sliceAt t x' none hi' none) v H':=by
 obtain⟨a,ha,h⟩:=oS h
 obtain⟨q,hq,h⟩:=oS h
 obtain⟨e,he,h⟩:=oS h
 obtain⟨s,hs,h⟩:=oS h
 obtain⟨hh,hhe,h⟩:=oS h
 obtain⟨hb,h⟩:=sel_none h
 obtain⟨rfl,rfl⟩:=pI (oI h)
 clear h
 have hb:=qd1_ hb
 rw[qpk_ ha] at hx
 obtain⟨c,d,m,k',rfl,h1,h2,h3,h4,h5⟩:=capL_vr hq hx
 refine GivesP.pure hr (qff_ (qgn_ he) hs (qiz_ w true (lo:=none) (lo':=none) (σ:=σ) (l:=0) rfl hhe .none hhi (Nat.zero_le _) (Nat.le_trans hb h2))) ?_
 have:=VR.sliceL a.2.1 hh k' q.1 q.2 h1 (by omega) h3 h4 h5
 simpa using this
noncomputable def qsb_ (P:Program)(t:TypeId)(x:Value)(lo hi:Option Value)(H:AH):VRes:=
 oc (winS x) none fun a=>oc (elemB P t) none fun e=>oc (sizeB P e) none fun s=>oc (bnd lo 0) none fun l=>oc (bnd hi a.2.2.1) none fun h=>sel (Nat.ble l h&&Nat.ble h a.2.2.1) (some (.slice (some ⟨a.1,Nat.add a.2.1 (Nat.mul l s),some 1⟩) (Nat.sub h l) (Nat.sub a.2.2.2 l),H)) none
theorem qw4_ {P:Program}{w:World}{t e:TypeId}(hu:P.underlying t=some (.slice e)){s:Nat}(hs:sizeB P e=some s){a:Option Addr}{n k' l h m:Nat}{lo hi mx:Option Value}(hb:(Instr.sliceBounds true n k' lo hi mx).run P w=.ok (l,h,m) w) :
  (Instr.sliceAt t (.slice a n k') lo hi mx).run P w=.ok (.slice (if m=l then a else a.map (·.add (l*s))) (h-l) (m-l)) w:=by
 simp[Instr.sliceAt,Instr.slice,run_underlying hu,Sem.run_bind,hb,qcy_ hs]
theorem sliceWin_ok {P:Program}{n0:Bs}{σ:Ren}{H H':AH}{w:World}(hr:HR n0 σ H w){t:TypeId}{x x' v:Value}{lo lo' hi hi':Option Value}(h:qsb_ P t x lo hi H=some (v,H'))(hx:VR σ x x')(hlo:OR σ lo lo')(hhi:OR σ hi hi') :
  GivesP P n0 σ w H (Instr.sliceAt t x' lo' hi' none) v H':=by
 obtain⟨a,ha,h⟩:=oS h
 obtain⟨e,he,h⟩:=oS h
 obtain⟨s,hs,h⟩:=oS h
 obtain⟨l,hl,h⟩:=oS h
 obtain⟨hh,hhe,h⟩:=oS h
 obtain⟨hb,h⟩:=sel_none h
 obtain⟨rfl,rfl⟩:=pI (oI h)
 clear h
 simp only[bA] at hb
 have b1:=qd1_ hb.1
 have b2:=qd1_ hb.2
 have he:=qgn_ he
 obtain⟨j,o,n,k⟩:=a
 rw[winS_eq ha] at hx
 dsimp only at hx hhe b2 ⊢
 generalize hnn:n=nn at hx
 cases hx with
 | @winS _ b d _ _ _ hj hk hn=>
  subst hnn
  refine GivesP.pure hr (qff_ he hs (qiz_ w true hl hhe hlo hhi b1 (Nat.le_trans b2 hn))) ?_
  show VR σ (.slice (some ⟨j,o+l*s,some 1⟩) (hh-l) (k-l)) _
  by_cases hz:hh-l=0
  ·rw[hz]; exact .win0 _ _ _ _ (by omega)
  ·have:=VR.winS (σ:=σ) (o+l*s) (hh-l) (k-l) hj (by omega) (by omega)
   rw[if_neg (by omega),Nat.add_assoc]
   exact this
 | @winU _ b d _ _ k' _ hj hn hk=>
  subst hnn
  refine GivesP.pure hr (qff_ he hs (qiz_ w true hl hhe hlo hhi b1 (Nat.le_trans b2 hn))) ?_
  show VR σ (.slice (some ⟨j,o+l*s,some 1⟩) (hh-l) (k-l)) _
  by_cases hz:hh-l=0
  ·rw[hz]; exact .winU0 _ _ _ _ _ (by omega)
  ·have:=VR.winU (σ:=σ) (o+l*s) (hh-l) (k' - l) (k-l) hj (by omega) (by omega)
   rw[if_neg (by omega),Nat.add_assoc]
   exact this
 | winU0 _ _ k' _ q hk=>
  subst hnn
  refine GivesP.pure hr (qw4_ he hs (qiz_ w true hl hhe hlo hhi b1 (by omega))) ?_
  have hz:hh-l=0:=by omega
  show VR σ (.slice (some ⟨j,o+l*s,some 1⟩) (hh-l) (k-l)) _
  rw[hz]; exact .winU0 _ _ _ _ _ (by omega)
 | win0 _ _ _ q hk=>
  subst hnn
  refine GivesP.pure hr (qw4_ he hs (qiz_ w true hl hhe hlo hhi b1 (by omega))) ?_
  have hz:hh-l=0:=by omega
  show VR σ (.slice (some ⟨j,o+l*s,some 1⟩) (hh-l) (k-l)) _
  rw[hz]; exact .win0 _ _ _ _ (by omega)
noncomputable def isWin (v:Value):Bool:=oc (winS v) false fun _=>true
noncomputable def qki_ (P:Program)(t:TypeId)(x:Value)(lo hi mx:Option Value)(H:AH):VRes:=
 sel (flat x&&flatO lo&&flatO hi&&flatO mx) (qwj_ P (Instr.sliceAt t x lo hi mx) H) (sel (isAddr x&&isNone mx) (qyj_ P t x lo hi H) (sel (isWin x&&isNone mx) (qsb_ P t x lo hi H) (sel (isNone lo&&isNone mx&&lowL x hi) (qyl_ P t x hi H) (qkw_ P t (weakL x) lo hi mx H))))
theorem slice_ok {P:Program}{n0:Bs}{σ:Ren}{H H':AH}{w:World}(hr:HR n0 σ H w){t:TypeId}{x x' v:Value}{lo lo' hi hi' mx mx':Option Value}(h:qki_ P t x lo hi mx H=some (v,H'))(hx:VR σ x x')(hlo:OR σ lo lo')(hhi:OR σ hi hi')(hmx:OR σ mx mx') :
  GivesP P n0 σ w H (Instr.sliceAt t x' lo' hi' mx') v H':=by
 rcases qa_ h with⟨hf,h⟩ | ⟨_,h⟩
 ·simp only[bA] at hf
  rw[qfs_ hf.1.1.1 hx,qyk_ hf.1.1.2 hlo,qyk_ hf.1.2 hhi,qyk_ hf.2 hmx]
  exact qjo_ hr h
 ·rcases qa_ h with⟨hf,h2⟩ | ⟨_,h⟩
  ·simp only[bA] at hf
   cases hmx with
   | none=>exact sliceArr_ok hr h2 hx hlo hhi
   | some hv=>exact absurd hf.2 Bool.false_ne_true
  ·rcases qa_ h with⟨hf,h2⟩ | ⟨_,h⟩
   ·simp only[bA] at hf
    cases hmx with
    | none=>exact sliceWin_ok hr h2 hx hlo hhi
    | some hv=>exact absurd hf.2 Bool.false_ne_true
   ·rcases qa_ h with⟨hf,hlow⟩ | ⟨_,h⟩
    ·simp only[bA] at hf
     cases hlo with
     | some _=>exact absurd hf.1.1 Bool.false_ne_true
     | none=>
      cases hmx with
      | some _=>exact absurd hf.1.2 Bool.false_ne_true
      | none=>exact sliceLow_ok hr hlow hx hhi
    ·exact sliceSome_ok hr h (weakL_vr hx) hlo hhi hmx (q1d_ x)
end Go.Proofs.YthlikofobjhcoaaGreat.Ax
namespace Go.Proofs.YthlikofobjhcoaaGreat.Ax
open Go.RowKit
variable [Tabs]
def World.at (w:World)(k:Nat):World:={ w with drawn:=k }
theorem q1e_ {P:Program}(w:World){t u ty e:TypeId}{d:TypeDesc}{i:TypeInfo}{z:Value}(ht:P.underlying t=some (.slice e))(hu:P.underlying u=some d)(hd:∀ k,d ≠ .int k)(hi:P.info? e=some i)(hz:i.zero=some z)
  {base:Option Addr} {sLen sCap n:Nat} {x:Value} {new old:List Value} (hlen:(Builtin.lenOf x).run P w=.ok n w) (hnew:∀ k,(Builtin.firstCells i.size n x).run P (World.at w k)=.ok ⟨new⟩ (World.at w k))
  (hold:∀ k,(Builtin.firstCells i.size sLen (.slice base sLen sCap)).run P (World.at w k)=.ok ⟨old⟩ (World.at w k)) (hg:sCap<sLen+n) (h63:sLen+n≤9223372036854775807) (hfit:Builtin.nextslicecap (sLen+n) sCap*i.bytes≤281474976710656) :
  (Builtin.append_ #[t,u] ty #[.slice base sLen sCap,x]).run P w =
   .ok (.slice (some ⟨w.heap.size,0,none⟩) (sLen+n) (grownCap w (sLen+n) sCap e)) (w.drew.alloc (.cells (⟨old⟩ ++ ⟨new⟩ ++ Builtin.zeroCells z.cells (grownCap w (sLen+n) sCap e-(sLen+n))) e)):=by
 have hn:¬ (sLen+n≤sCap):=by omega
 have h63':¬ (9223372036854775807<((sLen:Int)+(n:Int))):=by omega
 have h48':¬ (281474976710656<Builtin.nextslicecap (sLen+n) sCap*i.bytes):=by omega
 have hf:(Builtin.firstCells i.size n x).run P w.drew=.ok ⟨new⟩ w.drew:=hnew (w.drawn+1)
 have hfo:(Builtin.firstCells i.size sLen (.slice base sLen sCap)).run P w.drew=.ok ⟨old⟩ w.drew:=hold (w.drawn+1)
 have hnot:(match d with | .int _=>true | _=>false)=false:=by
  cases d<;>first | rfl | exact absurd rfl (hd _)
 simp[Builtin.append_,run_underlying ht,run_underlying hu,hnot,sizeOf,typeInfo,zeroValue,hi,hz,hlen,hn,h63',h48',Question.forced,hf,hfo,newRow,grownCap]
 congr 2
 apply Array.ext'
 simp
theorem qqi_ {P:Program}(w:World){t u ty e:TypeId}{d:TypeDesc}{i:TypeInfo}(ht:P.underlying t=some (.slice e))(hu:P.underlying u=some d)(hd:∀ k,d ≠ .int k)(hi:P.info? e=some i)
  {base:Option Addr} {sLen sCap n:Nat} {x:Value} {new:List Value} (hlen:(Builtin.lenOf x).run P w=.ok n w) (hnew:(Builtin.firstCells i.size n x).run P w=.ok ⟨new⟩ w) (hg:sLen+n≤sCap) {w':World}
  (hst:∀ a,base=some a→(storeCells (a.add (sLen*i.size)) new).run P w=.ok () w') (hno:base=none→w'=w) :
  (Builtin.append_ #[t,u] ty #[.slice base sLen sCap,x]).run P w=.ok (.slice base (sLen+n) sCap) w':=by
 have hnot:(match d with | .int _=>true | _=>false)=false:=by
  cases d<;>first | rfl | exact absurd rfl (hd _)
 cases base with
 | none=>
  obtain rfl:=hno rfl
  simp[Builtin.append_,run_underlying ht,run_underlying hu,hnot,sizeOf,typeInfo,hi,hlen,hg,hnew]
 | some a=>
  have:=hst a rfl
  simp[Builtin.append_,run_underlying ht,run_underlying hu,hnot,sizeOf,typeInfo,hi,hlen,hg,hnew,this]
theorem qvj_ {P:Program}{c p:Nat}{e:TypeId}:∀ (l:List Value) (i:Nat) (w:World) (C:Array Value),w.heap[c]?=some (.cells C e (0,0))→(∀ v∈l,isCell v=true)→p+i+l.length≤C.size →
  ∃ w' C',(storeCells ⟨c,p,none⟩ l i).run P w=.ok () w'∧w'.heap[c]?=some (.cells C' e (0,0))∧C'.size=C.size∧(∀ j,C'[j]?=if p+i≤j∧j<p+i+l.length then l[j-(p+i)]? else C[j]?) ∧
   (∀ k,k ≠ c→w'.heap[k]?=w.heap[k]?)∧w'.heap.size=w.heap.size∧(∀ k0:Nat,k0≤c→Below k0 w w'):=by
 intro l
 induction l with
 | nil=>
  intro i w C hC _ _
  exact⟨w,C,by simp[storeCells],hC,rfl,fun j=>by rw[if_neg (by simp)],fun _ _=>rfl,rfl,fun _ _=>Below.refl _ _⟩
 | cons v l ih=>
  intro i w C hC hcell hlen
  simp only[List.length_cons] at hlen
  have hlt:p+i<C.size:=by omega
  have h1:w.cell? ⟨c,p+i,none⟩=some C[p+i]:=by rw[qg1_ hC]; simp[hlt]
  have h2:w.frozen? ⟨c,p+i,none⟩=false:=qk5_ hC
  obtain⟨w',C',r1,r2,r3,r4,r5,r6,r7⟩:=ih (i+1) (w.setCell ⟨c,p+i,none⟩ v) (C.setIfInBounds (p+i) v) (qrk_ hC v) (fun u hu=>hcell u (by simp[hu])) (by simp; omega)
  refine⟨w',C',?_,r2,by rw[r3]; simp,fun j=>?_,fun k hk=>?_,?_,fun n0 hn=>?_⟩
  ·simp only[storeCells,qfe_,Sem.run_bind,run_store (hcell v (by simp)) h1 h2,Result.andThen_ok]
   exact r1
  ·rw[r4 j]
   by_cases ha:p+(i+1)≤j∧j<p+(i+1)+l.length
   ·rw[if_pos ha,if_pos (by simp; omega),show j-(p+i)=(j-(p+(i+1)))+1 from by omega]
    simp
   ·rw[if_neg ha]
    by_cases hj:j=p+i
    ·subst hj
     rw[if_pos (by simp)]
     simp[hlt]
    ·rw[if_neg (by simp; omega),Array.getElem?_setIfInBounds_ne (by omega)]
  ·rw[r5 k hk]
   exact Below.heap_setCell w _ v k hk
  ·rw[r6]; simp[World.setCell]
  ·exact ((Below.refl n0 w).setCell hn v).trans (r7 n0 hn)
noncomputable def srcB (P:Program)(H:AH)(s:Nat)(x:Value):Option (Nat×List Value):=
 match x with
 | .slice none n _=>sel (Nat.beq n 0) (some (0,[])) none
 | .slice (some ⟨b,o,none⟩) n _=>oc (qd0_ H b) none fun y=>oc (rdT y.1 (Nat.mul n s) o) none fun l=>some (n,l)
 | .slice (some ⟨j,o,some 1⟩) n _=>sel (Nat.beq n 0) (some (0,[])) (oc (Tabs.win j) none fun y=>oc (rdL y.2.2 (Nat.mul n s) o) none fun l=>some (n,l))
 | .string bs=>sel (Nat.beq s 1) (some (bs.size,bs.data.toList.map fun b=>Value.int .u8 b.toNat)) none
 | _=>none
theorem srcB_ok {P:Program}{n0:Bs}{σ:Ren}{H:AH}{w:World}(hr:HR n0 σ H w){s:Nat}{x x':Value}{r:Nat×List Value}(h:srcB P H s x=some r)(hx:VR σ x x') :
  ∃ new',VRs σ r.2 new'∧r.2.length=r.1*s∧(∀ w₁,(Builtin.lenOf x').run P w₁=.ok r.1 w₁)∧∀ k,(Builtin.firstCells s r.1 x').run P (World.at w k)=.ok ⟨new'⟩ (World.at w k):=by
 unfold srcB at h
 split at h
 ·rename_i n k
  obtain⟨hz,h⟩:=sel_none h
  obtain rfl:=oI h
  have hz:=nB hz
  subst hz
  cases hx
  exact⟨[],.nil,by simp,fun w₁=>by simp[Builtin.lenOf],fun k=>by simp[Builtin.firstCells]⟩
 ·rename_i b o n k
  obtain⟨y,hy,h⟩:=oS h
  obtain⟨l,hl,h⟩:=oS h
  obtain rfl:=oI h
  have hb:=qds_ hy
  have hll:=(qvf_ _ _ _ _ hl).1
  have main:∀ {c d m o' k':Nat},σ b=some (c,d,m)→(n=0∨o'=d+o)→∃ new',VRs σ l new'∧l.length=n*s∧(∀ w₁,(Builtin.lenOf (.slice (some ⟨c,o',none⟩) n k')).run P w₁=.ok n w₁)∧∀ k,(Builtin.firstCells s n (.slice (some ⟨c,o',none⟩) n k')).run P (World.at w k)=.ok ⟨new'⟩ (World.at w k):=by
   intro c d m o' k' hs ho
   by_cases hn:n=0
   ·subst hn
    have hl0:l=[]:=List.length_eq_zero_iff.1 (by rw[hll]; simp)
    subst hl0
    refine⟨[],.nil,by simp,fun w₁=>by simp[Builtin.lenOf],fun k=>?_⟩
    simp[Builtin.firstCells,loadCells,loadCellsFrom]
   ·have ho:=ho.resolve_left hn
    subst ho
    obtain⟨l',h1,h2⟩:=hr.reads hb hs _ _ _ hl
    refine⟨l',h1,hll,fun w₁=>by simp[Builtin.lenOf],fun k=>?_⟩
    have hlen:n*s=l'.length:=by rw[←h1.length,hll]; rfl
    simp only[Builtin.firstCells]
    unfold loadCells
    rw[hlen,qef_ l' 0 #[] fun j v hv=>?_]
    ·simp
    ·have:=h2 j v hv
     rw[show d+o+(0+j)=d+(o+j) from by omega]
     exact this
  cases hx with
  | slice _ _ _ hs hk=>exact main hs (.inr rfl)
  | sliceU _ _ _ _ _ hs hk ho hd hm=>exact main hs ho
  | sliceL _ _ _ _ _ hs=>exact main hs (.inr rfl)
 ·rename_i j o n k
  rcases qa_ h with⟨hz,h⟩ | ⟨_,h⟩
  ·obtain rfl:=oI h
   obtain rfl:=nB hz
   have main:∀ (a:Option Addr) (k':Nat),∃ new',VRs σ [] new'∧([]:List Value).length=0*s∧(∀ w₁,(Builtin.lenOf (.slice a 0 k')).run P w₁=.ok 0 w₁)∧∀ k,(Builtin.firstCells s 0 (.slice a 0 k')).run P (World.at w k)=.ok ⟨new'⟩ (World.at w k):=fun a k'=>by
    refine⟨[],.nil,by simp,fun w₁=>by simp[Builtin.lenOf],fun k=>?_⟩
    cases a with
    | none=>simp[Builtin.firstCells]
    | some a=>simp[Builtin.firstCells,loadCells,loadCellsFrom]
   cases hx<;>exact main _ _
  obtain⟨y,hy,h⟩:=oS h
  obtain⟨l,hl,h⟩:=oS h
  obtain rfl:=oI h
  have hll:=(q0f_ hl).1
  have hlz:l.length=n*s:=hll
  cases hx with
  | @winS _ b0 d0 _ _ _ hj hk hnk=>
   obtain⟨l',hv,h2⟩:=q09_ (P:=P) hr hj hy hl
   exact⟨l',hv,hll,fun w₁=>by simp[Builtin.lenOf],fun k=>h2 k⟩
  | @winU _ b0 d0 _ _ _ _ hj hnk hk=>
   obtain⟨l',hv,h2⟩:=q09_ (P:=P) hr hj hy hl
   exact⟨l',hv,hll,fun w₁=>by simp[Builtin.lenOf],fun k=>h2 k⟩
  | winU0 _ _ _ _ a hk=>
   have hl0:l=[]:=List.length_eq_zero_iff.1 (by rw[hlz]; simp)
   subst hl0
   refine⟨[],.nil,by simp,fun w₁=>by simp[Builtin.lenOf],fun k=>?_⟩
   cases a with
   | none=>simp[Builtin.firstCells]
   | some a=>simp[Builtin.firstCells,loadCells,loadCellsFrom]
  | win0 _ _ _ a hk=>
   have hl0:l=[]:=List.length_eq_zero_iff.1 (by rw[hlz]; simp)
   subst hl0
   refine⟨[],.nil,by simp,fun w₁=>by simp[Builtin.lenOf],fun k=>?_⟩
   cases a with
   | none=>simp[Builtin.firstCells]
   | some a=>simp[Builtin.firstCells,loadCells,loadCellsFrom]
 ·rename_i bs
  obtain⟨hz,h⟩:=sel_none h
  obtain rfl:=oI h
  have hz:=nB hz
  subst hz
  cases hx
  have hfl:flatL (bs.data.toList.map fun b=>Value.int .u8 b.toNat)=true:=by
   generalize bs.data.toList=l
   induction l with
   | nil=>rfl
   | cons b l ih=>simp[flatL,flat,ih]
  refine⟨_,qiw_ hfl σ,by rw[List.length_map,Array.length_toList,Nat.mul_one]; rfl,fun w₁=>by simp[Builtin.lenOf],fun k=>?_⟩
  have e1:bs.extract 0 bs.size=bs:=by simp
  simp[Builtin.firstCells,e1]
  apply Array.ext'
  simp
 ·cases h
end Go.Proofs.YthlikofobjhcoaaGreat.Ax
namespace Go.Proofs.YthlikofobjhcoaaGreat.Ax
open Go.RowKit
variable [Tabs]
noncomputable def AH.grow (H:AH)(b:Nat)(l:List Value)(e:TypeId):AH:=⟨(H.blocks.put b none).set H.next (.cells (layT l) e),Nat.succ H.next,Nat.min H.low b⟩
theorem HR.drew {n0:Bs}{σ:Ren}{H:AH}{w:World}(hr:HR n0 σ H w):HR n0 σ H w.drew:=⟨hr.base,hr.blk,hr.inj,hr.dom,hr.img,hr.hol,hr.frz⟩
theorem Step.of_drew {n0:Bs}{σ σ':Ren}{w w':World}{low:Nat}(h:Step n0 σ w.drew low σ' w'):Step n0 σ w low σ' w':=
 ⟨h.ext,⟨h.below.os,h.below.tape,h.below.output,h.below.size,h.below.block⟩,h.keep,h.kz⟩
theorem Step.drew {n0:Bs}(σ:Ren)(w:World)(low:Nat):Step n0 σ w low σ w.drew:=⟨.refl σ,(Below.refl n0.n.n w).drew,fun _ _ _=>⟨rfl,fun _ _ _ h=>h⟩,fun _ _ _ _ _ h=>h⟩
theorem HR.kill {n0:Bs}{σ:Ren}{H:AH}{w:World}(hr:HR n0 σ H w)(b low:Nat):HR n0 σ ⟨H.blocks.put b none,H.next,low⟩ w:=by
 have get:∀ bb xx,(H.blocks.put b none).get bb=some xx→H.blocks.get bb=some xx:=fun bb xx h=>by
  rw[Tr.get_put] at h
  by_cases e:bb=b
  ·rw[if_pos e] at h; cases h
  ·rw[if_neg e] at h; exact h
 exact⟨hr.base,fun bb x h=>hr.blk bb x (get _ _ h),fun b₁ b₂ x₁ x₂ c d₁ m₁ d₂ m₂ h1 h2=>hr.inj b₁ b₂ x₁ x₂ c d₁ m₁ d₂ m₂ (get _ _ h1) (get _ _ h2),hr.dom,hr.img,hr.hol,hr.frz⟩
theorem HR.growIn {n0:Bs}{σ:Ren}{H:AH}{w:World}(hr:HR n0 σ H w){b:Nat}{cs:Tr Value}{e:TypeId}(hb:H.blocks.get b=some (.cells cs e)){c d m:Nat}(hs:σ b=some (c,d,m)){o':Nat}{l l':List Value}(hl:VRs σ l l')
  {w':World} {C':Array Value} (hC:w'.heap[c]?=some (.cells C' e (0,0))) (hsz:C'.size=m) (hin:∀ i v',l'[i]?=some v'→C'[o' + i]?=some v') (hoth:∀ k,k ≠ c→w'.heap[k]?=w.heap[k]?) (hhs:w'.heap.size=w.heap.size) (hbl:Below n0.n.n w w') :
  HR n0 (σ.put H.next (c,o',m)) (H.grow b l e) w'∧Step n0 σ w (Nat.min H.low b) (σ.put H.next (c,o',m)) w':=by
 have hext:=hr.ext_put (c,o',m)
 have hbn:=hr.notNew hb
 have hcn:n0.n.Own c:=(hr.block hb hs).1
 have gold:∀ bb xx,(H.grow b l e).blocks.get bb=some xx→bb ≠ H.next→bb ≠ b∧H.blocks.get bb=some xx:=fun bb xx h hne=>by
  simp only[AH.grow] at h
  rw[Tr.get_set,if_neg hne,Tr.get_put] at h
  by_cases e:bb=b
  ·rw[if_pos e] at h; cases h
  ·rw[if_neg e] at h; exact⟨e,h⟩
 refine⟨⟨qoq_ hr.base (by rw[hhs]; exact Nat.le_refl _) hbl.block,?_,?_,?_,?_,fun b hb=>⟨Nat.lt_succ_of_lt (hr.hol b hb).1,by rw[Ren.put_other _ _ (Nat.ne_of_lt (hr.hol b hb).1)]; exact (hr.hol b hb).2⟩,hr.frz.putIn hs _ _ rfl (Nat.le_of_eq hhs.symm) hoth⟩,⟨hext,hbl,?_,fun _ _ _ _ _ h=>h⟩⟩
 ·intro bb x hx
  by_cases en:bb=H.next
  ·subst en
   simp only[AH.grow] at hx
   rw[Tr.get_set,if_pos rfl] at hx
   obtain rfl:=oI hx
   refine⟨c,o',m,Ren.put_self _ _ _,hcn,C',hC,hsz,fun i v hv=>?_⟩
   rw[qfu_] at hv
   obtain⟨v',h1,h2⟩:=hl.get i v hv
   exact⟨v',hin i v' h1,h2.mono hext⟩
  ·obtain⟨eb,hx'⟩:=gold bb x hx en
   obtain⟨c₁,d₁,m₁,hs₁,hn₁,hB⟩:=hr.blk bb x hx'
   refine⟨c₁,d₁,m₁,hext _ _ hs₁,hn₁,?_⟩
   have:c₁ ≠ c:=fun ec=>eb (hr.inj bb b x _ c d₁ m₁ d m hx' hb (ec ▸ hs₁) hs)
   rw[hoth c₁ this]
   exact hB.mono hext
 ·intro b₁ b₂ x₁ x₂ c' d₁ m₁ d₂ m₂ h1 h2 s1 s2
  by_cases e1:b₁=H.next
  ·by_cases e2:b₂=H.next
   ·rw[e1,e2]
   ·obtain⟨q1,q2⟩:=gold b₂ x₂ h2 e2
    rw[Ren.put_other _ _ e2] at s2
    subst e1
    rw[Ren.put_self] at s1
    injection s1 with s1
    injection s1 with s1 _
    subst s1
    exact absurd (hr.inj b₂ b _ _ c d₂ m₂ d m q2 hb s2 hs) q1
  ·obtain⟨p1,p2⟩:=gold b₁ x₁ h1 e1
   rw[Ren.put_other _ _ e1] at s1
   by_cases e2:b₂=H.next
   ·subst e2
    rw[Ren.put_self] at s2
    injection s2 with s2
    injection s2 with s2 _
    subst s2
    exact absurd (hr.inj b₁ b _ _ c d₁ m₁ d m p2 hb s1 hs) p1
   ·obtain⟨q1,q2⟩:=gold b₂ x₂ h2 e2
    rw[Ren.put_other _ _ e2] at s2
    exact hr.inj b₁ b₂ x₁ x₂ c' d₁ m₁ d₂ m₂ p2 q2 s1 s2
 ·intro bb t hbt
  by_cases en:bb=H.next
  ·subst en; exact Nat.lt_succ_self _
  ·rw[Ren.put_other _ _ en] at hbt
   exact Nat.lt_succ_of_lt (hr.dom bb t hbt)
 ·intro bb c' d' m' hbt
  rw[hhs]
  by_cases en:bb=H.next
  ·subst en
   rw[Ren.put_self] at hbt
   injection hbt with hbt
   injection hbt with hbt _
   subst hbt
   exact hr.img b c d m hs
  ·rw[Ren.put_other _ _ en] at hbt
   exact hr.img bb c' d' m' hbt
 ·intro c' hc' hlow
  have hne:c' ≠ c:=fun ec=>by
   subst ec
   rcases hlow with hq | hlow
   ·exact hcn.2 hq
   ·exact absurd (hlow b d m hs) (Nat.not_lt.2 (Nat.min_le_right _ _))
  refine⟨hoth c' hne,fun bb d' m' hbt=>?_⟩
  by_cases en:bb=H.next
  ·subst en
   rw[Ren.put_self] at hbt
   injection hbt with hbt
   injection hbt with hbt _
   exact absurd hbt.symm hne
  ·rwa [Ren.put_other _ _ en] at hbt
theorem HR.growOut {n0:Bs}{σ:Ren}{H:AH}{w:World}(hr:HR n0 σ H w)(b:Nat){l:List Value}{e:TypeId}{σ':Ren}{w':World}(h:HR n0 σ' ((⟨H.blocks.put b none,H.next,H.low⟩:AH).push (.cells (layT l) e)) w'):HR n0 σ' (H.grow b l e) w':=
 h.congr (fun _=>rfl) rfl
def notInt (d:TypeDesc):Bool:=
 match d with
 | .int _=>false
 | _=>true
theorem notInt_ne {d:TypeDesc}(h:notInt d=true)(k:IntKind):d ≠ .int k:=fun e=>by subst e; cases h
theorem qvk_ {P:Program}{e:TypeId}{z:List Value}(hz:zeroB P e=some z):∃ i zv,P.info? e=some i∧i.zero=some zv∧zv.cells=⟨z⟩∧flatL z=true:=by
 obtain⟨i,hi,h⟩:=oS hz
 obtain⟨zv,hzv,h⟩:=oS h
 obtain⟨hf,h⟩:=sel_none h
 obtain rfl:=oI h
 exact⟨i,zv,hi,hzv,by rw[←qxz_],hf⟩
theorem qpl_ (w:World)(need old:Nat)(e:TypeId):need≤grownCap w need old e:=by
 unfold grownCap Question.cut
 exact Nat.le_add_right _ _
theorem qym_ {n0:Bs}{σ:Ren}{H:AH}{w:World}(hr:HR n0 σ H w){l l':List Value}(hl:VRs σ l l')(e:TypeId)(rest:Array Value)(m:Nat)(hm:m=l'.length+rest.size) :
  HR n0 (σ.put H.next (w.heap.size,0,m)) (H.push (.cells (layT l) e)) (w.alloc (.cells (⟨l'⟩ ++ rest) e))∧Step n0 σ w H.low (σ.put H.next (w.heap.size,0,m)) (w.alloc (.cells (⟨l'⟩ ++ rest) e)):=by
 refine hr.alloc ⟨⟨l'⟩ ++ rest,rfl,by simp[hm],fun i v hv=>?_⟩
 rw[qfu_] at hv
 obtain⟨v',h1,h2⟩:=hl.get i v hv
 have hlt:i<l'.length:=by
  rcases Nat.lt_or_ge i l'.length with h | h
  ·exact h
  ·rw[List.getElem?_eq_none h] at h1; cases h1
 refine⟨v',?_,h2.mono (hr.ext_put _)⟩
 rw[Nat.zero_add,Array.getElem?_append_left (by simpa using hlt)]
 simpa using h1
noncomputable def appNil (H:AH)(s e bs:Nat)(r:Nat×List Value)(n k:Nat):VRes:=
 sel (Nat.beq n 0&&Nat.beq k 0) (sel (Nat.beq r.1 0) (some (.slice none 0 0,H)) (sel (fits r.1 bs) (some (.slice (some ⟨H.next,0,none⟩) r.1 (Nat.add big s),H.push (.cells (layT r.2) e))) none)) none
noncomputable def qw5_ (H:AH)(s e bs:Nat)(r:Nat×List Value)(b o n k:Nat)(y:Tr Value×TypeId):VRes:=
 oc (rdT y.1 (Nat.mul n s) o) none fun old=>
  sel (Nat.blt k big)
   (sel (Nat.ble (Nat.add n r.1) k) (oc (storeB H b (Nat.add o (Nat.mul n s)) r.2) none fun H'=>some (.slice (some ⟨b,o,none⟩) (Nat.add n r.1) k,H'))
    (sel (fits (Nat.add n r.1) bs) (some (.slice (some ⟨H.next,0,none⟩) (Nat.add n r.1) (Nat.add big s),H.push (.cells (layT (old++r.2)) e))) none))
   (sel (Nat.beq k (Nat.add big s)&&Nat.beq y.2 e&&fits (Nat.add n r.1) bs&&qbn_ r.2&&qbn_ old) (some (.slice (some ⟨H.next,0,none⟩) (Nat.add n r.1) (Nat.add big s),H.grow b (old++r.2) e)) none)
noncomputable def appGo (H:AH)(s e bs:Nat)(r:Nat×List Value)(v:Value):VRes:=
 match v with
 | .slice none n k=>appNil H s e bs r n k
 | .slice (some ⟨b,o,none⟩) n k=>sel (Nat.beq r.1 0) (sel (Nat.ble n k) (some (.slice (some ⟨b,o,none⟩) n k,H)) none) (oc (qd0_ H b) none fun y=>qw5_ H s e bs r b o n k y)
 | .slice (some ⟨_,_,some 1⟩) n k=>sel (Nat.beq r.1 0) none (appNil H s e bs r n k)
 | _=>none
noncomputable def appLow (H:AH)(s:Nat)(r:Nat×List Value)(a:Nat×Nat×Nat×Nat)(q:Nat×Nat):VRes:=
 oc (storeB H a.1 (Nat.add a.2.1 (Nat.mul a.2.2.1 s)) r.2) none fun H'=>some (.slice (some ⟨a.1,a.2.1,none⟩) (Nat.add a.2.2.1 r.1) (bigL q.1 q.2),H')
noncomputable def roomL (s:Nat)(r:Nat×List Value)(v:Value):Option ((Nat×Nat×Nat×Nat)×(Nat×Nat)):=
 oc (qjp_ v) none fun a=>oc (capL a.2.2.1 a.2.2.2) none fun q=>sel (Nat.ble (Nat.add a.2.2.1 r.1) q.2&&Nat.blt 0 r.1) (some (a,q)) none
noncomputable def q1f_ (H:AH)(s e bs:Nat)(r:Nat×List Value)(v:Value):VRes:=
 oc (roomL s r v) (appGo H s e bs r (weakL v)) fun p=>appLow H s r p.1 p.2
noncomputable def qvl_ (P:Program)(t u:TypeId)(s x:Value)(H:AH):VRes:=
 oc (elemB P t) none fun e=>oc (P.underlying u) none fun d=>oc (zeroB P e) none fun z=>oc (sizeB P e) none fun sz=>oc (qxn_ P e) none fun bs=>
  sel (notInt d&&Nat.beq z.length sz&&Nat.blt sz big) (oc (srcB P H sz x) none fun r=>q1f_ H sz e bs r s) none
theorem isCells_of {σ:Ren}{l l':List Value}(h:VRs σ l l')(hc:qbn_ l=true):∀ v∈l',isCell v=true:=by
 induction h with
 | nil=>intro v hv; cases hv
 | cons hv _ ih=>
  simp only[qbn_,bA] at hc
  intro u hu
  cases hu with
  | head=>exact isCell_vr hv hc.1
  | tail _ hu=>exact ih hc.2 u hu
theorem stored_all {w:World}{c o' p:Nat}{C C':Array Value}{e:TypeId}{f:Nat×Nat}{old' new':List Value}(q1:w.heap[c]?=some (.cells C e f))(s4:∀ j,C'[j]?=if p≤j∧j<p+new'.length then new'[j-p]? else C[j]?)
  (hoc:∀ j v',old'[j]?=some v'→w.cell? ⟨c,o' + j,none⟩=some v') (hp:p=o' + old'.length) (hle:o'≤p):∀ j v',(old' ++ new')[j]?=some v'→C'[o' + j]?=some v':=by
 intro j v' hj
 rw[s4]
 by_cases hj2:j<old'.length
 ·rw[List.getElem?_append_left hj2] at hj
  rw[if_neg (by omega)]
  have:=hoc j v' hj
  rwa [qg1_ q1] at this
 ·rw[List.getElem?_append_right (by omega)] at hj
  have hjl:j-old'.length<new'.length:=by
   rcases Nat.lt_or_ge (j-old'.length) new'.length with h | h
   ·exact h
   ·rw[List.getElem?_eq_none h] at hj; cases hj
  rw[if_pos (by omega),show o' + j-p=j-old'.length from by omega]
  exact hj
theorem grown_vr {σ:Ren}{nx c o' m need k' es b d:Nat}(hσ:σ b=some (c,d,m))(hk:need≤k')(hm:o' + k' * es≤m)(he:es<big):VR (σ.put nx (c,o',m)) (.slice (some ⟨nx,0,none⟩) need (Nat.add big es)) (.slice (some ⟨c,o',none⟩) need k'):=
 VR.sliceU 0 o' need k' es (Ren.put_self σ nx (c,o',m)) hk (.inr rfl) (Nat.le_refl _) hm he
set_option maxHeartbeats 1000000 in
theorem appGo_ok {P:Program}{n0:Bs}{σ:Ren}{H H':AH}{w:World}(hr:HR n0 σ H w){t u ty e:TypeId}{d:TypeDesc}{i:TypeInfo}{z:List Value}{zv:Value}{r:Nat×List Value}{new':List Value}{s s' x' v:Value}
  (he:P.underlying t=some (.slice e)) (hd:P.underlying u=some d) (hni:∀ k,d ≠ .int k) (hi:P.info? e=some i) (hiz:i.zero=some zv) (hzc:zv.cells=⟨z⟩) (hzl:z.length=i.size)
  (hnew:VRs σ r.2 new') (hnl':new'.length=r.1*i.size) (hlen:(Builtin.lenOf x').run P w=.ok r.1 w) (hfc:∀ k,(Builtin.firstCells i.size r.1 x').run P (World.at w k)=.ok ⟨new'⟩ (World.at w k))
  (hfc0:(Builtin.firstCells i.size r.1 x').run P w=.ok ⟨new'⟩ w) (hs:VR σ s s') (hnl:notL s=true) (hszb:i.size<big) (h:appGo H i.size e i.bytes r s=some (v,H')) :
  Gives P n0 σ w (Builtin.append_ #[t,u] ty #[s',x']) v H':=by
 unfold appGo at h
 split at h
 case h_4=>cases h
 case h_3 bb oo n k=>
  rcases qa_ h with⟨_,h⟩ | ⟨hr0,h⟩
  ·cases h
  unfold appNil at h
  obtain⟨hz0,h1⟩:=sel_none h
  clear h
  simp only[bA] at hz0
  obtain rfl:=nB hz0.1
  obtain rfl:=nB hz0.2
  rw[hr0,sel_false] at h1
  have hr0:=qf4_ hr0
  have hbig:0<big:=by decide
  obtain⟨base,rfl⟩:∃ base,s'=.slice base 0 0:=by
   cases hs with
   | winS o n k hw hk hn=>exact⟨_,rfl⟩
   | winU o n k kk hw hn hk=>exact absurd hk (by omega)
   | winU0 j o k kk a hk=>exact absurd hk (by omega)
   | win0 j o k a hk=>exact⟨a,rfl⟩
  obtain⟨hf,h3⟩:=sel_none h1
  obtain⟨rfl,rfl⟩:=pI (oI h3)
  simp only[fits,bA] at hf
  have f1:r.1*i.bytes≤140737488355328:=qd1_ hf.1
  have f2:=qd1_ hf.2
  have hold:∀ k,(Builtin.firstCells i.size 0 (.slice base 0 0)).run P (World.at w k)=.ok ⟨[]⟩ (World.at w k):=fun k=>by
   cases base with
   | none=>simp[Builtin.firstCells]
   | some a=>rw[show Builtin.firstCells i.size 0 (.slice (some a) 0 0)=loadCells a (0*i.size) from rfl,Nat.zero_mul]; rfl
  have run:=q1e_ (ty:=ty) w he hd hni hi hiz (base:=base) (sLen:=0) (sCap:=0) hlen hfc hold (by omega) (by omega) (growslice_fits (by omega) (by rw[Nat.zero_add]; exact f1))
  have hg:=qpl_ w (0+r.1) 0 e
  generalize hG:grownCap w (0+r.1) 0 e=G at run hg
  have hzs:(Builtin.zeroCells zv.cells (G-(0+r.1))).size=(G-(0+r.1))*i.size:=by simp[Builtin.zeroCells,hzc,hzl]
  have hm:new'.length+(Builtin.zeroCells zv.cells (G-(0+r.1))).size=G*i.size:=by
   rw[hzs,hnl',←Nat.add_mul]; congr 1; omega
  obtain⟨h1,h2⟩:=qym_ hr.drew hnew e (Builtin.zeroCells zv.cells (G-(0+r.1))) _ hm.symm
  refine⟨.slice (some ⟨w.heap.size,0,none⟩) (0+r.1) G,_,_,?_,?_,h1,h2.of_drew⟩
  ·rw[run]; simp
  ·have:=VR.sliceU (σ:=σ.put H.next (w.drew.heap.size,0,G*i.size)) 0 0 r.1 G i.size (Ren.put_self _ _ _) (by omega) (.inr rfl) (Nat.le_refl _) (by omega) hszb
   simpa using this
 case h_1 n k=>
  cases hs
  unfold appNil at h
  obtain⟨hz0,h1⟩:=sel_none h
  clear h
  simp only[bA] at hz0
  obtain rfl:=nB hz0.1
  obtain rfl:=nB hz0.2
  rcases qa_ h1 with⟨hr0,h2⟩ | ⟨hr0,h2⟩
  ·have hr0:=nB hr0
   obtain⟨rfl,rfl⟩:=pI (oI h2)
   have:=qqi_ (ty:=ty) w he hd hni hi (base:=none) (sLen:=0) (sCap:=0) hlen hfc0 (by omega) (w':=w) (fun a ha=>by cases ha) (fun _=>rfl)
   exact Gives.pure hr (by rw[this,hr0]) (.slice0 0 0)
  ·have hr0:=qf4_ hr0
   obtain⟨hf,h3⟩:=sel_none h2
   obtain⟨rfl,rfl⟩:=pI (oI h3)
   simp only[fits,bA] at hf
   have f1:r.1*i.bytes≤140737488355328:=qd1_ hf.1
   have f2:=qd1_ hf.2
   have hold:∀ k,(Builtin.firstCells i.size 0 (.slice none 0 0)).run P (World.at w k)=.ok ⟨[]⟩ (World.at w k):=fun k=>by simp[Builtin.firstCells]
   have run:=q1e_ (ty:=ty) w he hd hni hi hiz (base:=none) (sLen:=0) (sCap:=0) hlen hfc hold (by omega) (by omega) (growslice_fits (by omega) (by rw[Nat.zero_add]; exact f1))
   have hg:=qpl_ w (0+r.1) 0 e
   generalize hG:grownCap w (0+r.1) 0 e=G at run hg
   have hzs:(Builtin.zeroCells zv.cells (G-(0+r.1))).size=(G-(0+r.1))*i.size:=by simp[Builtin.zeroCells,hzc,hzl]
   have hm:new'.length+(Builtin.zeroCells zv.cells (G-(0+r.1))).size=G*i.size:=by
    rw[hzs,hnl',←Nat.add_mul]; congr 1; omega
   obtain⟨h1,h2⟩:=qym_ hr.drew hnew e (Builtin.zeroCells zv.cells (G-(0+r.1))) _ hm.symm
   refine⟨.slice (some ⟨w.heap.size,0,none⟩) (0+r.1) G,_,_,?_,?_,h1,h2.of_drew⟩
   ·rw[run]; simp
   ·have:=VR.sliceU (σ:=σ.put H.next (w.drew.heap.size,0,G*i.size)) 0 0 r.1 G i.size (Ren.put_self _ _ _) (by omega) (.inr rfl) (Nat.le_refl _) (by omega) hszb
    simpa using this
 case h_2 b o n k=>
  rcases qa_ h with⟨hr0,h⟩ | ⟨hr0,h⟩
  ·have hr0:=nB hr0
   obtain⟨hnk,h⟩:=sel_none h
   obtain⟨rfl,rfl⟩:=pI (oI h)
   have hnk:=qd1_ hnk
   have hn0:new'=[]:=List.length_eq_zero_iff.1 (by rw[hnl',hr0]; simp)
   have fin:∀ (c p k':Nat),n≤k'→VR σ (.slice (some ⟨b,o,none⟩) n k) (.slice (some ⟨c,p,none⟩) n k')→Gives P n0 σ w (Builtin.append_ #[t,u] ty #[.slice (some ⟨c,p,none⟩) n k',x']) (.slice (some ⟨b,o,none⟩) n k) H:=by
    intro c p k' hk' hv
    have:=qqi_ (ty:=ty) w he hd hni hi (base:=some ⟨c,p,none⟩) (sLen:=n) (sCap:=k') hlen hfc0 (by omega) (w':=w) (fun a ha=>by rw[hn0]; simp[storeCells]) (fun h=>by cases h)
    exact Gives.pure hr (by rw[this,hr0]; rfl) hv
   generalize hkk:k=kk at hs
   cases hs with
   | @slice _ c d m _ _ _ hσ hk hn9=>subst hkk; exact fin c _ k hnk (.slice o n k hσ hk hn9)
   | @sliceU _ c d m _ o' _ k' es hσ hk ho hdd hm hes=>subst hkk; exact fin c o' k' hk (.sliceU o o' n k' es hσ hk ho hdd hm hes)
   | @sliceL _ c d m _ _ k' es lb hσ hk hl hm hes=>subst hkk; rw[notL_L hes] at hnl; cases hnl
  ·have hr0:=qf4_ hr0
   obtain⟨y,hy,h⟩:=oS h
   have hyb:=qds_ hy
   unfold qw5_ at h
   obtain⟨old,hold,h⟩:=oS h
   have holdl:=(qvf_ _ _ _ _ hold).1
   have hfirst:∀ {c d m o' k':Nat},σ b=some (c,d,m)→(n=0∨o'=d+o)→∃ old',VRs σ old old'∧(∀ j v',old'[j]?=some v'→w.cell? ⟨c,o' + j,none⟩=some v')∧∀ k,(Builtin.firstCells i.size n (.slice (some ⟨c,o',none⟩) n k')).run P (World.at w k)=.ok ⟨old'⟩ (World.at w k):=by
    intro c d m o' k' hσ ho
    by_cases hn:n=0
    ·subst hn
     have hl0:old=[]:=List.length_eq_zero_iff.1 (by rw[holdl]; simp)
     subst hl0
     refine⟨[],.nil,fun j v' hj=>by simp at hj,fun k=>?_⟩
     rw[show Builtin.firstCells i.size 0 (.slice (some ⟨c,o',none⟩) 0 k')=loadCells ⟨c,o',none⟩ (0*i.size) from rfl,Nat.zero_mul]; rfl
    ·have ho:=ho.resolve_left hn
     subst ho
     obtain⟨l',h1,h2⟩:=hr.reads hyb hσ _ _ _ hold
     refine⟨l',h1,fun j v' hj=>?_,fun k=>?_⟩
     ·have:=h2 j v' hj; rwa [Nat.add_assoc]
     ·have hlen:n*i.size=l'.length:=by rw[←h1.length,holdl]; rfl
      simp only[Builtin.firstCells]
      unfold loadCells
      rw[hlen,qef_ l' 0 #[] fun j v hv=>?_]
      ·simp
      ·have:=h2 j v hv
       rw[show d+o+(0+j)=d+(o+j) from by omega]
       exact this
   have grows:∀ {σ₀:Ren} {H₀:AH} (hr₀:HR n0 σ H₀ w) {c d m o' k':Nat},σ b=some (c,d,m)→(n=0∨o'=d+o)→k' < n+r.1→fits (Nat.add n r.1) i.bytes=true →
     ∃ v' σ' w',(Builtin.append_ #[t,u] ty #[.slice (some ⟨c,o',none⟩) n k',x']).run P w=.ok v' w'∧VR σ' (.slice (some ⟨H₀.next,0,none⟩) (Nat.add n r.1) (Nat.add big i.size)) v'∧HR n0 σ' (H₀.push (.cells (layT (old++r.2)) e)) w'∧Step n0 σ w H₀.low σ' w':=by
    intro σ₀ H₀ hr₀ c d m o' k' hσ ho hk' hf
    simp only[fits,bA] at hf
    have f1:(n+r.1)*i.bytes≤140737488355328:=qd1_ hf.1
    have f2:n+r.1≤9223372036854775807:=qd1_ hf.2
    obtain⟨old',hov,_,hof⟩:=hfirst (k':=k') hσ ho
    have run:=q1e_ (ty:=ty) w he hd hni hi hiz (base:=some ⟨c,o',none⟩) (sLen:=n) (sCap:=k') hlen hfc hof hk' f2 (growslice_fits hk' f1)
    have hg:=qpl_ w (n+r.1) k' e
    generalize hG:grownCap w (n+r.1) k' e=G at run hg
    have hzs:(Builtin.zeroCells zv.cells (G-(n+r.1))).size=(G-(n+r.1))*i.size:=by simp[Builtin.zeroCells,hzc,hzl]
    have hol':old'.length=n*i.size:=by rw[←hov.length,holdl]; rfl
    have hm:(old' ++ new').length+(Builtin.zeroCells zv.cells (G-(n+r.1))).size=G*i.size:=by
     rw[hzs,List.length_append,hol',hnl',←Nat.add_mul,←Nat.add_mul]; congr 1; omega
    obtain⟨h1,h2⟩:=qym_ hr₀.drew (hov.append hnew) e (Builtin.zeroCells zv.cells (G-(n+r.1))) _ hm.symm
    refine⟨.slice (some ⟨w.heap.size,0,none⟩) (n+r.1) G,_,_,?_,?_,h1,h2.of_drew⟩
    ·rw[run]; simp
    ·have:=VR.sliceU (σ:=σ.put H₀.next (w.drew.heap.size,0,G*i.size)) 0 0 (n+r.1) G i.size (Ren.put_self _ _ _) hg (.inr rfl) (Nat.le_refl _) (by omega) hszb
     simpa using this
   rcases qa_ h with⟨hkb,h⟩ | ⟨hkb,h⟩
   ·have hkb:=qfr_ hkb
    generalize hkk:k=kk at hs
    cases hs with
    | @sliceU _ c d m _ o' _ k' es hσ hk ho hdd hm=>subst hkk; omega
    | @sliceL _ c d m _ _ k' es lb hσ hk hl hm hes=>subst hkk; rw[notL_L hes] at hnl; cases hnl
    | @slice _ c d m _ _ _ hσ hk _=>
     subst hkk
     rcases qa_ h with⟨hroom,h⟩ | ⟨hroom,h⟩
     ·have hroom:n+r.1≤k:=qd1_ hroom
      obtain⟨H₁,hst,h⟩:=oS h
      obtain⟨rfl,rfl⟩:=pI (oI h)
      obtain⟨σ',w',q1,q2,q3⟩:=qxy_ (P:=P) hr hst hnew hσ (o':=d+o+n*i.size) (i:=0) (by show d+o+n*i.size+0=d+(o+n*i.size); omega)
      have run:=qqi_ (ty:=ty) w he hd hni hi (base:=some ⟨c,d+o,none⟩) (sLen:=n) (sCap:=k) hlen hfc0 hroom (w':=w') (fun a ha=>by
       obtain rfl:=oI ha
       rw[qfe_]; exact q1) (fun h=>by cases h)
      exact⟨_,σ',w',run,VR.slice o (n+r.1) k (q3.ext _ _ hσ) hk hroom,q2,q3⟩
     ·obtain⟨hf,h⟩:=sel_none h
      obtain⟨rfl,rfl⟩:=pI (oI h)
      have hroom:k<n+r.1:=by
       rcases Nat.lt_or_ge k (n+r.1) with h | h
       ·exact h
       ·have:Nat.ble (Nat.add n r.1) k=true:=Nat.ble_eq_true_of_le h
        rw[this] at hroom; cases hroom
      exact grows (σ₀:=σ) hr hσ (.inr rfl) hroom hf
   ·obtain⟨hc,h⟩:=sel_none h
    obtain⟨rfl,rfl⟩:=pI (oI h)
    simp only[bA] at hc
    obtain⟨⟨⟨⟨hc1,hc2⟩,hc3⟩,hc4⟩,hc5⟩:=hc
    have hc1:=nB hc1
    have hc2:=nB hc2
    generalize hkk:k=kk at hs
    cases hs with
    | @slice _ c d m _ _ _ hσ hk _=>subst hkk; rw[hc1] at hk; exact absurd hk (Nat.not_lt.2 (Nat.le_add_right _ _))
    | @sliceL _ c d m _ _ k' es lb hσ hk hl hm hes=>subst hkk; rw[notL_L hes] at hnl; cases hnl
    | @sliceU _ c d m _ o' _ k' es hσ hk ho hdd hm hes=>
     obtain rfl:es=i.size:=(by have q:Nat.add big i.size=big+i.size:=rfl; omega)
     by_cases hroom:n+r.1≤k'
     ·obtain⟨old',hov,hoc,hof⟩:=hfirst (k':=k') hσ ho
      obtain⟨hcn,C,q1,q2,q3⟩:=hr.block hyb hσ
      have e1:(n+r.1)*i.size≤k' * i.size:=Nat.mul_le_mul_right _ hroom
      have e2:(n+r.1)*i.size=n*i.size+r.1*i.size:=Nat.add_mul _ _ _
      have hol':old'.length=n*i.size:=by rw[←hov.length,holdl]; rfl
      obtain⟨w',C',s1,s2,s3,s4,s5,s6,s7⟩:=qvj_ (P:=P) (c:=c) (p:=o' + n*i.size) new' 0 w C q1 (isCells_of hnew hc4) (by omega)
      have run:=qqi_ (ty:=ty) w he hd hni hi (base:=some ⟨c,o',none⟩) (sLen:=n) (sCap:=k') hlen hfc0 hroom (w':=w') (fun a ha=>by
       obtain rfl:=oI ha
       rw[qfe_]; exact s1) (fun h=>by cases h)
      have hin:∀ j v',(old' ++ new')[j]?=some v'→C'[o' + j]?=some v':=stored_all q1 s4 hoc (by omega) (by omega)
      obtain⟨g1,g2⟩:=hr.growIn (b:=b) hyb hσ (o':=o') (hov.append hnew) (w':=w') (C':=C') s2 (by rw[s3,q2]) hin s5 s6 (s7 n0.n.n hcn.1)
      rw[hc2] at g1
      exact⟨_,_,w',run,grown_vr hσ hroom hm hszb,g1,g2⟩
     ·obtain⟨v',σ',w',p1,p2,p3,p4⟩:=grows (σ₀:=σ) (hr.kill b H.low) (k':=k') hσ ho (Nat.lt_of_not_le hroom) hc3
      exact⟨v',σ',w',p1,p2,HR.growOut hr b p3,p4.lower (Nat.min_le_left _ _)⟩
theorem append_ok {P:Program}{n0:Bs}{σ:Ren}{H H':AH}{w:World}(hr:HR n0 σ H w){t u ty:TypeId}{s s' x x' v:Value}(h:qvl_ P t u s x H=some (v,H'))(hs:VR σ s s')(hx:VR σ x x') :
  Gives P n0 σ w (Builtin.append_ #[t,u] ty #[s',x']) v H':=by
 obtain⟨e,he,h⟩:=oS h
 obtain⟨d,hd,h⟩:=oS h
 obtain⟨z,hz,h⟩:=oS h
 obtain⟨sz,hsz,h⟩:=oS h
 obtain⟨bs,hbs,h⟩:=oS h
 obtain⟨hb,h⟩:=sel_none h
 obtain⟨r,hsrc,h⟩:=oS h
 simp only[bA] at hb
 have hni:=notInt_ne hb.1.1
 have hzl:=nB hb.1.2
 have hszb:=qfr_ hb.2
 have he:=qgn_ he
 obtain⟨i,zv,hi,hiz,hzc,hzf⟩:=qvk_ hz
 obtain rfl:i.size=sz:=by
  obtain⟨i',hi',q⟩:=oS hsz
  rw[hi] at hi'
  obtain rfl:=oI hi'
  exact oI q
 obtain rfl:i.bytes=bs:=by
  obtain⟨i',hi',q⟩:=oS hbs
  rw[hi] at hi'
  obtain rfl:=oI hi'
  exact oI q
 obtain⟨new',hnew,hnl,hlen,hfc⟩:=srcB_ok (P:=P) hr hsrc hx
 have hlen:=hlen w
 have hfc0:(Builtin.firstCells i.size r.1 x').run P w=.ok ⟨new'⟩ w:=hfc w.drawn
 have hnl':new'.length=r.1*i.size:=by rw[←hnew.length]; exact hnl
 unfold q1f_ at h
 cases hro:roomL i.size r s with
 | none=>rw[hro] at h; exact appGo_ok hr he hd hni hi hiz hzc hzl hnew hnl' hlen hfc hfc0 (weakL_vr hs) (q1d_ s) hszb h
 | some p=>
  rw[hro] at h
  obtain⟨a,ha,hro⟩:=oS hro
  obtain⟨q,hq,hro⟩:=oS hro
  obtain⟨hb,hro⟩:=sel_none hro
  obtain rfl:=oI hro
  simp only[bA] at hb
  have hroom:a.2.2.1+r.1≤q.2:=qd1_ hb.1
  rw[qpk_ ha] at hs
  obtain⟨c,d',m,k',rfl,h1,h2,h3,h4,h5⟩:=capL_vr hq hs
  obtain⟨H₁,hst,h⟩:=oS h
  obtain⟨rfl,rfl⟩:=pI (oI h)
  obtain⟨σ',w',q1,q2,q3⟩:=qxy_ (P:=P) hr hst hnew h1 (o':=d' + a.2.1+a.2.2.1*i.size) (i:=0) (by show d' + a.2.1+a.2.2.1*i.size+0=d' + (a.2.1+a.2.2.1*i.size); omega)
  have run:=qqi_ (ty:=ty) w he hd hni hi (base:=some ⟨c,d' + a.2.1,none⟩) (sLen:=a.2.2.1) (sCap:=k') hlen hfc0 (by omega) (w':=w') (fun x hx=>by
   obtain rfl:=oI hx
   rw[qfe_]; exact q1) (fun h=>by cases h)
  exact⟨_,σ',w',run,VR.sliceL a.2.1 (a.2.2.1+r.1) k' q.1 q.2 (q3.ext _ _ h1) (by omega) h3 h4 h5,q2,q3⟩
end Go.Proofs.YthlikofobjhcoaaGreat.Ax
namespace Go.Proofs.YthlikofobjhcoaaGreat.Ax
open Go.RowKit
variable [Tabs]
def lenOfV (v:Value):Option (Nat×Nat):=
 match v with
 | .slice _ n k=>some (n,k)
 | _=>none
noncomputable def opLen (P:Program)(t:TypeId)(x:Value)(H:AH):VRes:=oc (lenOfV x) none fun n=>oc (elemB P t) none fun _=>some (.int .i64 (n.1:Nat),H)
theorem len_ok {P:Program}{n0:Bs}{σ:Ren}{H H':AH}{w:World}(hr:HR n0 σ H w){t ty:TypeId}{ts:Array TypeId}(hts:ts[0]?=some t){x x' v:Value}(h:opLen P t x H=some (v,H'))(hx:VR σ x x'):GivesP P n0 σ w H (Builtin.len_ ts ty #[x']) v H':=by
 obtain⟨n,hn,h⟩:=oS h
 obtain⟨e,he,h⟩:=oS h
 obtain⟨rfl,rfl⟩:=pI (oI h)
 have he:=qgn_ he
 unfold lenOfV at hn
 split at hn
 ·obtain rfl:=oI hn
  refine GivesP.pure hr ?_ (.int _ _)
  cases hx<;>simp[Builtin.len_,hts,run_underlying he,goInt]
 ·cases hn
noncomputable def opCap (P:Program)(t:TypeId)(x:Value)(H:AH):VRes:=oc (lenOfV x) none fun n=>oc (elemB P t) none fun _=>sel (Nat.blt n.2 big) (some (.int .i64 (n.2:Nat),H)) none
theorem cap_ok {P:Program}{n0:Bs}{σ:Ren}{H H':AH}{w:World}(hr:HR n0 σ H w){t ty:TypeId}{ts:Array TypeId}(hts:ts[0]?=some t){x x' v:Value}(h:opCap P t x H=some (v,H'))(hx:VR σ x x'):GivesP P n0 σ w H (Builtin.cap_ ts ty #[x']) v H':=by
 obtain⟨n,hn,h⟩:=oS h
 obtain⟨e,he,h⟩:=oS h
 obtain⟨hb,h⟩:=sel_none h
 obtain⟨rfl,rfl⟩:=pI (oI h)
 have he:=qgn_ he
 have hb:=qfr_ hb
 unfold lenOfV at hn
 split at hn
 ·obtain rfl:=oI hn
  refine GivesP.pure hr ?_ (.int _ _)
  rename_i a n k
  simp only at hb
  generalize hkk:k=kk at hx
  cases hx with
  | slice0=>subst hkk; simp[Builtin.cap_,hts,run_underlying he,goInt]
  | slice=>subst hkk; simp[Builtin.cap_,hts,run_underlying he,goInt]
  | winS=>subst hkk; simp[Builtin.cap_,hts,run_underlying he,goInt]
  | winU _ _ _ _ _ _ hk=>subst hkk; omega
  | winU0 _ _ _ _ _ hk=>subst hkk; omega
  | win0=>subst hkk; simp[Builtin.cap_,hts,run_underlying he,goInt]
  | sliceU=>subst hkk; omega
  | sliceL _ _ _ es lb=>subst hkk; have:=bigL_ge es lb; omega
 ·cases hn
noncomputable def firstB (H:AH)(s n:Nat)(x:Value):Option (List Value):=
 match x with
 | .slice none _ _=>sel (Nat.beq n 0) (some []) none
 | .slice (some ⟨b,o,none⟩) m _=>oc (qd0_ H b) none fun y=>sel (Nat.ble n m) (rdT y.1 (Nat.mul n s) o) none
 | .string bs=>some ((bs.extract 0 n).data.toList.map fun b=>Value.int .u8 b.toNat)
 | _=>none
theorem flatL_bytes (l:List UInt8):flatL (l.map fun b=>Value.int .u8 b.toNat)=true:=by
 induction l with
 | nil=>rfl
 | cons b l ih=>simp[flatL,flat,ih]
theorem firstB_ok {P:Program}{n0:Bs}{σ:Ren}{H:AH}{w:World}(hr:HR n0 σ H w){s n:Nat}{x x':Value}{l:List Value}(h:firstB H s n x=some l)(hx:VR σ x x') :
  ∃ l',VRs σ l l'∧(Builtin.firstCells s n x').run P w=.ok ⟨l'⟩ w:=by
 unfold firstB at h
 split at h
 ·rename_i m k
  obtain⟨hz,h⟩:=sel_none h
  obtain rfl:=oI h
  obtain rfl:=nB hz
  cases hx
  exact⟨[],.nil,by simp[Builtin.firstCells]⟩
 ·rename_i b o m k
  obtain⟨y,hy,h⟩:=oS h
  obtain⟨hnm,hl⟩:=sel_none h
  have hnm:=qd1_ hnm
  have hb:=qds_ hy
  have main:∀ {c d mm o' k':Nat},σ b=some (c,d,mm)→(m=0∨o'=d+o)→∃ l',VRs σ l l'∧(Builtin.firstCells s n (.slice (some ⟨c,o',none⟩) m k')).run P w=.ok ⟨l'⟩ w:=by
   intro c d mm o' k' hs ho
   show ∃ l',VRs σ l l'∧(loadCells ⟨c,o',none⟩ (n*s)).run P w=.ok ⟨l'⟩ w
   by_cases hn:n=0
   ·subst hn
    have hl0:l=[]:=List.length_eq_zero_iff.1 (by rw[(qvf_ _ _ _ _ hl).1]; simp)
    subst hl0
    exact⟨[],.nil,by rw[Nat.zero_mul]; rfl⟩
   ·have ho:=ho.resolve_left (by omega)
    subst ho
    exact qr7_ hr hb hs hl
  cases hx with
  | slice _ _ _ hs hk=>exact main hs (.inr rfl)
  | sliceU _ _ _ _ _ hs hk ho hd hm=>exact main hs ho
  | sliceL _ _ _ _ _ hs=>exact main hs (.inr rfl)
 ·rename_i bs
  obtain rfl:=oI h
  cases hx
  refine⟨_,qiw_ (flatL_bytes _) σ,?_⟩
  simp[Builtin.firstCells]
  apply Array.ext'
  simp
 ·cases h
def lenAny (v:Value):Option Nat:=
 match v with
 | .slice _ n _=>some n
 | .string s=>some s.size
 | _=>none
theorem lenAny_ok {P:Program}{σ:Ren}{x x':Value}{n:Nat}(h:lenAny x=some n)(hx:VR σ x x')(w:World):(Builtin.lenOf x').run P w=.ok n w:=by
 unfold lenAny at h
 split at h
 ·obtain rfl:=oI h
  cases hx<;>simp[Builtin.lenOf]
 ·obtain rfl:=oI h
  cases hx; simp[Builtin.lenOf]
 ·cases h
noncomputable def opCopyGo (H:AH)(s:Nat)(dst src:Value)(n:Nat):VRes:=
 match dst with
 | .slice none dl _=>sel (Nat.beq (Nat.min n dl) 0) (some (.int .i64 ((0:Nat):Int),H)) none
 | .slice (some ⟨b,o,none⟩) dl _=>sel (Nat.beq (Nat.min n dl) 0) (some (.int .i64 ((0:Nat):Int),H)) (oc (firstB H s (Nat.min n dl) src) none fun l=>oc (storeB H b o l) none fun H'=>some (.int .i64 (Nat.min n dl:Nat),H'))
 | _=>none
noncomputable def opCopy (P:Program)(t:TypeId)(dst src:Value)(H:AH):VRes:=oc (elemB P t) none fun e=>oc (sizeB P e) none fun s=>oc (lenAny src) none fun n=>opCopyGo H s dst src n
theorem first_zero {P:Program}{σ:Ren}{s:Nat}{x x':Value}{n:Nat}(h:lenAny x=some n)(hx:VR σ x x')(w:World):(Builtin.firstCells s 0 x').run P w=.ok #[] w:=by
 unfold lenAny at h
 split at h
 ·cases hx
  ·show (loadCells _ (0*s)).run P w=_
   rw[Nat.zero_mul]; rfl
  ·show (loadCells _ (0*s)).run P w=_
   rw[Nat.zero_mul]; rfl
  ·rename_i a _
   cases a with
   | none=>rfl
   | some a=>
    show (loadCells _ (0*s)).run P w=_
    rw[Nat.zero_mul]; rfl
  ·rename_i a _
   cases a with
   | none=>rfl
   | some a=>
    show (loadCells _ (0*s)).run P w=_
    rw[Nat.zero_mul]; rfl
  ·rfl
  ·show (loadCells _ (0*s)).run P w=_
   rw[Nat.zero_mul]; rfl
  ·show (loadCells _ (0*s)).run P w=_
   rw[Nat.zero_mul]; rfl
  ·show (loadCells _ (0*s)).run P w=_
   rw[Nat.zero_mul]; rfl
 ·cases hx
  simp[Builtin.firstCells]
 ·cases h
theorem copyGo_ok {P:Program}{n0:Bs}{σ:Ren}{H H':AH}{w:World}(hr:HR n0 σ H w){t ty e:TypeId}{ts:Array TypeId}{s n:Nat}(hts:ts[0]?=some t){x x' y y' v:Value}(he:P.underlying t=some (.slice e))(hs:sizeB P e=some s)(hn:lenAny y=some n)
  (hl:(Builtin.lenOf y').run P w=.ok n w) (hx:VR σ x x') (hy:VR σ y y') (h2:opCopyGo H s x y n=some (v,H')):Gives P n0 σ w (Builtin.copy_ ts ty #[x',y']) v H':=by
 unfold opCopyGo at h2
 split at h2
 ·obtain⟨hz,h3⟩:=sel_none h2
  obtain⟨rfl,rfl⟩:=pI (oI h3)
  have hz:=nB hz
  cases hx
  have f0:=first_zero (P:=P) (s:=s) hn hy w
  refine Gives.pure hr ?_ (.int _ _)
  simp[Builtin.copy_,hts,run_underlying he,hl,qcy_ hs,hz,f0,goInt]
 ·rename_i b o dl k
  rcases qa_ h2 with⟨hz,h3⟩ | ⟨hz,h3⟩
  ·obtain⟨rfl,rfl⟩:=pI (oI h3)
   have hz:=nB hz
   have f0:=first_zero (P:=P) (s:=s) hn hy w
   refine Gives.pure hr ?_ (.int _ _)
   cases hx<;>simp[Builtin.copy_,hts,run_underlying he,hl,qcy_ hs,hz,f0,goInt,storeCells]
  ·obtain⟨l,hl1,h4⟩:=oS h3
   obtain⟨H₁,hst,h5⟩:=oS h4
   obtain⟨rfl,rfl⟩:=pI (oI h5)
   have hz:=qf4_ hz
   have hdl:dl ≠ 0:=fun e=>hz (by rw[e]; exact Nat.min_zero n)
   obtain⟨l',q1,q2⟩:=firstB_ok (P:=P) hr hl1 hy
   have main:∀ {c d mm o' k':Nat},σ b=some (c,d,mm)→(dl=0∨o'=d+o)→Gives P n0 σ w (Builtin.copy_ ts ty #[.slice (some ⟨c,o',none⟩) dl k',y']) (.int .i64 (Nat.min n dl:Nat)) H₁:=by
    intro c d mm o' k' hσ ho
    obtain rfl:=ho.resolve_left hdl
    obtain⟨σ',w',r1,r2,r3⟩:=qxy_ (P:=P) hr hst q1 hσ (o':=d+o) (i:=0) (by omega)
    refine⟨_,σ',w',?_,.int _ _,r2,r3⟩
    simp[Builtin.copy_,hts,run_underlying he,hl,qcy_ hs,q2,r1,goInt]
   cases hx with
   | slice _ _ _ hσ hk=>exact main hσ (.inr rfl)
   | sliceU _ _ _ _ _ hσ hk ho hd hm=>exact main hσ ho
   | sliceL _ _ _ _ _ hσ=>exact main hσ (.inr rfl)
 ·cases h2
theorem copy_ok {P:Program}{n0:Bs}{σ:Ren}{H H':AH}{w:World}(hr:HR n0 σ H w){t ty:TypeId}{ts:Array TypeId}(hts:ts[0]?=some t){x x' y y' v:Value}(h:opCopy P t x y H=some (v,H'))(hx:VR σ x x')(hy:VR σ y y'):Gives P n0 σ w (Builtin.copy_ ts ty #[x',y']) v H':=by
 obtain⟨e,he,h⟩:=oS h
 obtain⟨s,hs,h⟩:=oS h
 obtain⟨n,hn,h2⟩:=oS h
 have he:=qgn_ he
 have hl:=lenAny_ok (P:=P) hn hy w
 exact copyGo_ok hr hts he hs hn hl hx hy h2
theorem VRs.drop {σ:Ren}{l l':List Value}(h:VRs σ l l'):∀ n,VRs σ (l.drop n) (l'.drop n):=by
 induction h with
 | nil=>intro n; simpa using VRs.nil
 | cons hv hl ih=>
  intro n
  cases n with
  | zero=>exact .cons hv hl
  | succ n=>simpa using ih n
theorem VRs.take {σ:Ren}{l l':List Value}(h:VRs σ l l'):∀ n,VRs σ (l.take n) (l'.take n):=by
 induction h with
 | nil=>intro n; simpa using VRs.nil
 | cons hv hl ih=>
  intro n
  cases n with
  | zero=>simpa using VRs.nil
  | succ n=>simpa using VRs.cons hv (ih n)
def aggL (v:Value):Option (List Value):=
 match v with
 | .agg cs=>some cs.toList
 | _=>none
noncomputable def partB (P:Program)(t:TypeId)(l:List Value)(off:Nat):Option Value:=
 oc (aggB P t) none fun g=>sel g (oc (sizeB P t) none fun n=>some (.agg ⟨(l.drop off).take n⟩)) (l[off]?)
theorem part_ok {P:Program}{σ:Ren}{w:World}{t:TypeId}{l:List Value}{cs:Array Value}{off:Nat}{v:Value}(h:partB P t l off=some v)(hl:VRs σ l cs.toList):∃ v',VR σ v v'∧(part t cs off).run P w=.ok v' w:=by
 obtain⟨g,hg,h⟩:=oS h
 rcases qa_ h with⟨rfl,h⟩ | ⟨rfl,h⟩
 ·obtain⟨n,hn,h⟩:=oS h
  obtain rfl:=oI h
  refine⟨.agg ⟨(cs.toList.drop off).take n⟩,((hl.drop off).take n).agg,?_⟩
  have:cs.extract off (off+n)=⟨(cs.toList.drop off).take n⟩:=by
   apply Array.ext'
   simp
  simp[part,Sem.run_bind,qjn_ hg,qcy_ hn,this]
 ·obtain⟨v',h1,h2⟩:=hl.get off v h
  refine⟨v',h2,?_⟩
  simp only[Array.getElem?_toList] at h1
  simp[part,Sem.run_bind,qjn_ hg,h1]
noncomputable def opField (P:Program)(t:TypeId)(x:Value)(f:Nat)(H:AH):VRes:=oc (aggL x) none fun l=>oc (fieldB P t f) none fun y=>oc (partB P y.type l y.offset) none fun v=>some (v,H)
theorem aggL_vr {σ:Ren}{x x':Value}{l:List Value}(h:aggL x=some l)(hx:VR σ x x'):∃ cs,x'=.agg cs∧VRs σ l cs.toList:=by
 unfold aggL at h
 split at h
 ·obtain rfl:=oI h
  cases hx with
  | agg h1 h2=>exact⟨_,rfl,VRs.arr h1 h2⟩
 ·cases h
theorem field_ok {P:Program}{n0:Bs}{σ:Ren}{H H':AH}{w:World}(hr:HR n0 σ H w){t:TypeId}{x x' v:Value}{f:Nat}(h:opField P t x f H=some (v,H'))(hx:VR σ x x'):GivesP P n0 σ w H (Instr.field t x' f) v H':=by
 obtain⟨l,hl,h⟩:=oS h
 obtain⟨y,hy,h⟩:=oS h
 obtain⟨u,hu,h⟩:=oS h
 obtain⟨rfl,rfl⟩:=pI (oI h)
 obtain⟨cs,rfl,hcs⟩:=aggL_vr hl hx
 obtain⟨fs,hus,hf⟩:=q1c_ hy
 obtain⟨v',h1,h2⟩:=part_ok (P:=P) (w:=w) hu hcs
 exact GivesP.pure hr (by simp[Instr.field,run_underlying hus,hf,asAgg,Sem.run_bind,h2]) h1
noncomputable def opIndexV (P:Program)(t:TypeId)(x i:Value)(H:AH):VRes:=
 oc (aggL x) none fun l=>oc (arrB P t) none fun r=>oc (idx i r.1) none fun k=>oc (sizeB P r.2) none fun n=>oc (partB P r.2 l (Nat.mul k n)) none fun v=>some (v,H)
theorem indexV_ok {P:Program}{n0:Bs}{σ:Ren}{H H':AH}{w:World}(hr:HR n0 σ H w){t:TypeId}{x x' i i' v:Value}(h:opIndexV P t x i H=some (v,H'))(hx:VR σ x x')(hi:VR σ i i'):GivesP P n0 σ w H (Instr.index t x' i') v H':=by
 obtain⟨l,hl,h⟩:=oS h
 obtain⟨r,hu,h⟩:=oS h
 obtain⟨k,hk,h⟩:=oS h
 obtain⟨n,hn,h⟩:=oS h
 obtain⟨u,hp,h⟩:=oS h
 obtain⟨rfl,rfl⟩:=pI (oI h)
 obtain⟨kd,rfl,hlt⟩:=idx_eq hk
 cases hi
 obtain⟨cs,rfl,hcs⟩:=aggL_vr hl hx
 have hu:=arrB_eq hu
 obtain⟨v',h1,h2⟩:=part_ok (P:=P) (w:=w) hp hcs
 have hm:Nat.mul k n=k*n:=rfl
 rw[hm] at h2
 refine GivesP.pure hr ?_ h1
 have h1:(k:Int)<(r.1:Int):=by omega
 simp[Instr.index,asIntOf,run_underlying hu,Sem.run_bind,qcy_ hn,h1,hlt,h2]
noncomputable def opIndex (P:Program)(t:TypeId)(x i:Value)(H:AH):VRes:=sel (flat x&&flat i) (qwj_ P (Instr.index t x i) H) (opIndexV P t x i H)
theorem index_ok {P:Program}{n0:Bs}{σ:Ren}{H H':AH}{w:World}(hr:HR n0 σ H w){t:TypeId}{x x' i i' v:Value}(h:opIndex P t x i H=some (v,H'))(hx:VR σ x x')(hi:VR σ i i'):GivesP P n0 σ w H (Instr.index t x' i') v H':=by
 rcases qa_ h with⟨hf,h⟩ | ⟨_,h⟩
 ·simp only[bA] at hf
  rw[qfs_ hf.1 hx,qfs_ hf.2 hi]
  exact qjo_ hr h
 ·exact indexV_ok hr h hx hi
end Go.Proofs.YthlikofobjhcoaaGreat.Ax
namespace Go.Proofs.YthlikofobjhcoaaGreat.Ax
open Go.RowKit
variable [Tabs]
def byteOf (v:Value):Option UInt8:=
 match v with
 | .int .u8 n=>some (UInt8.ofNat n.toNat)
 | _=>none
noncomputable def bytesL (l:List Value):Option (List UInt8):=@List.rec Value (fun _=>Option (List UInt8)) (some []) (fun v _ ih=>oc (byteOf v) none fun x=>oc ih none fun r=>some (x::r)) l
theorem qtm_ (v:Value)(l:List Value):bytesL (v::l)=oc (byteOf v) none fun x=>oc (bytesL l) none fun r=>some (x::r):=rfl
theorem byteOf_eq {v:Value}{x:UInt8}(h:byteOf v=some x):∃ n,v=.int .u8 n∧x=UInt8.ofNat n.toNat:=by
 unfold byteOf at h
 split at h
 ·obtain rfl:=oI h; exact⟨_,rfl,rfl⟩
 ·cases h
theorem bytesL_vr {σ:Ren}{l l':List Value}(hl:VRs σ l l'):∀ {r:List UInt8},bytesL l=some r→bytesL l'=some r:=by
 induction hl with
 | nil=>intro r h; exact h
 | cons hv _ ih=>
  intro r h
  rw[qtm_] at h
  obtain⟨x,hx,h1⟩:=oS h
  obtain⟨q,hq,h2⟩:=oS h1
  obtain⟨n,rfl,_⟩:=byteOf_eq hx
  clear h h1
  cases hv
  rw[qtm_,hx,oc_some,ih hq]
  exact h2
noncomputable def qw6_ (P:Program)(s d:TypeId):Bool:=oc (elemB P s) false fun e=>oc (P.underlying e) false fun u=>oc (P.underlying d) false fun v=>(match u with | .int .u8=>true | _=>false)&&(match v with | .string=>true | _=>false)
noncomputable def opBytes (P:Program)(s d:TypeId)(x:Value)(H:AH):VRes:=
 sel (qw6_ P s d) (oc (qjp_ x) none fun a=>oc (qd0_ H a.1) none fun y=>oc (rdT y.1 a.2.2.1 a.2.1) none fun l=>oc (bytesL l) none fun r=>some (.string ⟨⟨r⟩⟩,H)) none
theorem push_all:∀ (r:List UInt8) (s:List UInt8),r.foldl (fun (a:ByteArray) x=>a.push x) ⟨⟨s⟩⟩=⟨⟨s++r⟩⟩
 | [],s=>by simp
 | x::r,s=>by
  have:=push_all r (s ++ [x])
  simp only[List.foldl_cons]
  have e:(⟨⟨s⟩⟩:ByteArray).push x=⟨⟨s ++ [x]⟩⟩:=by simp[ByteArray.push]
  rw[e,this]; simp
theorem qsc_ {P:Program}{w:World}{f:Value→ByteArray→Sem (ForInStep ByteArray)}(hf:∀ n s,f (.int .u8 n) s=pure (.yield (s.push (UInt8.ofNat n.toNat)))):∀ {l:List Value} {r:List UInt8} {s:ByteArray},bytesL l=some r →
  (forIn (m:=Sem) l s f).run P w=.ok (r.foldl (fun (a:ByteArray) x=>a.push x) s) w
 | [],r,s,h=>by
  obtain rfl:=oI h
  simp
 | v::l,r,s,h=>by
  rw[qtm_] at h
  obtain⟨x,hx,h⟩:=oS h
  obtain⟨q,hq,h⟩:=oS h
  obtain rfl:=oI h
  obtain⟨n,rfl,rfl⟩:=byteOf_eq hx
  have ih:=qsc_ (P:=P) (w:=w) hf (s:=s.push (UInt8.ofNat n.toNat)) hq
  simp only[List.forIn_cons,hf,Sem.run_bind,Sem.run_pure,Result.andThen_ok,ih,List.foldl_cons]
theorem bytes_ok {P:Program}{n0:Bs}{σ:Ren}{H H':AH}{w:World}(hr:HR n0 σ H w){s d:TypeId}{x x' v:Value}(h:opBytes P s d x H=some (v,H'))(hx:VR σ x x'):GivesP P n0 σ w H (convert s d x') v H':=by
 obtain⟨hb,h⟩:=sel_none h
 obtain⟨a,ha,h⟩:=oS h
 obtain⟨y,hy,h⟩:=oS h
 obtain⟨l,hl,h⟩:=oS h
 obtain⟨r,hrr,h⟩:=oS h
 obtain⟨rfl,rfl⟩:=pI (oI h)
 obtain⟨c,dd,m,o',k',hσ,rfl,ho⟩:=sliceOf_vr ha hx
 unfold qw6_ at hb
 cases he:elemB P s with
 | none=>rw[he] at hb; cases hb
 | some e=>
 rw[he,oc_some] at hb
 cases hu:P.underlying e with
 | none=>rw[hu] at hb; cases hb
 | some u=>
 rw[hu,oc_some] at hb
 cases hd:P.underlying d with
 | none=>rw[hd] at hb; cases hb
 | some q=>
 rw[hd,oc_some] at hb
 simp only[bA] at hb
 obtain⟨hb1,hb2⟩:=hb
 have hu':P.underlying e=some (.int .u8):=by
  rw[hu]
  split at hb1
  ·rfl
  ·cases hb1
 have hd':P.underlying d=some .string:=by
  rw[hd]
  split at hb2
  ·rfl
  ·cases hb2
 have hs':=qgn_ he
 have hload:∃ l',VRs σ l l'∧(loadCells ⟨c,o',none⟩ a.2.2.1).run P w=.ok ⟨l'⟩ w:=by
  by_cases h0:a.2.2.1=0
  ·rw[h0] at hl ⊢
   obtain rfl:=oI hl
   exact⟨[],.nil,by simp[loadCells,loadCellsFrom]⟩
  ·rw[ho (by omega)]
   exact qr7_ hr (qds_ hy) hσ hl
 obtain⟨l',h1,h2⟩:=hload
 refine GivesP.pure (v':=.string ⟨⟨r⟩⟩) hr ?_ (.string _)
 have e0:r.foldl (fun (a:ByteArray) x=>a.push x) .empty=⟨⟨r⟩⟩:=by
  exact push_all r []
 simp only[convert,Sem.run_bind,run_underlying hs',run_underlying hd',Result.andThen_ok,run_underlying hu',Conv.bytesToString,h2]
 simp only[List.forIn_toArray]
 rw[qsc_ (fun _ _=>rfl) (bytesL_vr h1 hrr),e0]
 rfl
def zerX (y:ABlk):Option Nat:=
 match y with
 | .zeros m _=>some m
 | _=>none
def zerS (x:Value):Option (Nat×Nat×Nat):=
 match x with
 | .slice (some ⟨b,0,none⟩) n k=>some (b,n,k)
 | _=>none
noncomputable def zerOf (H:AH)(x:Value):Option Nat:=
 oc (zerS x) none fun q=>oc (H.blocks.get q.1) none fun y=>oc (zerX y) none fun m=>sel (Nat.ble q.2.1 m&&Nat.blt q.2.2 big) (some q.2.1) none
theorem zerOf_eq {H:AH}{x:Value}{n:Nat}(h:zerOf H x=some n):∃ b k m e,x=.slice (some ⟨b,0,none⟩) n k∧H.blocks.get b=some (.zeros m e)∧n≤m∧k<big:=by
 obtain⟨q,hq,h⟩:=oS h
 obtain⟨y,hy,h⟩:=oS h
 obtain⟨m,hm,h⟩:=oS h
 obtain⟨hn,h⟩:=sel_none h
 obtain rfl:=oI h
 simp only[bA] at hn
 have e1:x=.slice (some ⟨q.1,0,none⟩) q.2.1 q.2.2:=by
  unfold zerS at hq
  split at hq
  ·obtain rfl:=oI hq; rfl
  ·cases hq
 have e2:∃ e,y=.zeros m e:=by
  unfold zerX at hm
  split at hm
  ·obtain rfl:=oI hm; exact⟨_,rfl⟩
  ·cases hm
 obtain⟨e,rfl⟩:=e2
 exact⟨_,_,_,_,e1,hy,Nat.le_of_ble_eq_true hn.1,qfr_ hn.2⟩
theorem q0h_:∀ n:Nat,bytesL (List.replicate n (.int .u8 0))=some (List.replicate n 0)
 | 0=>rfl
 | n+1=>by rw[List.replicate_succ,qtm_,q0h_ n]; rfl
theorem zer_ok {P:Program}{n0:Bs}{σ:Ren}{H:AH}{w:World}(hr:HR n0 σ H w){s d:TypeId}(hb:qw6_ P s d=true){x x':Value}{n:Nat}(h:zerOf H x=some n)(hx:VR σ x x'):GivesP P n0 σ w H (convert s d x') (.chan (some n)) H:=by
 unfold qw6_ at hb
 cases he:elemB P s with
 | none=>rw[he] at hb; cases hb
 | some e=>
 rw[he,oc_some] at hb
 cases hu:P.underlying e with
 | none=>rw[hu] at hb; cases hb
 | some u=>
 rw[hu,oc_some] at hb
 cases hd:P.underlying d with
 | none=>rw[hd] at hb; cases hb
 | some q=>
 rw[hd,oc_some] at hb
 simp only[bA] at hb
 obtain⟨hb1,hb2⟩:=hb
 have hu':P.underlying e=some (.int .u8):=by
  rw[hu]
  split at hb1
  ·rfl
  ·cases hb1
 have hd':P.underlying d=some .string:=by
  rw[hd]
  split at hb2
  ·rfl
  ·cases hb2
 have hs':=qgn_ he
 obtain⟨b,k,m,e2,rfl,hy,hn1,hn2⟩:=zerOf_eq h
 clear h
 obtain⟨c,dd,mm,hσ,_,C,h1,h2,h3,h4,h5⟩:=hr.blk _ _ hy
 subst h3
 cases hx with
 | @slice _ c' d' m' _ _ _ hs hk=>
  rw[hσ] at hs
  injection hs with hs
  injection hs with a1 hs
  injection hs with a2 a3
  subst a1 a2 a3
  have hload:(loadCells ⟨c,0+0,none⟩ n).run P w=.ok ⟨List.replicate n (.int .u8 0)⟩ w:=by
   unfold loadCells
   have:=qef_ (P:=P) (w:=w) (c:=c) (o:=0+0) (List.replicate n (.int .u8 0)) 0 #[] fun j v hv=>by
    rw[List.getElem?_replicate] at hv
    by_cases hj:j<n
    ·rw[if_pos hj] at hv
     obtain rfl:=oI hv
     rw[qg1_ h1]
     have:=h5 j (by omega)
     simpa using this
    ·rw[if_neg hj] at hv; cases hv
   rw[List.length_replicate] at this
   rw[this]; simp
  refine GivesP.pure (v':=.string (zstr n)) hr ?_ (.zeros n)
  have e0:(List.replicate n (0:UInt8)).foldl (fun (a:ByteArray) x=>a.push x) .empty=zstr n:=push_all _ []
  simp only[convert,Sem.run_bind,run_underlying hs',run_underlying hd',Result.andThen_ok,run_underlying hu',Conv.bytesToString,hload]
  simp only[List.forIn_toArray]
  rw[qsc_ (fun _ _=>rfl) (q0h_ n),e0]
  rfl
 | sliceU=>exact absurd hn2 (Nat.not_lt.2 (Nat.le_add_right _ _))
 | sliceL=>exact absurd hn2 (Nat.not_lt.2 (bigL_ge _ _))
def zlen (x:Value):Option Nat:=
 match x with
 | .chan (some n)=>some n
 | _=>none
def isStrD (d:TypeDesc):Bool:=
 match d with
 | .string=>true
 | _=>false
noncomputable def strB (P:Program)(t:TypeId):Bool:=oc (P.underlying t) false isStrD
theorem zlen_ok {P:Program}{n0:Bs}{σ:Ren}{H:AH}{w:World}(hr:HR n0 σ H w){t ty:TypeId}{x x':Value}{n:Nat}(h:zlen x=some n)(ht:strB P t=true)(hx:VR σ x x'):GivesP P n0 σ w H (Builtin.len_ #[t] ty #[x']) (.int .i64 n) H:=by
 unfold zlen at h
 split at h
 ·obtain rfl:=oI h
  cases hx
  unfold strB at ht
  cases hu:P.underlying t with
  | none=>rw[hu] at ht; cases ht
  | some d=>
   rw[hu,oc_some] at ht
   unfold isStrD at ht
   split at ht
   ·refine GivesP.pure hr ?_ (.int _ _)
    simp[Builtin.len_,run_underlying hu,goInt,zstr_size]
   ·cases ht
 ·cases h
end Go.Proofs.YthlikofobjhcoaaGreat.Ax
namespace Go.Proofs.YthlikofobjhcoaaGreat.Ax
open Go.RowKit
variable [Tabs]
noncomputable def AH.setB (H:AH)(b:Nat)(x:ABlk):AH:=⟨H.blocks.set b x,H.next,Nat.min H.low b⟩
def qhj_ (w:World)(c:Nat)(o:Obj):World:={ w with heap:=w.heap.setIfInBounds c o }
theorem HR.setObj {n0:Bs}{σ:Ren}{H:AH}{w:World}(hr:HR n0 σ H w){b:Nat}{y x:ABlk}(hb:H.blocks.get b=some y){c d m:Nat}(hs:σ b=some (c,d,m)){o:Obj}(hx:BR σ d m (some o) x) :
  HR n0 σ (H.setB b x) (qhj_ w c o)∧Step n0 σ w (Nat.min H.low b) σ (qhj_ w c o):=by
 have hlt:=hr.img b c d m hs
 have hcn:n0.n.Own c:=by
  obtain⟨c',d',m',hs',hn,_⟩:=hr.blk b y hb
  rw[hs] at hs'
  injection hs' with hs'
  injection hs' with e1 _
  exact e1 ▸ hn
 have self:(qhj_ w c o).heap[c]?=some o:=by simp[qhj_,hlt]
 have oth:∀ k,k ≠ c→(qhj_ w c o).heap[k]?=w.heap[k]?:=fun k hk=>by simp[qhj_,Array.getElem?_setIfInBounds_ne (Ne.symm hk)]
 have get:∀ bb xx,(H.setB b x).blocks.get bb=some xx→(bb=b∧xx=x)∨(bb ≠ b∧H.blocks.get bb=some xx):=fun bb xx h=>by
  simp only[AH.setB,Tr.get_set] at h
  by_cases e:bb=b
  ·rw[if_pos e] at h; exact .inl ⟨e,(oI h).symm⟩
  ·rw[if_neg e] at h; exact .inr ⟨e,h⟩
 have old:∀ bb xx,(H.setB b x).blocks.get bb=some xx→∃ yy,H.blocks.get bb=some yy:=fun bb xx h=>by
  rcases get bb xx h with⟨rfl,_⟩ | ⟨_,h⟩
  ·exact⟨y,hb⟩
  ·exact⟨xx,h⟩
 refine⟨⟨qoq_ hr.base (by simp[qhj_]) (fun k hk=>oth k (by have:=hcn.1; omega)),?_,?_,hr.dom,fun bb c' d' m' h=>by simpa [qhj_] using hr.img bb c' d' m' h,hr.hol,hr.frz.set hs (by simp[qhj_]) oth⟩,⟨.refl σ,⟨rfl,rfl,rfl,by simp[qhj_],fun k hk=>oth k (by have:=hcn.1; omega)⟩,?_,fun _ _ _ _ _ h=>h⟩⟩
 ·intro bb xx h
  rcases get bb xx h with⟨rfl,rfl⟩ | ⟨hne,h⟩
  ·exact⟨c,d,m,hs,hcn,by rw[self]; exact hx⟩
  ·obtain⟨c₁,d₁,m₁,hs₁,hn₁,hB⟩:=hr.blk bb xx h
   have:c₁ ≠ c:=fun ec=>hne (hr.inj bb b xx y c d₁ m₁ d m h hb (ec ▸ hs₁) hs)
   exact⟨c₁,d₁,m₁,hs₁,hn₁,by rw[oth c₁ this]; exact hB⟩
 ·intro b₁ b₂ x₁ x₂ c' d₁ m₁ d₂ m₂ h1 h2 s1 s2
  obtain⟨y₁,h1⟩:=old _ _ h1
  obtain⟨y₂,h2⟩:=old _ _ h2
  exact hr.inj b₁ b₂ y₁ y₂ c' d₁ m₁ d₂ m₂ h1 h2 s1 s2
 ·intro c' hc hlow
  have hne:c' ≠ c:=fun ec=>by
   subst ec
   rcases hlow with hq | hlow
   ·exact hcn.2 hq
   ·exact absurd (hlow b d m hs) (Nat.not_lt.2 (Nat.min_le_right _ _))
  exact⟨oth c' hne,fun _ _ _ h=>h⟩
def mapOfD (d:TypeDesc):Option (TypeId×TypeId):=
 match d with
 | .map k e=>some (k,e)
 | _=>none
def qyn_ (d:TypeDesc):Bool:=
 match d with
 | .int _=>true
 | .string=>true
 | _=>false
noncomputable def mapB (P:Program)(t:TypeId):Option (TypeId×TypeId):=oc (P.underlying t) none mapOfD
theorem q0i_ {P:Program}{t:TypeId}{q:TypeId×TypeId}(h:mapB P t=some q):P.underlying t=some (.map q.1 q.2):=by
 obtain⟨d,hd,h⟩:=oS h
 unfold mapOfD at h
 split at h
 ·obtain rfl:=oI h; exact hd
 ·cases h
def mapOf (x:ABlk):Option (List MapEntry×Nat):=
 match x with
 | .map es c=>some (es,c)
 | _=>none
theorem mapOf_eq {x:ABlk}{q:List MapEntry×Nat}(h:mapOf x=some q):x=.map q.1 q.2:=by
 unfold mapOf at h
 split at h
 ·obtain rfl:=oI h; rfl
 ·cases h
def qor_ (v:Value):Option Nat:=
 match v with
 | .map (some b)=>some b
 | _=>none
theorem qni_ {σ:Ren}{v v':Value}{b:Nat}(h:qor_ v=some b)(hv:VR σ v v'):∃ c,v'=.map (some c)∧σ b=some (c,0,0):=by
 unfold qor_ at h
 split at h
 ·obtain rfl:=oI h
  cases hv with
  | map hs=>exact⟨_,rfl,hs⟩
 ·cases h
noncomputable def mapEs (H:AH)(b:Nat):Option (List MapEntry×Nat):=oc (H.blocks.get b) none mapOf
theorem HR.mapEs {n0:Bs}{σ:Ren}{H:AH}{w:World}(hr:HR n0 σ H w){b c:Nat}(hs:σ b=some (c,0,0)){q:List MapEntry×Nat}(h:mapEs H b=some q):∃ ES,w.heap[c]?=some (.map ⟨ES⟩ q.2)∧MPs σ q.1 ES q.2∧H.blocks.get b=some (.map q.1 q.2):=by
 obtain⟨x,hx,h⟩:=oS h
 obtain rfl:=mapOf_eq h
 obtain⟨c',d',m',hs',_,ES,h1,h2,_,_⟩:=hr.blk b _ hx
 rw[hs] at hs'
 injection hs' with hs'
 injection hs' with e1 hs'
 subst e1
 exact⟨ES,h1,h2,hx⟩
noncomputable def findU (kd:TypeDesc)(k:Value)(l:List MapEntry):Nat→Option (Option (Nat×Value)):=
 @List.rec MapEntry (fun _=>Nat→Option (Option (Nat×Value))) (fun _=>some none) (fun e _ ih i=>oc (Instr.sameNow kd k e.key) none fun b=>oc (ih (Nat.succ i)) none fun r=>sel b (oc r (some (some (i,e.val))) fun _=>none) (some r)) l
theorem findU_cons (kd:TypeDesc)(k:Value)(e:MapEntry)(l:List MapEntry)(i:Nat):findU kd k (e::l) i=oc (Instr.sameNow kd k e.key) none fun b=>oc (findU kd k l (i+1)) none fun r=>sel b (oc r (some (some (i,e.val))) fun _=>none) (some r):=rfl
theorem findU_ok {kd:TypeDesc}{k:Value}:∀ {l:List MapEntry} {i:Nat} {r:Option (Nat×Value)},findU kd k l i=some r →
  (r=none∧∀ e∈l,Instr.sameNow kd k e.key=some false)∨∃ n e,r=some (i+n,e.val)∧l[n]?=some e∧Instr.sameNow kd k e.key=some true∧∀ n' e',l[n']?=some e'→n' ≠ n→Instr.sameNow kd k e'.key=some false
 | [],i,r,h=>.inl ⟨(oI h).symm,fun e he=>by cases he⟩
 | a::l,i,r,h=>by
  rw[findU_cons] at h
  obtain⟨b,hb,h⟩:=oS h
  obtain⟨r',hr',h⟩:=oS h
  rcases qa_ h with⟨rfl,h⟩ | ⟨rfl,h⟩
  ·cases r' with
   | some _=>cases h
   | none=>
    obtain rfl:=oI h
    rcases findU_ok hr' with⟨_,h2⟩ | ⟨n,e,h2,_⟩
    ·refine .inr ⟨0,a,rfl,rfl,hb,fun n' e' he hne=>?_⟩
     cases n' with
     | zero=>exact absurd rfl hne
     | succ n'=>exact h2 e' (List.mem_of_getElem? (by simpa using he))
    ·cases h2
  ·obtain rfl:=oI h
   rcases findU_ok hr' with⟨rfl,h2⟩ | ⟨n,e,rfl,h3,h4,h5⟩
   ·refine .inl ⟨rfl,fun e he=>?_⟩
    rcases List.mem_cons.1 he with rfl | he
    ·exact hb
    ·exact h2 e he
   ·refine .inr ⟨n+1,e,by rw[show i+(n+1)=i+1+n from by omega],by simpa using h3,h4,fun n' e' he hne=>?_⟩
    cases n' with
    | zero=>simp at he; subst he; exact hb
    | succ n'=>exact h5 n' e' (by simpa using he) (by omega)
theorem qyo_ {kd:TypeDesc}{k:Value}:∀ {l:List MapEntry} {i:Nat},(∀ e∈l,Instr.sameNow kd k e.key=some false)→Instr.findNow kd k l i=some none
 | [],i,_=>rfl
 | e::l,i,h=>by
  unfold Instr.findNow
  simp only[h e (List.mem_cons_self ..)]
  exact qyo_ fun x hx=>h x (List.mem_cons_of_mem _ hx)
theorem q0j_ {kd:TypeDesc}{k:Value}{E:MapEntry}(hE:Instr.sameNow kd k E.key=some true):∀ {l:List MapEntry} {i:Nat},E∈l→(∀ e∈l,Instr.sameNow kd k e.key=some false∨e=E)→∃ n,l[n]?=some E∧Instr.findNow kd k l i=some (some (i+n,E.val))
 | [],i,h,_=>by cases h
 | e::l,i,h,hu=>by
  unfold Instr.findNow
  rcases hu e (List.mem_cons_self ..) with h1 | rfl
  ·have hm:E∈l:=by
    rcases List.mem_cons.1 h with rfl | h
    ·rw[hE] at h1; cases h1
    ·exact h
   obtain⟨n,h2,h3⟩:=q0j_ hE (i:=i+1) hm fun x hx=>hu x (List.mem_cons_of_mem _ hx)
   refine⟨n+1,by simpa using h2,?_⟩
   simp only[h1]
   rw[h3,show i+1+n=i+(n+1) from by omega]
  ·exact⟨0,rfl,by simp only[hE]; rfl⟩
theorem MRs.at {σ:Ren}{l l':List MapEntry}(h:MRs σ l l'):∀ {i:Nat} {e':MapEntry},l'[i]?=some e'→∃ e,l[i]?=some e∧e'.key=e.key∧VR σ e.val e'.val:=by
 induction h with
 | nil=>intro i e' h; simp at h
 | cons hk hv _ ih=>
  intro i e' h
  cases i with
  | zero=>simp at h; subst h; exact⟨_,by simp,hk,hv⟩
  | succ i=>simpa using ih (by simpa using h)
theorem MRs.to {σ:Ren}{l l':List MapEntry}(h:MRs σ l l'):∀ {i:Nat} {e:MapEntry},l[i]?=some e→∃ e',l'[i]?=some e'∧e'.key=e.key∧VR σ e.val e'.val:=by
 induction h with
 | nil=>intro i e' h; simp at h
 | cons hk hv _ ih=>
  intro i e' h
  cases i with
  | zero=>simp at h; subst h; exact⟨_,by simp,hk,hv⟩
  | succ i=>simpa using ih (by simpa using h)
theorem MRs.len {σ:Ren}{l l':List MapEntry}(h:MRs σ l l'):l'.length=l.length:=by
 induction h with
 | nil=>rfl
 | cons _ _ _ ih=>simp[ih]
theorem findU_mp {σ:Ren}{kd:TypeDesc}{k:Value}{es ES L:List MapEntry}(hp:L.Perm ES)(hm:MRs σ es L){r:Option (Nat×Value)}(h:findU kd k es 0=some r) :
  (r=none∧Instr.findNow kd k ES 0=some none)∨∃ i v E j,r=some (i,v)∧L[i]?=some E∧VR σ v E.val∧ES[j]?=some E∧Instr.findNow kd k ES 0=some (some (j,E.val))∧Instr.sameNow kd k E.key=some true:=by
 rcases findU_ok h with⟨rfl,h1⟩ | ⟨n,e,rfl,h2,h3,h4⟩
 ·refine .inl ⟨rfl,qyo_ fun x hx=>?_⟩
  obtain⟨i,hi⟩:=List.getElem?_of_mem (hp.mem_iff.2 hx)
  obtain⟨e,he,hk,_⟩:=hm.at hi
  rw[hk]; exact h1 e (List.mem_of_getElem? he)
 ·obtain⟨E,hE,hk,hv⟩:=hm.to h2
  have hs:Instr.sameNow kd k E.key=some true:=by rw[hk]; exact h3
  obtain⟨j,hj,hf⟩:=q0j_ hs (l:=ES) (i:=0) (hp.mem_iff.1 (List.mem_of_getElem? hE)) fun x hx=>by
   obtain⟨i,hi⟩:=List.getElem?_of_mem (hp.mem_iff.2 hx)
   by_cases hin:i=n
   ·subst hin
    rw[hE] at hi
    exact .inr (oI hi).symm
   ·obtain⟨e',he',hk',_⟩:=hm.at hi
    rw[hk']; exact .inl (h4 i e' he' hin)
  rw[Nat.zero_add] at hf ⊢
  exact .inr ⟨n,e.val,E,j,rfl,hE,hv,hj,hf,hs⟩
theorem qu3_ {f:MapEntry→MapEntry}:∀ {l:List MapEntry} {i:Nat} {E:MapEntry},l[i]?=some E→∃ A B,l=A++E::B∧l.modify i f=A++f E::B
 | [],i,E,h=>by simp at h
 | a::l,0,E,h=>by
  simp at h
  subst h
  exact⟨[],l,rfl,rfl⟩
 | a::l,i+1,E,h=>by
  obtain⟨A,B,h1,h2⟩:=qu3_ (f:=f) (l:=l) (i:=i) (E:=E) (by simpa using h)
  exact⟨a::A,B,by rw[h1]; rfl,by rw[List.modify_succ_cons,h2]; rfl⟩
theorem q0k_ {f:MapEntry→MapEntry}{L ES:List MapEntry}(hp:L.Perm ES){i j:Nat}{E:MapEntry}(hi:L[i]?=some E)(hj:ES[j]?=some E):(L.modify i f).Perm (ES.modify j f):=by
 obtain⟨A,B,h1,h2⟩:=qu3_ (f:=f) hi
 obtain⟨C,D,h3,h4⟩:=qu3_ (f:=f) hj
 rw[h2,h4]
 rw[h1,h3] at hp
 have h5:(A++B).Perm (C++D):=(List.perm_middle.symm.trans (hp.trans List.perm_middle)).cons_inv
 exact List.perm_middle.trans ((h5.cons (f E)).trans List.perm_middle.symm)
theorem qnj_ {f:MapEntry→MapEntry}(hf:∀ e,(f e).born=e.born):∀ (l:List MapEntry) (i:Nat),(l.modify i f).map (·.born)=l.map (·.born)
 | [],i=>by cases i<;>rfl
 | a::l,0=>by simp[hf]
 | a::l,i+1=>by rw[List.modify_succ_cons,List.map_cons,List.map_cons,qnj_ hf l i]
theorem same_bits {kd:TypeDesc}{k k':Value}(h:Instr.sameNow kd k k'=some true):Instr.sameBits 10000 k' k=true:=by
 unfold Instr.sameNow at h
 split at h
 ·split at h
  ·rename_i e
   subst e
   have h:=eq_of_beq (oI h)
   subst h
   simp[Instr.sameBits]
  ·cases h
 ·rename_i a b
  have h:=oI h
  have e:a=b:=by
   have h':(a.data == b.data)=true:=h
   have:=eq_of_beq h'
   cases a; cases b; simp_all
  subst e
  simpa [Instr.sameBits] using h
 ·have h:=eq_of_beq (oI h)
  subst h
  simp[Instr.sameBits]
 ·cases h
theorem MRs.modify {σ:Ren}{k v v':Value}(hv:VR σ v v'){l l':List MapEntry}(h:MRs σ l l'):∀ (i:Nat),MRs σ (l.modify i fun e=>{ e with key:=k,val:=v }) (l'.modify i fun e=>{ e with key:=k,val:=v' }):=by
 induction h with
 | nil=>intro i; cases i<;>exact .nil
 | cons hk hv' hl ih=>
  intro i
  cases i with
  | zero=>exact .cons rfl hv hl
  | succ i=>exact .cons hk hv' (ih i)
theorem MRs.push {σ:Ren}{e e':MapEntry}(hk:e'.key=e.key)(hv:VR σ e.val e'.val){l l':List MapEntry}(h:MRs σ l l'):MRs σ (l ++ [e]) (l' ++ [e']):=by
 induction h with
 | nil=>exact .cons hk hv .nil
 | cons hk' hv' _ ih=>exact .cons hk' hv' ih
theorem MPs.push {σ:Ren}{e e':MapEntry}{es ES:List MapEntry}{clock:Nat}(hk:e'.key=e.key)(hv:VR σ e.val e'.val)(hb:e'.born=clock)(h:MPs σ es ES clock):MPs σ (es ++ [e]) (ES ++ [e']) (clock+1):=by
 obtain⟨⟨L,h1,h2⟩,h3,h4⟩:=h
 refine⟨⟨L ++ [e'],h1.append_right _,h2.push hk hv⟩,?_,fun x hx=>?_⟩
 ·rw[List.map_append,List.nodup_append]
  refine⟨h3,by simp,fun a ha b hb'=>?_⟩
  obtain⟨x,hx,rfl⟩:=List.mem_map.1 ha
  have:=h4 x hx
  simp at hb'
  omega
 ·rcases List.mem_append.1 hx with hx | hx
  ·exact Nat.lt_succ_of_lt (h4 x hx)
  ·simp at hx
   subst hx
   omega
theorem MPs.nil (σ:Ren)(clock:Nat):MPs σ [] [] clock:=⟨⟨[],.nil,.nil⟩,by simp,fun x hx=>by cases hx⟩
theorem qkx_ {P:Program}{w:World}{t:TypeId}{d:TypeDesc}(h:P.underlying t=some d)(hk:qyn_ d=true)(b:Bool)(v:Value):(Instr.checkKey b 10000 t v).run P w=.ok () w:=by
 unfold Instr.checkKey
 simp only[Sem.run_bind,run_underlying h,Result.andThen_ok]
 cases d<;>first | (cases hk; done) | (cases v<;>simp)
theorem qnb_ {P:Program}{w:World}{t:TypeId}{d:TypeDesc}(h:P.underlying t=some d){k:Value}{es:List MapEntry}{r:Option (Nat×Value)}(hf:Instr.findNow d k es 0=some r):(Instr.findKey t k es).run P w=.ok r w:=by
 unfold Instr.findKey
 simp only[Sem.run_bind,run_underlying h,Result.andThen_ok,hf,Sem.run_pure]
theorem qg2_ {P:Program}{w:World}{c:Nat}{es:Array MapEntry}{q:Nat}(h:w.heap[c]?=some (.map es q)):(getObj c).run P w=.ok (.map es q) w:=by
 simp[getObj,Sem.run,h]
theorem qpm_ {P:Program}{w:World}{c:Nat}{es:Array MapEntry}{q:Nat}(h:w.heap[c]?=some (.map es q))(o:Obj):(setObj c o).run P w=.ok () (qhj_ w c o):=by
 simp[setObj,Sem.run,h,qhj_]
def plainV (v:Value):Bool:=
 flat v||(match v with
  | .agg x=>flatL x.toList
  | _=>false)
theorem qx0_ {v:Value}(h:plainV v=true)(σ:Ren):VR σ v v:=by
 unfold plainV at h
 rw[Bool.or_eq_true] at h
 rcases h with h | h
 ·exact qua_ h σ
 ·split at h
  ·exact VRs.agg (qiw_ h σ)
  ·cases h
noncomputable def zeroV (P:Program)(t:TypeId):Option Value:=oc (P.info? t) none fun i=>oc i.zero none fun z=>sel (plainV z) (some z) none
theorem run_zeroV {P:Program}{t:TypeId}{z:Value}(h:zeroV P t=some z)(w:World):(zeroValue t).run P w=.ok z w∧plainV z=true:=by
 obtain⟨i,hi,h⟩:=oS h
 obtain⟨z',hz,h⟩:=oS h
 obtain⟨hp,h⟩:=sel_none h
 obtain rfl:=oI h
 exact⟨by simp[zeroValue,typeInfo,hi,hz],hp⟩
noncomputable def lookRes (P:Program)(e:TypeId)(ok:Bool)(H:AH)(r:Option (Nat×Value)):VRes:=
 oc r (oc (zeroV P e) none fun z=>some (sel ok (.tuple ⟨[z,.bool false]⟩) z,H)) fun p=>some (sel ok (.tuple ⟨[p.2,.bool true]⟩) p.2,H)
noncomputable def opLookup (P:Program)(t:TypeId)(x k:Value)(ok:Bool)(H:AH):VRes:=
 oc (mapB P t) none fun q=>oc (P.underlying q.1) none fun d=>sel (qyn_ d&&flat k) (oc (qor_ x) none fun b=>oc (mapEs H b) none fun es=>oc (findU d k es.1 0) none fun r=>lookRes P q.2 ok H r) none
theorem lookup_ok {P:Program}{n0:Bs}{σ:Ren}{H H':AH}{w:World}(hr:HR n0 σ H w){t:TypeId}{x x' k k' v:Value}{ok:Bool}(h:opLookup P t x k ok H=some (v,H'))(hx:VR σ x x')(hk:VR σ k k'):GivesP P n0 σ w H (Instr.lookup t x' k' ok) v H':=by
 obtain⟨q,hq,h⟩:=oS h
 obtain⟨d,hd,h⟩:=oS h
 obtain⟨hb,h⟩:=sel_none h
 obtain⟨b,hb',h⟩:=oS h
 obtain⟨es,hes,h⟩:=oS h
 obtain⟨r,hf,h⟩:=oS h
 simp only[bA] at hb
 obtain rfl:=qfs_ hb.2 hk
 obtain⟨c,rfl,hs⟩:=qni_ hb' hx
 obtain⟨ES,h1,h2,_⟩:=hr.mapEs hs hes
 have hu:=q0i_ hq
 obtain⟨⟨L,hL,hLr⟩,_,_⟩:=h2
 rcases findU_mp hL hLr hf with⟨rfl,hf'⟩ | ⟨i0,u,E,j,rfl,_,hv,_,hf',_⟩
 ·obtain⟨z,hz,h⟩:=oS h
  obtain⟨rfl,rfl⟩:=pI (oI h)
  obtain⟨z1,z2⟩:=run_zeroV hz w
  refine GivesP.pure (v':=sel ok (.tuple ⟨[z,.bool false]⟩) z) hr ?_ ?_
  ·unfold Instr.lookup
   simp only[Sem.run_bind,run_underlying hu,Result.andThen_ok,qg2_ h1,qkx_ hd hb.1,qnb_ hd hf',z1,Sem.run_pure]
   cases ok<;>rfl
  ·cases ok
   ·exact qx0_ z2 σ
   ·exact VRs.tuple (.cons (qx0_ z2 σ) (.cons (.bool _) .nil))
 ·obtain⟨rfl,rfl⟩:=pI (oI h)
  refine GivesP.pure (v':=sel ok (.tuple ⟨[E.val,.bool true]⟩) E.val) hr ?_ ?_
  ·unfold Instr.lookup
   simp only[Sem.run_bind,run_underlying hu,Result.andThen_ok,qg2_ h1,qkx_ hd hb.1,qnb_ hd hf',Sem.run_pure]
   cases ok<;>rfl
  ·cases ok
   ·exact hv
   ·exact VRs.tuple (.cons hv (.cons (.bool _) .nil))
noncomputable def updEs (es:List MapEntry×Nat)(k v:Value)(r:Option (Nat×Value)):ABlk:=
 oc r (.map (es.1 ++ [⟨k,v,es.2⟩]) (Nat.succ es.2)) fun p=>.map (es.1.modify p.1 fun e=>{ e with key:=k,val:=v }) es.2
noncomputable def opUpdate (P:Program)(t:TypeId)(x k v:Value)(H:AH):VRes:=
 oc (mapB P t) none fun q=>oc (P.underlying q.1) none fun d=>sel (qyn_ d&&flat k) (oc (qor_ x) none fun b=>oc (mapEs H b) none fun es=>oc (findU d k es.1 0) none fun r=>some (undef,H.setB b (updEs es k v r))) none
theorem qtn_ {w:World}{c q:Nat}{o:Obj}(h:q ≠ c):(qhj_ w c o).heap[q]?=w.heap[q]?:=by
 simp[qhj_,Array.getElem?_setIfInBounds_ne (Ne.symm h)]
def GivesM (P:Program)(n0:Bs)(σ:Ren)(w:World)(b:Nat)(s:Sem Unit)(H':AH):Prop:=
 ∃ c w',σ b=some (c,0,0)∧s.run P w=.ok () w'∧HR n0 σ H' w'∧Step n0 σ w H'.low σ w'∧∀ q,q ≠ c→w'.heap[q]?=w.heap[q]?
theorem GivesM.e {P:Program}{n0:Bs}{σ:Ren}{w:World}{b:Nat}{s:Sem Unit}{H':AH}(h:GivesM P n0 σ w b s H'):GivesE P n0 σ w s H':=
 let ⟨_,w',_,h1,h2,h3,_⟩:=h
 ⟨w',h1,h2,h3⟩
theorem update_sameX {P:Program}{n0:Bs}{σ:Ren}{H H':AH}{w:World}(hr:HR n0 σ H w){t:TypeId}{x x' k k' v v' u:Value}(h:opUpdate P t x k v H=some (u,H'))(hx:VR σ x x')(hk:VR σ k k')(hv:VR σ v v'):u=undef∧∃ b,qor_ x=some b∧GivesM P n0 σ w b (Instr.mapUpdate t x' k' v') H':=by
 obtain⟨q,hq,h⟩:=oS h
 obtain⟨d,hd,h⟩:=oS h
 obtain⟨hb,h⟩:=sel_none h
 obtain⟨b,hb',h⟩:=oS h
 obtain⟨es,hes,h⟩:=oS h
 obtain⟨r,hf,h⟩:=oS h
 obtain⟨rfl,rfl⟩:=pI (oI h)
 simp only[bA] at hb
 obtain rfl:=qfs_ hb.2 hk
 obtain⟨c,rfl,hs⟩:=qni_ hb' hx
 obtain⟨ES,h1,h2,h3⟩:=hr.mapEs hs hes
 have hu:=q0i_ hq
 refine⟨rfl,b,hb',?_⟩
 have h2':=h2
 obtain⟨⟨L,hL,hLr⟩,hnd,hbn⟩:=h2
 rcases findU_mp hL hLr hf with⟨rfl,hf'⟩ | ⟨i0,y,E,j,rfl,hi0,_,hj,hf',e3⟩
 ·obtain⟨g1,g2⟩:=hr.setObj h3 hs (x:=updEs es k' v none) (o:=.map ⟨ES ++ [⟨k',v',es.2⟩]⟩ (es.2+1)) ⟨_,rfl,MPs.push (e:=⟨k',v,es.2⟩) (e':=⟨k',v',es.2⟩) rfl hv rfl h2',rfl,rfl⟩
  refine⟨c,_,hs,?_,g1,g2,fun q hq=>qtn_ hq⟩
  unfold Instr.mapUpdate
  simp only[Sem.run_bind,run_underlying hu,Result.andThen_ok,qg2_ h1,qkx_ hd hb.1,qnb_ hd hf',qpm_ h1]
  simp
 ·have hM:MPs σ (es.1.modify i0 fun e=>{ e with key:=k',val:=v }) (ES.modify j fun e=>{ e with key:=k',val:=v' }) es.2:=by
   refine⟨⟨_,q0k_ hL hi0 hj,hLr.modify hv i0⟩,?_,fun x hx=>?_⟩
   ·rw[qnj_ (f:=fun e=>{ e with key:=k',val:=v' }) (fun _=>rfl)]; exact hnd
   ·have hx':x.born∈(ES.modify j fun e=>{ e with key:=k',val:=v' }).map (·.born):=List.mem_map.2 ⟨x,hx,rfl⟩
    rw[qnj_ (f:=fun e=>{ e with key:=k',val:=v' }) (fun _=>rfl)] at hx'
    obtain⟨z,hz,hzb⟩:=List.mem_map.1 hx'
    rw[←hzb]; exact hbn z hz
  obtain⟨g1,g2⟩:=hr.setObj h3 hs (x:=updEs es k' v (some (i0,y))) (o:=.map ⟨ES.modify j fun e=>{ e with key:=k',val:=v' }⟩ es.2) ⟨_,rfl,hM,rfl,rfl⟩
  refine⟨c,_,hs,?_,g1,g2,fun q hq=>qtn_ hq⟩
  have hb2:=same_bits e3
  have hkey:(((⟨ES⟩:Array MapEntry)[j]?).map (·.key)).getD k'=E.key:=by simp[hj]
  unfold Instr.mapUpdate
  simp only[Sem.run_bind,run_underlying hu,Result.andThen_ok,qg2_ h1,qkx_ hd hb.1,qnb_ hd hf',Instr.keyThatStays,hkey,hb2,if_true,Sem.run_pure,qpm_ h1]
  simp
noncomputable def opMakeMap (P:Program)(t:TypeId)(hint:Option Value)(H:AH):VRes:=oc hint (some (.map (some H.next),H.push (.map [] 0))) fun _=>none
theorem makeMap_ok {P:Program}{n0:Bs}{σ:Ren}{H H':AH}{w:World}(hr:HR n0 σ H w){t:TypeId}{hint hint':Option Value}{v:Value}(hh:hint=none→hint'=none)(h:opMakeMap P t hint H=some (v,H')):Gives P n0 σ w (Instr.makeMap t hint') v H':=by
 cases hint with
 | some x=>cases h
 | none=>
  rw[hh rfl]
  obtain⟨rfl,rfl⟩:=pI (oI h)
  obtain⟨h1,h2⟩:=hr.alloc (o:=.map #[] 0) (x:=.map [] 0) (m:=0) ⟨[],rfl,.nil _ _,rfl,rfl⟩
  exact⟨.map (some w.heap.size),_,_,by simp[Instr.makeMap,newObj,Sem.run_bind,Sem.run,World.alloc_eq],.map (Ren.put_self _ _ _),h1,h2⟩
def isMapD (d:TypeDesc):Bool:=
 match d with
 | .map _ _=>true
 | _=>false
noncomputable def opRange (P:Program)(t:TypeId)(x:Value)(H:AH):VRes:=
 oc (qor_ x) none fun b=>oc (mapEs H b) none fun q=>oc (P.underlying t) none fun d=>sel (isMapD d) (some (.pointer (some ⟨H.next,0,none⟩),H.push (.iter b q.2))) none
theorem range_ok {P:Program}{n0:Bs}{σ:Ren}{H H':AH}{w:World}(hr:HR n0 σ H w){t:TypeId}{x x' v:Value}(h:opRange P t x H=some (v,H'))(hx:VR σ x x'):Gives P n0 σ w (Instr.range t x') v H':=by
 obtain⟨b,hb,h⟩:=oS h
 obtain⟨q,hq,h⟩:=oS h
 obtain⟨d,hd,h⟩:=oS h
 obtain⟨hm,h⟩:=sel_none h
 obtain⟨rfl,rfl⟩:=pI (oI h)
 obtain⟨c,rfl,hs⟩:=qni_ hb hx
 obtain⟨ES,h1,_,_⟩:=hr.mapEs hs hq
 obtain⟨g1,g2⟩:=hr.alloc (o:=.mapIter (some c) q.2 #[] q.2) (x:=.iter b q.2) (m:=0) ⟨c,rfl,hr.ext_put _ _ _ hs,rfl,rfl⟩
 refine⟨.pointer (some ⟨w.heap.size,0,none⟩),_,_,?_,by simpa using VR.ptr 0 (Ren.put_self _ _ _),g1,g2⟩
 cases d<;>first | cases hm | skip
 simp[Instr.range,Sem.run_bind,run_underlying hd,getObj,Sem.run,h1,newObj,World.alloc_eq]
end Go.Proofs.YthlikofobjhcoaaGreat.Ax
namespace Go.Proofs.YthlikofobjhcoaaGreat.Ax
open Go.RowKit
variable [Tabs]
theorem qvm_ {z:Array Value}{l:List Value}(h:z=⟨l⟩)(n:Nat):Builtin.zeroCells z n=⟨reps l n⟩:=by
 subst h
 exact qr9_ ⟨l⟩ n _ rfl
noncomputable def opClear (P:Program)(t:TypeId)(x:Value)(H:AH):VRes:=
 oc (elemB P t) none fun e=>oc (zeroB P e) none fun z=>oc (qjp_ x) none fun a=>
  sel (Nat.beq a.2.2.1 0) (some (.tuple #[],H)) (oc (storeB H a.1 a.2.1 (reps z a.2.2.1)) none fun H'=>some (.tuple #[],H'))
theorem clear_ok {P:Program}{n0:Bs}{σ:Ren}{H H':AH}{w:World}(hr:HR n0 σ H w){t ty:TypeId}{ts:Array TypeId}(hts:ts[0]?=some t){x x' v:Value}(h:opClear P t x H=some (v,H'))(hx:VR σ x x'):Gives P n0 σ w (Builtin.clear_ ts ty #[x']) v H':=by
 obtain⟨e,he,h⟩:=oS h
 obtain⟨z,hz,h⟩:=oS h
 obtain⟨a,ha,h⟩:=oS h
 have he:=qgn_ he
 obtain⟨i,zv,hi,hiz,hzc,hzf⟩:=qvk_ hz
 rw[qpk_ ha] at hx
 rcases qa_ h with⟨hn,h⟩ | ⟨hn,h⟩
 ·have hn:=nB hn
  obtain⟨rfl,rfl⟩:=pI (oI h)
  rw[hn] at hx
  refine Gives.pure hr (v':=.tuple #[]) ?_ (VRs.tuple (l:=[]) (l':=[]) .nil)
  generalize a.2.2.2=kk at hx
  cases hx<;>simp[Builtin.clear_,hts,run_underlying he]
 ·have hn:=qf4_ hn
  obtain⟨H₁,hst,h⟩:=oS h
  obtain⟨rfl,rfl⟩:=pI (oI h)
  have hv:=qiw_ (qsa_ hzf a.2.2.1) σ
  have main:∀ {c d mm o' k':Nat},σ a.1=some (c,d,mm)→(a.2.2.1=0∨o'=d+a.2.1)→Gives P n0 σ w (Builtin.clear_ ts ty #[.slice (some ⟨c,o',none⟩) a.2.2.1 k']) (.tuple #[]) H₁:=by
   intro c d mm o' k' hσ ho
   obtain rfl:=ho.resolve_left hn
   obtain⟨σ',w',r1,r2,r3⟩:=qxy_ (P:=P) hr hst hv hσ (o':=d+a.2.1) (i:=0) (by omega)
   refine⟨_,σ',w',?_,VRs.tuple (l:=[]) (l':=[]) .nil,r2,r3⟩
   have e1:Builtin.zeroCells zv.cells a.2.2.1=⟨reps z a.2.2.1⟩:=qvm_ hzc _
   generalize a.2.2.1=n at hn r1 e1
   cases n with
   | zero=>exact absurd rfl hn
   | succ n=>simp[Builtin.clear_,hts,run_underlying he,zeroValue,typeInfo,hi,hiz,e1,r1]
  generalize a.2.2.2=kk at hx
  cases hx with
  | slice _ _ _ hσ hk=>exact main hσ (.inr rfl)
  | sliceU _ _ _ _ _ hσ hk ho hd hm=>exact main hσ ho
  | sliceL _ _ _ _ _ hσ=>exact main hσ (.inr rfl)
def q1g_ (s x:Value):Option Nat:=
 match s with
 | .slice none 0 0=>(match x with
  | .int _ (.ofNat n)=>some n
  | _=>none)
 | _=>none
theorem zCount_eq {s x:Value}{n:Nat}(h:q1g_ s x=some n):s=.slice none 0 0∧∃ k,x=.int k (.ofNat n):=by
 unfold q1g_ at h
 split at h
 ·split at h
  ·obtain rfl:=oI h
   exact⟨rfl,_,rfl⟩
  ·cases h
 ·cases h
noncomputable def opAppZ (P:Program)(t u:TypeId)(n:Nat)(H:AH):VRes:=
 oc (elemB P t) none fun e=>oc (P.underlying u) none fun d=>oc (zeroB P e) none fun z=>oc (sizeB P e) none fun sz=>oc (qxn_ P e) none fun bs=>
  sel (!(notInt d)&&Nat.beq z.length sz&&Nat.blt sz big&&Nat.blt 0 (Nat.mul n sz)&&fits n bs) (some (.slice (some ⟨H.next,0,none⟩) n (Nat.add big sz),H.push (.cells (layT (reps z n)) e))) none
theorem isInt_of {d:TypeDesc}(h:notInt d=false):∃ k,d=.int k:=by
 cases d<;>first | exact⟨_,rfl⟩ | cases h
theorem wrap_small {n:Nat}(h:n≤9223372036854775807):IntKind.i64.wrap (.ofNat n)=.ofNat n:=by
 have e:(Int.ofNat n)=(n:Int):=rfl
 rw[e]
 exact Go.IntWalk.i64_in _ (by omega)
theorem run_appZ {P:Program}(w:World){t u ty e:TypeId}{kd k:IntKind}{i:TypeInfo}{z:Value}(ht:P.underlying t=some (.slice e))(hu:P.underlying u=some (.int kd))(hi:P.info? e=some i)(hz:i.zero=some z)
  {n:Nat} (h0:0<n) (hns:n*i.size ≠ 0) (h63:n≤9223372036854775807) (hb:n*i.bytes≤140737488355328) (hfit:Builtin.nextslicecap n 0*i.bytes≤281474976710656) :
  (Builtin.append_ #[t,u] ty #[.slice none 0 0,.int k (.ofNat n)]).run P w =
   .ok (.slice (some ⟨w.heap.size,0,none⟩) n (grownCap w n 0 e)) (w.drew.alloc (.cells (Builtin.zeroCells z.cells n++Builtin.zeroCells z.cells (grownCap w n 0 e-n)) e)):=by
 have hn:¬ (n≤0):=by omega
 have hn':n ≠ 0:=by omega
 have h63':¬ ((9223372036854775807:Int)<(n:Int)):=by omega
 have h48':¬ (281474976710656<Builtin.nextslicecap n 0*i.bytes):=by omega
 have hw:=wrap_small h63
 have hw':IntKind.i64.wrap (n:Int)=(n:Int):=hw
 have hneg:¬ ((n:Int)<0):=by omega
 have hb':¬ ((281474976710656:Int)<(n:Int)*(i.bytes:Int)):=by
  have e:((n*i.bytes:Nat):Int)=(n:Int)*(i.bytes:Int):=Int.natCast_mul _ _
  rw[←e]
  omega
 have hsz:¬ (n=0∨i.size=0):=by
  rintro (h | h)
  ·omega
  ·exact hns (by rw[h]; simp)
 simp[Builtin.append_,run_underlying ht,run_underlying hu,sizeOf,typeInfo,zeroValue,hi,hz,asInt,asIntOf,hw',hneg,hb',hn,hn',h63',h48',hsz,Question.forced,newRow,grownCap,Builtin.firstCells]
 intro h
 exact absurd h hns
theorem appZ_ok {P:Program}{n0:Bs}{σ:Ren}{H H':AH}{w:World}(hr:HR n0 σ H w){t u ty:TypeId}{n:Nat}{k:IntKind}{v:Value}(h:opAppZ P t u n H=some (v,H')) :
  Gives P n0 σ w (Builtin.append_ #[t,u] ty #[.slice none 0 0,.int k (.ofNat n)]) v H':=by
 obtain⟨e,he,h⟩:=oS h
 obtain⟨d,hd,h⟩:=oS h
 obtain⟨z,hz,h⟩:=oS h
 obtain⟨sz,hsz,h⟩:=oS h
 obtain⟨bs,hbs,h⟩:=oS h
 obtain⟨hb,h⟩:=sel_none h
 obtain⟨rfl,rfl⟩:=pI (oI h)
 simp only[bA,Bool.not_eq_true'] at hb
 obtain⟨⟨⟨⟨b1,b2⟩,b3⟩,b4⟩,b5⟩:=hb
 obtain⟨kd,rfl⟩:=isInt_of b1
 have hzl:=nB b2
 have hszb:=qfr_ b3
 have hpos:0<n*sz:=qfr_ b4
 have he:=qgn_ he
 obtain⟨i,zv,hi,hiz,hzc,hzf⟩:=qvk_ hz
 obtain rfl:i.size=sz:=by
  obtain⟨i',hi',q⟩:=oS hsz
  rw[hi] at hi'
  obtain rfl:=oI hi'
  exact oI q
 obtain rfl:i.bytes=bs:=by
  obtain⟨i',hi',q⟩:=oS hbs
  rw[hi] at hi'
  obtain rfl:=oI hi'
  exact oI q
 simp only[fits,bA] at b5
 have f1:n*i.bytes≤140737488355328:=qd1_ b5.1
 have f2:n≤9223372036854775807:=qd1_ b5.2
 have hn0:0<n:=Nat.pos_of_ne_zero fun e=>by subst e; simp at hpos
 have run:=run_appZ (ty:=ty) (k:=k) w he hd hi hiz hn0 (by omega) f2 f1 (growslice_fits (by omega) (by exact f1))
 have hg:=qpl_ w n 0 e
 generalize hG:grownCap w n 0 e=G at run hg
 have e1:Builtin.zeroCells zv.cells n=⟨reps z n⟩:=qvm_ hzc _
 have hzs:(Builtin.zeroCells zv.cells (G-n)).size=(G-n)*i.size:=by simp[Builtin.zeroCells,hzc,hzl]
 have hm:(reps z n).length+(Builtin.zeroCells zv.cells (G-n)).size=G*i.size:=by
  rw[hzs,qfb_,hzl,←Nat.add_mul]; congr 1; omega
 obtain⟨h1,h2⟩:=qym_ hr.drew (qiw_ (qsa_ hzf n) σ) e (Builtin.zeroCells zv.cells (G-n)) _ hm.symm
 refine⟨.slice (some ⟨w.heap.size,0,none⟩) n G,_,_,?_,?_,h1,h2.of_drew⟩
 ·rw[run,e1]
 ·have:=VR.sliceU (σ:=σ.put H.next (w.drew.heap.size,0,G*i.size)) 0 0 n G i.size (Ren.put_self _ _ _) (by omega) (.inr rfl) (Nat.le_refl _) (by omega) hszb
  simpa using this
noncomputable def qk6_ (P:Program)(t u:TypeId)(s x:Value)(H:AH):VRes:=oc (q1g_ s x) (qvl_ P t u s x H) fun n=>opAppZ P t u n H
theorem append3_ok {P:Program}{n0:Bs}{σ:Ren}{H H':AH}{w:World}(hr:HR n0 σ H w){t u ty:TypeId}{s s' x x' v:Value}(h:qk6_ P t u s x H=some (v,H'))(hs:VR σ s s')(hx:VR σ x x') :
  Gives P n0 σ w (Builtin.append_ #[t,u] ty #[s',x']) v H':=by
 unfold qk6_ at h
 cases hz:q1g_ s x with
 | none=>rw[hz] at h; exact append_ok hr h hs hx
 | some n=>
  rw[hz] at h
  obtain⟨rfl,k,rfl⟩:=zCount_eq hz
  cases hs
  cases hx
  exact appZ_ok hr h
end Go.Proofs.YthlikofobjhcoaaGreat.Ax
namespace Go.Proofs.YthlikofobjhcoaaGreat.Ax
open Go.RowKit
variable [Tabs]
def isUnsD (d:TypeDesc):Bool:=
 match d with
 | .unsafePointer=>true
 | _=>false
noncomputable def unsB (P:Program)(t:TypeId):Bool:=oc (P.underlying t) false isUnsD
noncomputable def isUns (P:Program)(s d:TypeId):Bool:=unsB P s||unsB P d
noncomputable def qw7_ (P:Program)(s d:TypeId)(x:Value)(H:AH):Option Value:=none
theorem convPtr_ok {P:Program}{n0:Bs}{σ:Ren}{H:AH}{w:World}(hr:HR n0 σ H w){s d:TypeId}{x x' v:Value}(h:qw7_ P s d x H=some v)(hx:VR σ x x'):GivesP P n0 σ w H (convert s d x') v H:=by
 unfold qw7_ at h
 cases h
noncomputable def qto_ (x:Value)(H:AH):VRes:=none
theorem qyp_ {P:Program}{n0:Bs}{σ:Ren}{H H':AH}{w:World}(hr:HR n0 σ H w){ts:Array TypeId}{ty:TypeId}{x x' v:Value}(h:qto_ x H=some (v,H'))(hx:VR σ x x'):GivesP P n0 σ w H (Builtin.unsafeSliceData_ ts ty #[x']) v H':=by
 unfold qto_ at h
 cases h
noncomputable def opUStr (P:Program)(t:TypeId)(x y:Value)(H:AH):VRes:=none
theorem uStr_ok {P:Program}{n0:Bs}{σ:Ren}{H H':AH}{w:World}(hr:HR n0 σ H w){t t2 ty:TypeId}{x x' y y' v:Value}(h:opUStr P t x y H=some (v,H'))(hx:VR σ x x')(hy:VR σ y y'):Gives P n0 σ w (Builtin.unsafeString_ #[t,t2] ty #[x',y']) v H':=by
 unfold opUStr at h
 cases h
inductive ExtK where
 | same
 | row (e:TypeId)
noncomputable def extF (P:Program)(fn:Fn):Option ExtK:=none
def natArg (v:Value):Option Nat:=
 match v with
 | .int .i64 (.ofNat n)=>some n
 | _=>none
noncomputable def opExt (P:Program)(k:ExtK)(args:List Value)(H:AH):VRes:=
 match k,args with
 | .same,[x]=>some (x,H)
 | .row e,[x]=>oc (natArg x) none fun n=>sel (Nat.ble n 1000000000) (some (.slice (some ⟨H.next,0,none⟩) n (Nat.add big 1),H.push (.cells (layT (List.replicate n (.chan none))) e))) none
 | _,_=>none
theorem ext_ok {P:Program}{n0:Bs}{σ:Ren}{H H':AH}{w:World}(hr:HR n0 σ H w){fn:Fn}{k:ExtK}(hk:extF P fn=some k){l:List Value}{args:Array Value}{v:Value}(h:opExt P k l H=some (v,H'))(hl:VRs σ l args.toList) :
  ∃ g,fn=.func g∧∃ v' σ' w',(callFunc g args).run P w=.ok (.value v') w'∧VR σ' v v'∧HR n0 σ' H' w'∧Step n0 σ w H'.low σ' w':=by
 unfold extF at hk
 cases hk
end Go.Proofs.YthlikofobjhcoaaGreat.Ax
namespace Go.Proofs.YthlikofobjhcoaaGreat.Ax
open Go.RowKit
variable [Tabs]
noncomputable def sameP (P:Program)(kt:TypeId)(k k':Value):Option Bool:=pureS P (Op.equal kt k k')
noncomputable def findP (P:Program)(kt:TypeId)(k:Value)(l:List MapEntry):Nat→Option (Option (Nat×Value)):=
 @List.rec MapEntry (fun _=>Nat→Option (Option (Nat×Value))) (fun _=>some none) (fun e _ ih i=>oc (sameP P kt k e.key) none fun b=>oc (ih (Nat.succ i)) none fun r=>sel b (oc r (some (some (i,e.val))) fun _=>none) (some r)) l
theorem findP_cons (P:Program)(kt:TypeId)(k:Value)(e:MapEntry)(l:List MapEntry)(i:Nat):findP P kt k (e::l) i=oc (sameP P kt k e.key) none fun b=>oc (findP P kt k l (i+1)) none fun r=>sel b (oc r (some (some (i,e.val))) fun _=>none) (some r):=rfl
theorem findP_ok {P:Program}{kt:TypeId}{k:Value}:∀ {l:List MapEntry} {i:Nat} {r:Option (Nat×Value)},findP P kt k l i=some r →
  (r=none∧∀ e∈l,sameP P kt k e.key=some false)∨∃ n e,r=some (i+n,e.val)∧l[n]?=some e∧sameP P kt k e.key=some true∧∀ n' e',l[n']?=some e'→n' ≠ n→sameP P kt k e'.key=some false
 | [],i,r,h=>.inl ⟨(oI h).symm,fun e he=>by cases he⟩
 | a::l,i,r,h=>by
  rw[findP_cons] at h
  obtain⟨b,hb,h⟩:=oS h
  obtain⟨r',hr',h⟩:=oS h
  rcases qa_ h with⟨rfl,h⟩ | ⟨rfl,h⟩
  ·cases r' with
   | some _=>cases h
   | none=>
    obtain rfl:=oI h
    rcases findP_ok hr' with⟨_,h2⟩ | ⟨n,e,h2,_⟩
    ·refine .inr ⟨0,a,rfl,rfl,hb,fun n' e' he hne=>?_⟩
     cases n' with
     | zero=>exact absurd rfl hne
     | succ n'=>exact h2 e' (List.mem_of_getElem? (by simpa using he))
    ·cases h2
  ·obtain rfl:=oI h
   rcases findP_ok hr' with⟨rfl,h2⟩ | ⟨n,e,rfl,h3,h4,h5⟩
   ·refine .inl ⟨rfl,fun e he=>?_⟩
    rcases List.mem_cons.1 he with rfl | he
    ·exact hb
    ·exact h2 e he
   ·refine .inr ⟨n+1,e,by rw[show i+(n+1)=i+1+n from by omega],by simpa using h3,h4,fun n' e' he hne=>?_⟩
    cases n' with
    | zero=>simp at he; subst he; exact hb
    | succ n'=>exact h5 n' e' (by simpa using he) (by omega)
theorem q0l_ {P:Program}{w:World}{kt:TypeId}{k:Value}:∀ {l:List MapEntry} {i:Nat},(∀ e∈l,sameP P kt k e.key=some false)→(Instr.findAsking kt k l i).run P w=.ok none w
 | [],i,_=>rfl
 | e::l,i,h=>by
  unfold Instr.findAsking
  have h1:=qwi_ (h e (List.mem_cons_self ..)) w
  simp only[Sem.run_bind,h1,Result.andThen_ok,Bool.false_eq_true,if_false]
  exact q0l_ fun x hx=>h x (List.mem_cons_of_mem _ hx)
theorem asking_one {P:Program}{w:World}{kt:TypeId}{k:Value}{E:MapEntry}(hE:sameP P kt k E.key=some true):∀ {l:List MapEntry} {i:Nat},E∈l→(∀ e∈l,sameP P kt k e.key=some false∨e=E)→∃ n,l[n]?=some E∧(Instr.findAsking kt k l i).run P w=.ok (some (i+n,E.val)) w
 | [],i,h,_=>by cases h
 | e::l,i,h,hu=>by
  unfold Instr.findAsking
  rcases hu e (List.mem_cons_self ..) with h1 | rfl
  ·have hm:E∈l:=by
    rcases List.mem_cons.1 h with rfl | h
    ·rw[hE] at h1; cases h1
    ·exact h
   obtain⟨n,h2,h3⟩:=asking_one (P:=P) (w:=w) hE (i:=i+1) hm fun x hx=>hu x (List.mem_cons_of_mem _ hx)
   refine⟨n+1,by simpa using h2,?_⟩
   have h1:=qwi_ h1 w
   simp only[Sem.run_bind,h1,Result.andThen_ok,Bool.false_eq_true,if_false]
   rw[h3,show i+1+n=i+(n+1) from by omega]
  ·have h1:=qwi_ hE w
   exact⟨0,rfl,by simp only[Sem.run_bind,h1,Result.andThen_ok,if_true,Sem.run_pure]; rfl⟩
def notNow (d:TypeDesc):Bool:=
 match d with
 | .array _ _=>true
 | .struct _=>true
 | _=>false
theorem now_none {d:TypeDesc}(h:notNow d=true)(k k':Value):Instr.sameNow d k k'=none:=by
 unfold notNow at h
 split at h
 ·rfl
 ·rfl
 ·cases h
theorem qqj_ {P:Program}{w:World}{t:TypeId}{d:TypeDesc}(h:P.underlying t=some d)(hd:notNow d=true){k:Value}{es:List MapEntry}{r:Option (Nat×Value)}(hf:(Instr.findAsking t k es 0).run P w=.ok r w):(Instr.findKey t k es).run P w=.ok r w:=by
 unfold Instr.findKey
 simp only[Sem.run_bind,run_underlying h,Result.andThen_ok]
 cases es with
 | nil=>exact hf
 | cons e es=>
  have:Instr.findNow d k (e::es) 0=none:=by
   unfold Instr.findNow
   simp only[now_none hd]
  rw[this]
  exact hf
theorem findP_mp {P:Program}{w:World}{σ:Ren}{kt:TypeId}{k:Value}{es ES L:List MapEntry}(hp:L.Perm ES)(hm:MRs σ es L){r:Option (Nat×Value)}(h:findP P kt k es 0=some r) :
  (r=none∧(Instr.findAsking kt k ES 0).run P w=.ok none w)∨∃ i v E j,r=some (i,v)∧L[i]?=some E∧VR σ v E.val∧ES[j]?=some E∧(Instr.findAsking kt k ES 0).run P w=.ok (some (j,E.val)) w∧∃ e,es[i]?=some e∧E.key=e.key:=by
 rcases findP_ok h with⟨rfl,h1⟩ | ⟨n,e,rfl,h2,h3,h4⟩
 ·refine .inl ⟨rfl,q0l_ fun x hx=>?_⟩
  obtain⟨i,hi⟩:=List.getElem?_of_mem (hp.mem_iff.2 hx)
  obtain⟨e,he,hk,_⟩:=hm.at hi
  rw[hk]; exact h1 e (List.mem_of_getElem? he)
 ·obtain⟨E,hE,hk,hv⟩:=hm.to h2
  have hs:sameP P kt k E.key=some true:=by rw[hk]; exact h3
  obtain⟨j,hj,hf⟩:=asking_one (P:=P) (w:=w) hs (l:=ES) (i:=0) (hp.mem_iff.1 (List.mem_of_getElem? hE)) fun x hx=>by
   obtain⟨i,hi⟩:=List.getElem?_of_mem (hp.mem_iff.2 hx)
   by_cases hin:i=n
   ·subst hin
    rw[hE] at hi
    exact .inr (oI hi).symm
   ·obtain⟨e',he',hk',_⟩:=hm.at hi
    rw[hk']; exact .inl (h4 i e' he' hin)
  rw[Nat.zero_add] at hf ⊢
  exact .inr ⟨n,e.val,E,j,rfl,hE,hv,hj,hf,e,h2,hk⟩
noncomputable def chkK (P:Program)(kt:TypeId)(k:Value):Bool:=oc (pureS P (Instr.checkKey true 10000 kt k)) false fun _=>oc (pureS P (Instr.checkKey false 10000 kt k)) false fun _=>true
theorem chkK_ok {P:Program}{kt:TypeId}{k:Value}(h:chkK P kt k=true)(b:Bool)(w:World):(Instr.checkKey b 10000 kt k).run P w=.ok () w:=by
 unfold chkK at h
 cases h1:pureS P (Instr.checkKey true 10000 kt k) with
 | none=>rw[h1] at h; cases h
 | some u=>
  rw[h1,oc_some] at h
  cases h2:pureS P (Instr.checkKey false 10000 kt k) with
  | none=>rw[h2] at h; cases h
  | some u2=>
   cases b
   ·exact qwi_ h2 w
   ·exact qwi_ h1 w
noncomputable def qx1_ (P:Program)(t:TypeId)(x k:Value)(ok:Bool)(H:AH):VRes:=
 oc (mapB P t) none fun q=>oc (P.underlying q.1) none fun d=>sel (notNow d&&plain k) (sel (chkK P q.1 k) (oc (qor_ x) none fun b=>oc (mapEs H b) none fun es=>oc (findP P q.1 k es.1 0) none fun r=>lookRes P q.2 ok H r) none) (opLookup P t x k ok H)
theorem lookup2_ok {P:Program}{n0:Bs}{σ:Ren}{H H':AH}{w:World}(hr:HR n0 σ H w){t:TypeId}{x x' k k' v:Value}{ok:Bool}(h:qx1_ P t x k ok H=some (v,H'))(hx:VR σ x x')(hk:VR σ k k'):GivesP P n0 σ w H (Instr.lookup t x' k' ok) v H':=by
 obtain⟨q,hq,h⟩:=oS h
 obtain⟨d,hd,h⟩:=oS h
 rcases qa_ h with⟨hb,h⟩ | ⟨_,h⟩
 case inr=>exact lookup_ok hr h hx hk
 obtain⟨hck,h⟩:=sel_none h
 obtain⟨b,hb',h⟩:=oS h
 obtain⟨es,hes,h⟩:=oS h
 obtain⟨r,hf,h⟩:=oS h
 simp only[bA] at hb
 obtain rfl:=qng_ hb.2 hk
 obtain⟨c,rfl,hs⟩:=qni_ hb' hx
 obtain⟨ES,h1,h2,_⟩:=hr.mapEs hs hes
 have hu:=q0i_ hq
 obtain⟨⟨L,hL,hLr⟩,_,_⟩:=h2
 rcases findP_mp (P:=P) (w:=w) hL hLr hf with⟨rfl,hf'⟩ | ⟨i0,u,E,j,rfl,_,hv,_,hf',_⟩
 ·obtain⟨z,hz,h⟩:=oS h
  obtain⟨rfl,rfl⟩:=pI (oI h)
  obtain⟨z1,z2⟩:=run_zeroV hz w
  refine GivesP.pure (v':=sel ok (.tuple ⟨[z,.bool false]⟩) z) hr ?_ ?_
  ·unfold Instr.lookup
   simp only[Sem.run_bind,run_underlying hu,Result.andThen_ok,qg2_ h1,chkK_ok hck,qqj_ hd hb.1 hf',z1,Sem.run_pure]
   cases ok<;>rfl
  ·cases ok
   ·exact qx0_ z2 σ
   ·exact VRs.tuple (.cons (qx0_ z2 σ) (.cons (.bool _) .nil))
 ·obtain⟨rfl,rfl⟩:=pI (oI h)
  refine GivesP.pure (v':=sel ok (.tuple ⟨[E.val,.bool true]⟩) E.val) hr ?_ ?_
  ·unfold Instr.lookup
   simp only[Sem.run_bind,run_underlying hu,Result.andThen_ok,qg2_ h1,chkK_ok hck,qqj_ hd hb.1 hf',Sem.run_pure]
   cases ok<;>rfl
  ·cases ok
   ·exact hv
   ·exact VRs.tuple (.cons hv (.cons (.bool _) .nil))
noncomputable def bitsAt (es:List MapEntry)(k:Value)(r:Option (Nat×Value)):Bool:=oc r true fun p=>oc (es[p.1]?) false fun e=>Instr.sameBits 10000 e.key k
noncomputable def qos_ (P:Program)(t:TypeId)(x k v:Value)(H:AH):VRes:=
 oc (mapB P t) none fun q=>oc (P.underlying q.1) none fun d=>sel (notNow d&&plain k) (sel (chkK P q.1 k) (oc (qor_ x) none fun b=>oc (mapEs H b) none fun es=>oc (findP P q.1 k es.1 0) none fun r=>sel (bitsAt es.1 k r) (some (undef,H.setB b (updEs es k v r))) none) none) (opUpdate P t x k v H)
theorem qw8_ {P:Program}{n0:Bs}{σ:Ren}{H H':AH}{w:World}(hr:HR n0 σ H w){t:TypeId}{x x' k k' v v' u:Value}(h:qos_ P t x k v H=some (u,H'))(hx:VR σ x x')(hk:VR σ k k')(hv:VR σ v v'):u=undef∧∃ b,qor_ x=some b∧GivesM P n0 σ w b (Instr.mapUpdate t x' k' v') H':=by
 obtain⟨q,hq,h⟩:=oS h
 obtain⟨d,hd,h⟩:=oS h
 rcases qa_ h with⟨hb,h⟩ | ⟨_,h⟩
 case inr=>exact update_sameX hr h hx hk hv
 obtain⟨hck,h⟩:=sel_none h
 obtain⟨b,hb',h⟩:=oS h
 obtain⟨es,hes,h⟩:=oS h
 obtain⟨r,hf,h⟩:=oS h
 obtain⟨hbits,h⟩:=sel_none h
 obtain⟨rfl,rfl⟩:=pI (oI h)
 simp only[bA] at hb
 obtain rfl:=qng_ hb.2 hk
 obtain⟨c,rfl,hs⟩:=qni_ hb' hx
 obtain⟨ES,h1,h2,h3⟩:=hr.mapEs hs hes
 have hu:=q0i_ hq
 refine⟨rfl,b,hb',?_⟩
 have h2':=h2
 obtain⟨⟨L,hL,hLr⟩,hnd,hbn⟩:=h2
 rcases findP_mp (P:=P) (w:=w) hL hLr hf with⟨rfl,hf'⟩ | ⟨i0,y,E,j,rfl,hi0,_,hj,hf',e,he,hek⟩
 ·obtain⟨g1,g2⟩:=hr.setObj h3 hs (x:=updEs es k' v none) (o:=.map ⟨ES ++ [⟨k',v',es.2⟩]⟩ (es.2+1)) ⟨_,rfl,MPs.push (e:=⟨k',v,es.2⟩) (e':=⟨k',v',es.2⟩) rfl hv rfl h2',rfl,rfl⟩
  refine⟨c,_,hs,?_,g1,g2,fun q hq=>qtn_ hq⟩
  unfold Instr.mapUpdate
  simp only[Sem.run_bind,run_underlying hu,Result.andThen_ok,qg2_ h1,chkK_ok hck,qqj_ hd hb.1 hf',qpm_ h1]
  simp
 ·have hM:MPs σ (es.1.modify i0 fun e=>{ e with key:=k',val:=v }) (ES.modify j fun e=>{ e with key:=k',val:=v' }) es.2:=by
   refine⟨⟨_,q0k_ hL hi0 hj,hLr.modify hv i0⟩,?_,fun x hx=>?_⟩
   ·rw[qnj_ (f:=fun e=>{ e with key:=k',val:=v' }) (fun _=>rfl)]; exact hnd
   ·have hx':x.born∈(ES.modify j fun e=>{ e with key:=k',val:=v' }).map (·.born):=List.mem_map.2 ⟨x,hx,rfl⟩
    rw[qnj_ (f:=fun e=>{ e with key:=k',val:=v' }) (fun _=>rfl)] at hx'
    obtain⟨z,hz,hzb⟩:=List.mem_map.1 hx'
    rw[←hzb]; exact hbn z hz
  obtain⟨g1,g2⟩:=hr.setObj h3 hs (x:=updEs es k' v (some (i0,y))) (o:=.map ⟨ES.modify j fun e=>{ e with key:=k',val:=v' }⟩ es.2) ⟨_,rfl,hM,rfl,rfl⟩
  refine⟨c,_,hs,?_,g1,g2,fun q hq=>qtn_ hq⟩
  have hb2:Instr.sameBits 10000 E.key k'=true:=by
   have hbits:oc (es.1[i0]?) false (fun e=>Instr.sameBits 10000 e.key k')=true:=hbits
   rw[he,oc_some] at hbits
   rw[hek]; exact hbits
  have hkey:(((⟨ES⟩:Array MapEntry)[j]?).map (·.key)).getD k'=E.key:=by simp[hj]
  unfold Instr.mapUpdate
  simp only[Sem.run_bind,run_underlying hu,Result.andThen_ok,qg2_ h1,chkK_ok hck,qqj_ hd hb.1 hf',Instr.keyThatStays,hkey,hb2,if_true,Sem.run_pure,qpm_ h1]
  simp
theorem qyq_ {P:Program}{n0:Bs}{σ:Ren}{H H':AH}{w:World}(hr:HR n0 σ H w){t:TypeId}{x x' k k' v v' u:Value}(h:qos_ P t x k v H=some (u,H'))(hx:VR σ x x')(hk:VR σ k k')(hv:VR σ v v'):u=undef∧GivesE P n0 σ w (Instr.mapUpdate t x' k' v') H':=
 let ⟨h1,_,_,h2⟩:=qw8_ hr h hx hk hv
 ⟨h1,h2.e⟩
theorem update2_ok {P:Program}{n0:Bs}{σ:Ren}{H H':AH}{w:World}(hr:HR n0 σ H w){t:TypeId}{x x' k k' v v' u:Value}(h:qos_ P t x k v H=some (u,H'))(hx:VR σ x x')(hk:VR σ k k')(hv:VR σ v v'):u=undef∧GivesU P n0 σ w (Instr.mapUpdate t x' k' v') H':=
 let ⟨h1,h2⟩:=qyq_ hr h hx hk hv
 ⟨h1,h2.toU⟩
theorem qsd_ {E:MapEntry}:∀ {l:List MapEntry} {i:Nat},l[i]?=some E→(E::l.eraseIdx i).Perm l
 | [],i,h=>by simp at h
 | a::l,0,h=>by
  obtain rfl:=oI h
  exact .refl _
 | a::l,i+1,h=>by
  have h:l[i]?=some E:=by simpa using h
  exact (List.Perm.swap a E _).trans ((qsd_ h).cons a)
theorem perm_eraseIdx {L ES:List MapEntry}(hp:L.Perm ES){i j:Nat}{E:MapEntry}(hi:L[i]?=some E)(hj:ES[j]?=some E):(L.eraseIdx i).Perm (ES.eraseIdx j):=
 (((qsd_ hi).trans hp).trans (qsd_ hj).symm).cons_inv
theorem MRs.eraseIdx {σ:Ren}{es L:List MapEntry}(h:MRs σ es L):∀ i,MRs σ (es.eraseIdx i) (L.eraseIdx i):=by
 induction h with
 | nil=>exact fun i=>.nil
 | cons hk hv _ ih=>
  intro i
  cases i with
  | zero=>assumption
  | succ i=>exact .cons hk hv (ih i)
noncomputable def delEs (es:List MapEntry×Nat)(r:Option (Nat×Value)):ABlk:=oc r (.map es.1 es.2) fun p=>.map (es.1.eraseIdx p.1) es.2
noncomputable def opDelete (P:Program)(t:TypeId)(x k:Value)(H:AH):VRes:=
 oc (mapB P t) none fun q=>oc (P.underlying q.1) none fun d=>sel (qyn_ d&&flat k) (oc (qor_ x) none fun b=>oc (mapEs H b) none fun es=>oc (findU d k es.1 0) none fun r=>some (.tuple #[],H.setB b (delEs es r))) none
theorem delete_ok {P:Program}{n0:Bs}{σ:Ren}{H H':AH}{w:World}(hr:HR n0 σ H w){t u ty:TypeId}{x x' k k' v:Value}(h:opDelete P t x k H=some (v,H'))(hx:VR σ x x')(hk:VR σ k k'):Gives P n0 σ w (Builtin.delete_ #[t,u] ty #[x',k']) v H':=by
 obtain⟨q,hq,h⟩:=oS h
 obtain⟨d,hd,h⟩:=oS h
 obtain⟨hb,h⟩:=sel_none h
 obtain⟨b,hb',h⟩:=oS h
 obtain⟨es,hes,h⟩:=oS h
 obtain⟨r,hf,h⟩:=oS h
 obtain⟨rfl,rfl⟩:=pI (oI h)
 simp only[bA] at hb
 obtain rfl:=qfs_ hb.2 hk
 obtain⟨c,rfl,hs⟩:=qni_ hb' hx
 obtain⟨ES,h1,h2,h3⟩:=hr.mapEs hs hes
 have hu:=q0i_ hq
 have h2':=h2
 obtain⟨⟨L,hL,hLr⟩,hnd,hbn⟩:=h2
 have e1:(#[t,u]:Array TypeId)[0]?=some t:=rfl
 have e2:(#[Value.map (some c),k']:Array Value)[0]?=some (.map (some c)):=rfl
 have e3:(#[Value.map (some c),k']:Array Value)[1]?=some k':=rfl
 rcases findU_mp hL hLr hf with⟨rfl,hf'⟩ | ⟨i0,y,E,j,rfl,hi0,_,hj,hf',_⟩
 ·obtain⟨g1,g2⟩:=hr.setObj h3 hs (x:=delEs es none) (o:=.map ⟨ES⟩ es.2) ⟨_,rfl,h2',rfl,rfl⟩
  refine⟨_,σ,_,?_,VRs.tuple (l:=[]) (l':=[]) .nil,g1,g2⟩
  unfold Builtin.delete_
  simp only[e1,e2,e3,Sem.run_bind,run_underlying hu,Result.andThen_ok,qg2_ h1,qkx_ hd hb.1,qnb_ hd hf',qpm_ h1,Sem.run_pure]
 ·have hM:MPs σ (es.1.eraseIdx i0) (ES.eraseIdx j) es.2:=by
   refine⟨⟨_,perm_eraseIdx hL hi0 hj,hLr.eraseIdx i0⟩,?_,fun x hx=>hbn x ((List.eraseIdx_sublist ES j).mem hx)⟩
   exact ((List.eraseIdx_sublist ES j).map _).nodup hnd
  obtain⟨g1,g2⟩:=hr.setObj h3 hs (x:=delEs es (some (i0,y))) (o:=.map ⟨ES.eraseIdx j⟩ es.2) ⟨_,rfl,hM,rfl,rfl⟩
  refine⟨_,σ,_,?_,VRs.tuple (l:=[]) (l':=[]) .nil,g1,g2⟩
  have hjl:j<ES.length:=(List.getElem?_eq_some_iff.1 hj).1
  have e4:(⟨ES⟩:Array MapEntry).eraseIdxIfInBounds j=⟨ES.eraseIdx j⟩:=by
   unfold Array.eraseIdxIfInBounds
   rw[dif_pos (by simpa using hjl)]
   apply Array.ext'
   simp
  unfold Builtin.delete_
  simp only[e1,e2,e3,Sem.run_bind,run_underlying hu,Result.andThen_ok,qg2_ h1,qkx_ hd hb.1,qnb_ hd hf',e4,qpm_ h1,Sem.run_pure]
end Go.Proofs.YthlikofobjhcoaaGreat.Ax
namespace Go.Proofs.YthlikofobjhcoaaGreat.Ax
open Go.RowKit
variable [Tabs]
def isIfD (d:TypeDesc):Bool:=
 match d with
 | .interface _=>true
 | _=>false
def isPtrD (d:TypeDesc):Bool:=
 match d with
 | .pointer _=>true
 | _=>false
noncomputable def opIface (P:Program)(t:TypeId)(x:Value)(H:AH):VRes:=oc (P.underlying t) none fun d=>sel (isIfD d) none (some (.iface t x,H))
theorem iface_ok {P:Program}{n0:Bs}{σ:Ren}{H H':AH}{w:World}(hr:HR n0 σ H w){t:TypeId}{x x' v:Value}(h:opIface P t x H=some (v,H'))(hx:VR σ x x'):GivesP P n0 σ w H (Instr.makeInterface t x') v H':=by
 obtain⟨d,hd,h⟩:=oS h
 rcases qa_ h with⟨_,h⟩ | ⟨hi,h⟩
 ·cases h
 obtain⟨rfl,rfl⟩:=pI (oI h)
 refine GivesP.pure (v':=.iface t x') hr ?_ (.iface t hx)
 unfold Instr.makeInterface
 simp only[Sem.run_bind,run_underlying hd,Result.andThen_ok]
 cases d<;>first | rfl | cases hi
def ifaceOf (v:Value):Option (TypeId×Value):=
 match v with
 | .iface t x=>some (t,x)
 | _=>none
noncomputable def q1h_ (P:Program)(x:Value)(t:TypeId)(ok:Bool)(H:AH):VRes:=
 sel ok (oc (ifaceOf x) none fun q=>sel (Nat.beq q.1 t) (oc (P.underlying t) none fun d=>sel (isIfD d) none (some (.tuple ⟨[q.2,.bool true]⟩,H))) none) none
theorem assert_ok {P:Program}{n0:Bs}{σ:Ren}{H H':AH}{w:World}(hr:HR n0 σ H w){xt t:TypeId}{ok:Bool}{x x' v:Value}(h:q1h_ P x t ok H=some (v,H'))(hx:VR σ x x'):GivesP P n0 σ w H (Instr.typeAssert x' xt t ok) v H':=by
 obtain⟨hok,h⟩:=sel_none h
 subst hok
 obtain⟨q,hq,h⟩:=oS h
 obtain⟨ht,h⟩:=sel_none h
 obtain⟨d,hd,h⟩:=oS h
 rcases qa_ h with⟨_,h⟩ | ⟨hi,h⟩
 ·cases h
 obtain⟨rfl,rfl⟩:=pI (oI h)
 have ht:=nB ht
 have hxq:x=.iface q.1 q.2:=by
  unfold ifaceOf at hq
  split at hq
  ·obtain rfl:=oI hq; rfl
  ·cases hq
 rw[hxq,ht] at hx
 cases hx with
 | @iface _ _ y hy=>
  refine GivesP.pure (v':=.tuple ⟨[y,.bool true]⟩) hr ?_ (VRs.tuple (.cons hy (.cons (.bool _) .nil)))
  unfold Instr.typeAssert
  simp only[Sem.run_bind,run_underlying hd,Result.andThen_ok]
  cases d<;>first | (simp; done) | (simp; rfl) | cases hi
def methOf (d:TypeDesc)(f:Option (FuncId×Bool)):Option FuncId:=
 match f with
 | some (g,true)=>bif isPtrD d then some g else none
 | some (g,false)=>bif isPtrD d then none else some g
 | none=>none
noncomputable def methG (P:Program)(t:TypeId)(name:String):Option FuncId:=
 oc (P.info? t) none fun i=>oc (i.methods.toList.find? fun m=>m.name == name) none fun m=>oc (P.underlying t) none fun d=>sel m.path.isEmpty (methOf d m.func) none
theorem method_run {P:Program}{t:TypeId}{name:String}{f:FuncId}(h:methG P t name=some f)(v:Value)(w:World):(Go.method (P.types.size+Made.depth) t v name).run P w=.ok (f,v) w:=by
 obtain⟨i,hi,h⟩:=oS h
 obtain⟨m,hm,h⟩:=oS h
 obtain⟨d,hd,h⟩:=oS h
 obtain⟨hp,h⟩:=sel_none h
 rw[Array.find?_toList] at hm
 have hpe:m.path.toList=[]:=by
  cases hq:m.path with
  | mk l=>rw[hq] at hp; cases l<;>first | rfl | cases hp
 have e:P.types.size+Made.depth=(P.types.size+99)+1:=rfl
 rw[e]
 unfold Go.method
 simp only[Sem.run_bind,typeInfo,program,Sem.run,hi,Result.andThen_ok,Sem.run_pure,hm,hpe,Go.follow]
 unfold methOf at h
 split at h
 ·rename_i g e1
  cases hd':isPtrD d with
  | false=>rw[hd'] at h; cases h
  | true=>
   rw[hd'] at h
   obtain rfl:=oI h
   rw[e1]
   cases d<;>first | cases hd' | skip
   simp[Go.receiverAt,Sem.run_bind,run_underlying hd,Go.Place.get]
 ·rename_i g e1
  cases hd':isPtrD d with
  | true=>rw[hd'] at h; cases h
  | false=>
   rw[hd'] at h
   obtain rfl:=oI h
   rw[e1]
   cases d<;>first | (simp[Go.receiverAt,Sem.run_bind,run_underlying hd,Go.Place.get]; done) | cases hd'
 ·cases h
theorem nilAhead_run {P:Program}{t:TypeId}{name:String}{f:FuncId}(h:methG P t name=some f)(v:Value)(w:World):(Go.nilAhead (P.types.size+Made.depth) t v name).run P w=.ok (some false) w:=by
 obtain⟨i,hi,h⟩:=oS h
 obtain⟨m,hm,h⟩:=oS h
 obtain⟨d,hd,h⟩:=oS h
 obtain⟨hp,h⟩:=sel_none h
 rw[Array.find?_toList] at hm
 have hpe:m.path.toList=[]:=by
  cases hq:m.path with
  | mk l=>rw[hq] at hp; cases l<;>first | rfl | cases hp
 have e:P.types.size+Made.depth=(P.types.size+99)+1:=rfl
 rw[e]
 unfold Go.nilAhead
 simp only[Sem.run_bind,typeInfo,program,Sem.run,hi,Result.andThen_ok,Sem.run_pure,hm,hpe,Go.followBlind]
 unfold methOf at h
 split at h
 ·rename_i g e1
  simp[e1,Sem.run]
 ·rename_i g e1
  cases hd':isPtrD d with
  | true=>rw[hd'] at h; cases h
  | false=>
   simp only[e1,Sem.run_bind,run_underlying hd,Result.andThen_ok]
   cases d<;>first | (simp[Sem.run]; done) | cases hd'
 ·cases h
def qvn_ (v:Value):Option (String×TypeId×Value):=
 match v with
 | .func (.method s) x y=>(match x.toList,y.toList with
  | [.iface t u],[]=>some (s,t,u)
  | _,_=>none)
 | _=>none
theorem methVal_vr {σ:Ren}{v v':Value}{q:String×TypeId×Value}(h:qvn_ v=some q)(hv:VR σ v v'):∃ u',v'=.func (.method q.1) #[.iface q.2.1 u'] #[]∧VR σ q.2.2 u':=by
 unfold qvn_ at h
 split at h
 ·rename_i s x y
  split at h
  ·rename_i t u ex ey
   obtain rfl:=oI h
   cases hv with
   | @func _ _ _ x' _ y' hf hx hxs hy hys=>
    cases hf
    have e1:=VRs.arr hx hxs
    have e2:=VRs.arr hy hys
    rw[ex] at e1
    rw[ey] at e2
    have hy':y'=#[]:=by
     cases y' with
     | mk l=>cases e2; rfl
    obtain⟨z,hz,hzr⟩:∃ z,x'=#[z]∧VR σ (.iface t u) z:=by
     cases x' with
     | mk l=>
      cases e1 with
      | cons h1 h2=>cases h2; exact⟨_,rfl,h1⟩
    subst hy' hz
    cases hzr with
    | iface _ hu=>exact⟨_,rfl,hu⟩
  ·cases h
 ·cases h
end Go.Proofs.YthlikofobjhcoaaGreat.Ax
