/-
 Arguments that are slices of structs, with slices of ints inside, opened as windows. Own work, plain lemmas. No condition.
-/
import Derived.Laws.IdiomArrays
import Derived.Lib.SmallJoins
import Derived.SizedLaws
import Derived.Test.YthlikofobjhcoaaGreatWinArg
import Derived.ChangeArms
import Derived.DataReads
set_option linter.unusedSimpArgs false
set_option linter.unusedVariables false
set_option linter.unusedSectionVars false
noncomputable section
namespace Go.Proofs.YthlikofobjhcoaaGreat.Ax
open Go Go.ChangeShapes Go.WideShapes
def pairN (a b:Nat):Nat:=2 ^ a*(2*b+1)
theorem qov_:∀ {a b a' b':Nat},pairN a b=pairN a' b'→a=a'∧b=b'
 | 0,b,0,b',h=>by simp[pairN] at h; omega
 | 0,b,a' + 1,b',h=>by
  exfalso
  simp only[pairN,Nat.pow_zero,Nat.one_mul,Nat.pow_succ] at h
  rw[Nat.mul_comm (2 ^ a') 2,Nat.mul_assoc] at h
  omega
 | a+1,b,0,b',h=>by
  exfalso
  simp only[pairN,Nat.pow_zero,Nat.one_mul,Nat.pow_succ] at h
  rw[Nat.mul_comm (2 ^ a) 2,Nat.mul_assoc] at h
  omega
 | a+1,b,a' + 1,b',h=>by
  simp only[pairN,Nat.pow_succ] at h
  rw[Nat.mul_comm (2 ^ a) 2,Nat.mul_comm (2 ^ a') 2,Nat.mul_assoc,Nat.mul_assoc] at h
  have h:pairN a b=pairN a' b':=by unfold pairN; omega
  obtain⟨h1,h2⟩:=qov_ h
  exact⟨by rw[h1],h2⟩
def encN (b d n:Nat):Nat:=pairN b (pairN d n)
theorem encN_inj {b d n b' d' n':Nat}(h:encN b d n=encN b' d' n'):b=b'∧d=d'∧n=n':=by
 obtain⟨h1,h2⟩:=qov_ h
 obtain⟨h3,h4⟩:=qov_ h2
 exact⟨h1,h3,h4⟩
def zig (n:Int):Nat:=match n with
 | .ofNat k=>2*k
 | .negSucc k=>2*k+1
theorem zig_inj {a b:Int}(h:zig a=zig b):a=b:=by
 cases a<;>cases b<;>simp only[zig] at h
 ·congr 1; omega
 ·omega
 ·omega
 ·congr 1; omega
theorem qx9_ {a b:Nat}:0<pairN a b:=Nat.mul_pos (Nat.pow_pos (by decide)) (by omega)
def codN (l:List UInt8):Nat:=match l with
 | []=>0
 | x::l=>pairN x.toNat (codN l)
theorem codN_inj:∀ {l m:List UInt8},codN l=codN m→l=m
 | [],[],_=>rfl
 | [],y::m,h=>absurd h (Nat.ne_of_lt qx9_)
 | x::l,[],h=>absurd h.symm (Nat.ne_of_lt qx9_)
 | x::l,y::m,h=>by
  obtain⟨h1,h2⟩:=qov_ (show pairN x.toNat (codN l)=pairN y.toNat (codN m) from h)
  rw[UInt8.toNat_inj.1 h1,codN_inj h2]
def codV (v:Value):Nat:=match v with
 | .int .i64 z=>7*zig z+1
 | .int .u64 z=>7*zig z+2
 | .int .u8 z=>7*zig z+3
 | .bool b=>7*b.toNat+4
 | .string s=>7*codN s.data.toList+5
 | .slice (some ⟨j,o,some 1⟩) n k=>7*pairN j (pairN o (pairN n k))+6
 | _=>0
def okV (v:Value):Bool:=match v with
 | .int .i64 _=>true
 | .int .u64 _=>true
 | .int .u8 _=>true
 | .bool _=>true
 | .string _=>true
 | .slice (some ⟨_,_,some 1⟩) _ _=>true
 | _=>false
theorem okV_cases {v:Value}(h:okV v=true):(∃ z,v=.int .i64 z)∨(∃ z,v=.int .u64 z)∨(∃ z,v=.int .u8 z)∨(∃ b,v=.bool b)∨(∃ s,v=.string s)∨∃ j o n k,v=.slice (some ⟨j,o,some 1⟩) n k:=by
 unfold okV at h
 split at h
 ·exact .inl ⟨_,rfl⟩
 ·exact .inr (.inl ⟨_,rfl⟩)
 ·exact .inr (.inr (.inl ⟨_,rfl⟩))
 ·exact .inr (.inr (.inr (.inl ⟨_,rfl⟩)))
 ·exact .inr (.inr (.inr (.inr (.inl ⟨_,rfl⟩))))
 ·exact .inr (.inr (.inr (.inr (.inr ⟨_,_,_,_,rfl⟩))))
 ·cases h
theorem codV_inj {v u:Value}(hv:okV v=true)(hu:okV u=true)(h:codV v=codV u):v=u:=by
 rcases okV_cases hv with⟨a,rfl⟩ | ⟨a,rfl⟩ | ⟨a,rfl⟩ | ⟨a,rfl⟩ | ⟨a,rfl⟩ | ⟨j,o,n,k,rfl⟩ <;>
  rcases okV_cases hu with⟨c,rfl⟩ | ⟨c,rfl⟩ | ⟨c,rfl⟩ | ⟨c,rfl⟩ | ⟨c,rfl⟩ | ⟨j',o',n',k',rfl⟩<;>simp only[codV] at h<;>first | (exfalso; omega) | skip
 ·rw[zig_inj (by omega:zig a=zig c)]
 ·rw[zig_inj (by omega:zig a=zig c)]
 ·rw[zig_inj (by omega:zig a=zig c)]
 ·cases a<;>cases c<;>first | rfl | (simp at h)
 ·have:=codN_inj (l:=a.data.toList) (m:=c.data.toList) (by omega)
  obtain⟨a⟩:=a
  obtain⟨c⟩:=c
  have e:a=c:=Array.toList_inj.1 this
  subst e; rfl
 ·obtain⟨h1,h2⟩:=qov_ (a:=j) (b:=pairN o (pairN n k)) (a':=j') (b':=pairN o' (pairN n' k')) (by omega)
  obtain⟨h2,h3⟩:=qov_ h2
  obtain⟨h3,h4⟩:=qov_ h3
  subst h1 h2 h3 h4; rfl
def codL (l:List Value):Nat:=match l with
 | []=>0
 | x::l=>pairN (codV x) (codL l)
def okVs:List Value→Bool
 | []=>true
 | x::l=>okV x&&okVs l
theorem codL_inj:∀ {l m:List Value},okVs l=true→okVs m=true→codL l=codL m→l=m
 | [],[],_,_,_=>rfl
 | [],y::m,_,_,h=>absurd h (Nat.ne_of_lt qx9_)
 | x::l,[],_,_,h=>absurd h.symm (Nat.ne_of_lt qx9_)
 | x::l,y::m,h1,h2,h=>by
  simp only[okVs,Bool.and_eq_true] at h1 h2
  obtain⟨e1,e2⟩:=qov_ (show pairN (codV x) (codL l)=pairN (codV y) (codL m) from h)
  rw[codV_inj h1.1 h2.1 e1,codL_inj h1.2 h2.2 e2]
open Classical in
def dec (n:Nat):List Value:=if h:∃ l,okVs l=true∧codL l=n then h.choose else []
theorem dec_cod {l:List Value}(hl:okVs l=true):dec (codL l)=l:=by
 have h:∃ m,okVs m=true∧codL m=codL l:=⟨l,hl,rfl⟩
 unfold dec
 rw[dif_pos h]
 exact codL_inj h.choose_spec.1 hl h.choose_spec.2
theorem q01_:∀ {l m:List Value},okVs l=true→okVs m=true→okVs (l++m)=true
 | [],_,_,h=>h
 | x::l,m,h,k=>by
  simp only[okVs,Bool.and_eq_true,List.cons_append] at *
  exact⟨h.1,q01_ h.2 k⟩
theorem okVs_get:∀ {l:List Value} {i:Nat} {v:Value},okVs l=true→l[i]?=some v→okV v=true
 | x::l,i,v,h,hv=>by
  simp only[okVs,Bool.and_eq_true] at h
  cases i with
  | zero=>
       obtain rfl:x=v:=by simpa using hv
       exact h.1
  | succ i=>exact okVs_get h.2 (by simpa using hv)
 | [],i,v,_,hv=>by simp at hv
theorem okVs_iv (l:List Int):okVs (iv l)=true:=by
 induction l with
 | nil=>rfl
 | cons x l ih=>exact ih
theorem q1u_ {α:Type}{f:α→List Value}(hf:∀ a,okVs (f a)=true):∀ l:List α,okVs (rows f l)=true
 | []=>rfl
 | x::l=>q01_ (hf x) (q1u_ hf l)
theorem okV_frz {v:Value}(h:okV v=true):frzV v=true:=by
 unfold okV at h
 split at h<;>first | rfl | cases h
def cod (l:List Int):Nat:=codL (iv l)
class Nest where
 raw:Nat→Option (Nat×Nat×List Value)
def Nest.nest [Nest](k:Nat):Option (Nat×Nat×List Value):=cond (Nat.beq (Nat.mod k 2) 1) (some (0,0,dec (Nat.div k 2))) (Nest.raw (Nat.div k 2))
theorem nest_even [Nest](k:Nat):Nest.nest (2*k)=Nest.raw k:=by
 unfold Nest.nest
 rw[show Nat.beq (Nat.mod (2*k) 2) 1=false from by show Nat.beq (2*k % 2) 1=false; rw[Nat.mul_mod_right]; rfl,show Nat.div (2*k) 2=k from Nat.mul_div_cancel_left k (by decide)]
 rfl
theorem q1v_ [Nest]{l:List Value}(hl:okVs l=true):Nest.nest (2*codL l+1)=some (0,0,l):=by
 unfold Nest.nest
 rw[show Nat.beq (Nat.mod (2*codL l+1) 2) 1=true from by show Nat.beq ((2*codL l+1) % 2) 1=true; rw[show (2*codL l+1) % 2=1 by omega]; rfl,show Nat.div (2*codL l+1) 2=codL l from (by show (2*codL l+1) / 2=_; omega),dec_cod hl]
 rfl
theorem nest_odd [Nest](l:List Int):Nest.nest (2*cod l+1)=some (0,0,iv l):=q1v_ (okVs_iv l)
theorem nest_raw [Nest]{k:Nat}(h:k % 2=0):Nest.nest k=Nest.raw (k / 2):=by
 have:=nest_even (k / 2)
 rwa [show 2*(k / 2)=k by omega] at this
@[reducible] def tabs00:Tabs:={ tab:=fun _=>none }
structure NL [Nest] where
 num:Nat
 off:Nat
 cap:Nat
 l:List Int
 ok:l=[]∨∃ b d R,Nest.nest num=some (b,d,R)∧rdL R (Nat.mul l.length 1) off=some (iv l)
 le:l.length≤140737488355328
def nl0 [Nest]:NL:=⟨0,0,0,[],.inl rfl,by decide⟩
def nlV [Nest](x:NL):Value:=.slice (some ⟨Nat.add x.num 64,x.off,some 1⟩) x.l.length x.cap
theorem rdL_sub {R r:List Value}{n o:Nat}(h:rdL R n o=some r)(p m:Nat)(hp:p+m≤n):rdL R m (o+p)=some ((r.drop p).take m):=by
 obtain⟨h1,h2⟩:=@q0f_ tabs00 _ _ _ _ h
 refine @qwx_ tabs00 _ _ _ _ (by rw[List.length_take,List.length_drop]; omega) fun j hj=>?_
 rw[List.getElem?_take_of_lt hj,List.getElem?_drop]
 cases hv:r[p+j]? with
 | none=>rw[List.getElem?_eq_none_iff] at hv; omega
 | some v=>rw[Nat.add_assoc]; exact h2 _ v hv
theorem iv_sub (l:List Int)(a m:Nat):iv ((l.drop a).take m)=((iv l).drop a).take m:=by rw[iv,iv,List.map_take,List.map_drop]
theorem sub_ln {α:Type}{l:List α}{a b:Nat}(h:a≤b∧b≤l.length):((l.drop a).take (b-a)).length=b-a:=by rw[List.length_take,List.length_drop]; omega
def nlSub [Nest](x:NL)(a b:Nat)(h:a≤b∧b≤x.l.length):NL:=⟨x.num,Nat.add x.off a,x.cap-a,(x.l.drop a).take (b-a),by
 rcases x.ok with e | ⟨c,d,R,h1,h2⟩
 ·exact .inl (by rw[e]; simp)
 ·refine .inr ⟨c,d,R,h1,?_⟩
  have h3:=rdL_sub h2 a (b-a) (by show a+(b-a)≤x.l.length*1; omega)
  rw[sub_ln h,iv_sub,show Nat.mul (b-a) 1=b-a from Nat.mul_one _]
  exact h3,by rw[sub_ln h]; have:=x.le; omega⟩
def nlQ [Nest](l:List NL):Value:=
 match l with
 | []=>.slice none 0 0
 | a::_=>nlV a
def IntsAtW (w:World)(b d:Nat)(l:List Int):Prop:=∀ j,j<l.length→w.cell? ⟨b,d+j,none⟩=some (.int .i64 (l.getD j 0))
open Classical in
@[reducible] noncomputable def nestOf (w:World):Nest:=⟨fun k=>
 if h:∃ t:Nat×Nat×List Int,encN t.1 t.2.1 t.2.2.length=k∧IntsAtW w t.1 t.2.1 t.2.2 then some (h.choose.1,h.choose.2.1,iv h.choose.2.2) else none⟩
theorem IntsAtW.same {w:World}{b d:Nat}{l m:List Int}(h:IntsAtW w b d l)(k:IntsAtW w b d m)(hl:l.length=m.length):l=m:=by
 refine List.ext_getElem hl fun i h1 h2=>?_
 have a:=h i h1
 have c:=k i h2
 rw[a] at c
 have:=Option.some.inj c
 injection this with _ this
 simpa [List.getD_eq_getElem?_getD,h1,h2] using this
theorem nestOf_enc {w:World}{b d:Nat}{l:List Int}(h:IntsAtW w b d l):(nestOf w).raw (encN b d l.length)=some (b,d,iv l):=by
 have hex:∃ t:Nat×Nat×List Int,encN t.1 t.2.1 t.2.2.length=encN b d l.length∧IntsAtW w t.1 t.2.1 t.2.2:=⟨(b,d,l),rfl,h⟩
 unfold nestOf
 simp only[dif_pos hex]
 obtain⟨h1,h2⟩:=hex.choose_spec
 obtain⟨e1,e2,e3⟩:=encN_inj h1
 rw[e1,e2] at h2
 rw[e1,e2,h2.same h e3]
theorem nestOf_win {w:World}{k b d:Nat}{c:List Value}(h:(nestOf w).raw k=some (b,d,c)):∃ l,c=iv l∧IntsAtW w b d l:=by
 unfold nestOf at h
 simp only at h
 split at h
 ·rename_i hex
  have h:=Option.some.inj h
  injection h with h1 h2
  injection h2 with h2 h3
  subst h1 h2 h3
  exact⟨_,rfl,hex.choose_spec.2⟩
 ·cases h
def CR [Nest](w:World)(v v':Value):Prop:=(v'=v∧flat v=true)∨∃ x:NL,v=nlV x∧(x.num % 2=0∧x.off=0)∧IntsV w v' x.l∧x.cap=capOf v'∧(x.l ≠ []→Nest.nest x.num=some ((winAt v' x.l).1,(winAt v' x.l).2,iv x.l))
inductive CRs [Nest] (w:World):List Value→List Value→Prop
 | nil:CRs w [] []
 | cons {v v':Value} {l l':List Value} (h:CR w v v') (hl:CRs w l l'):CRs w (v::l) (v' :: l')
theorem CRs.get [Nest]{w:World}{l l':List Value}(h:CRs w l l'):∀ (i:Nat) (v:Value),l[i]?=some v→∃ v',l'[i]?=some v'∧CR w v v':=by
 induction h with
 | nil=>intro i v hv; simp at hv
 | cons hv _ ih=>
  intro i u hu
  cases i with
  | zero=>
   simp at hu
   subst hu
   exact⟨_,by simp,hv⟩
  | succ i=>simpa using ih i u (by simpa using hu)
theorem CR.ints {w:World}{v':Value}{xs:List Int}(h:IntsV w v' xs)(hb:xs.length≤140737488355328):∃ x:@NL (nestOf w),@NL.l (nestOf w) x=xs∧@CR (nestOf w) w (@nlV (nestOf w) x) v':=by
 letI:=nestOf w
 by_cases hx:xs=[]
 ·subst hx
  exact⟨⟨0,0,capOf v',[],.inl rfl,by decide⟩,rfl,.inr ⟨_,rfl,⟨rfl,rfl⟩,h,rfl,fun hn=>absurd rfl hn⟩⟩
 ·obtain⟨a,cap,rfl,hc,hl,h1⟩:=id h
  obtain⟨b,off,rfl,hcell⟩:=h1.resolve_left hx
  have hn:Nest.nest (2*encN b off xs.length)=some (b,off,iv xs):=(nest_even _).trans (nestOf_enc (w:=w) (b:=b) (d:=off) (l:=xs) hcell)
  refine⟨⟨2*encN b off xs.length,0,cap,xs,.inr ⟨b,off,_,hn,@rdL_iv tabs00 _ _ rfl⟩,hb⟩,rfl,.inr ⟨_,rfl,⟨Nat.mul_mod_right _ _,rfl⟩,h,rfl,fun _=>?_⟩⟩
  cases xs with
  | nil=>exact absurd rfl hx
  | cons z l=>exact hn
theorem CR.vr [Nest]{T:Tabs}(hT:∀ k y,Nest.nest k=some y→Tabs.win (Nat.add k 64)=some y)(hF:∀ k,k % 2=0→Tabs.frz (Nat.add k 64)=false){w:World}{v v':Value}(h:CR w v v')(σ:Ren):VR σ v v':=by
 rcases h with⟨rfl,hf⟩ | ⟨x,rfl,hev,hi,hc,hn⟩
 ·exact qua_ hf σ
 ·obtain⟨hev,ho⟩:=hev
  obtain⟨a,cap,rfl,h1,h2,h3⟩:=hi
  have hb:cap<big:=Nat.lt_of_le_of_lt h1 (by decide)
  have e:x.cap=cap:=hc
  unfold nlV
  rw[e,ho]
  by_cases hx:x.l=[]
  ·rw[hx]
   exact .win0 _ 0 cap a hb
  ·obtain⟨b,off,rfl,_⟩:=h3.resolve_left hx
   have hn:=hT _ _ (hn hx)
   have ew:winAt (.slice (some ⟨b,off,none⟩) x.l.length cap) x.l=(b,off):=by
    cases hl:x.l with
    | nil=>exact absurd hl hx
    | cons z l=>rfl
   rw[ew] at hn
   exact VR.winS 0 x.l.length cap (.arg hn (hF _ hev)) hb h2
inductive LK where
 | i
 | b
 | s
 | u
 | y
 | L
def okC (w:World)(k:LK)(v:Value):Prop:=
 match k with
 | .i=>∃ z,v=.int .i64 z
 | .b=>∃ z,v=.bool z
 | .s=>∃ z,v=.string z
 | .u=>∃ z,v=.int .u64 z∧(Lit.int .u64 z).wf=true
 | .y=>∃ z,v=.int .u8 z
 | .L=>∃ xs,IntsV w v xs∧xs.length≤140737488355328∧∀ n∈xs,(Lit.int .i64 n).wf=true
inductive okL (w:World):List LK→List Value→Prop
 | nil:okL w [] []
 | cons {k:LK} {v:Value} {ks:List LK} {vs:List Value} (h:okC w k v) (hl:okL w ks vs):okL w (k::ks) (v::vs)
theorem okL.append {w:World}{a b:List LK}{x y:List Value}(h:okL w a x)(k:okL w b y):okL w (a++b) (x++y):=by
 induction h with
 | nil=>exact k
 | cons h _ ih=>exact .cons h ih
theorem okL.length {w:World}{a:List LK}{x:List Value}(h:okL w a x):x.length=a.length:=by
 induction h with
 | nil=>rfl
 | cons _ _ ih=>simp[ih]
def kindsF (P:Program)(K:TypeId→Option (List LK)):Nat→List Field→Option (List LK)
 | _,[]=>some []
 | off,f::fs=>match K f.type with
  | none=>none
  | some ks=>if f.offset=off∧P.cellsOf f.type=ks.length then (match kindsF P K (off+ks.length) fs with
   | none=>none
   | some r=>some (ks++r)) else none
def kindsT (P:Program):Nat→TypeId→Option (List LK)
 | 0,_=>none
 | d+1,t=>match P.underlying t with
  | some (.int .i64)=>some [.i]
  | some (.int .u64)=>some [.u]
  | some (.int .u8)=>some [.y]
  | some .bool=>some [.b]
  | some .string=>some [.s]
  | some (.slice e)=>(match P.underlying e with
   | some (.int .i64)=>if P.cellsOf e=1∧1≤P.bytesOf e then some [.L] else none
   | _=>none)
  | some (.array 4 e)=>(match P.underlying e with
   | some (.int .u64)=>if P.cellsOf e=1∧P.cellsOf t=4 then some [.u,.u,.u,.u] else none
   | _=>none)
  | some (.struct fs)=>match kindsF P (kindsT P d) 0 fs.toList with
   | none=>none
   | some ks=>if P.cellsOf t=ks.length then some ks else none
  | _=>none
variable {H:Type} {enc:TypeId×Value→H} {P:Program} {w:World} {held:Bool}
def Wt (P:Program)(t:TypeId)(d:DataW H):Prop:=∀ q∈d.weights P t,q≤reachBytes
theorem wt_of {ts:List TypeId}{ds:List (DataW H)}(h:(DataW.weightsEach P ts ds).all (·≤reachBytes)=true){j:Nat}{t:TypeId}{d:DataW H}(ht:ts[j]?=some t)(hd:ds[j]?=some d):Wt P t d:=fun q hq=>by
 simpa using List.all_eq_true.1 h _ (DataW.weights_mem_each ht hd q hq)
theorem wt_part {t:TypeId}{fs:Array Field}{parts:List (DataW H)}(h:Wt P t (.agg parts))(hu:P.underlying t=some (.struct fs)){j:Nat}{u:TypeId}{d:DataW H}(ht:(fs.toList.map (·.type))[j]?=some u)(hd:parts[j]?=some d):Wt P u d:=fun q hq=>
 h q (by simp only[DataW.weights,hu]; exact DataW.weights_mem_each ht hd q hq)
theorem wt_all {e:TypeId}:∀ {ds:List (DataW H)} {i:Nat} {d:DataW H},ds[i]?=some d→∀ q∈d.weights P e,q∈DataW.weightsAll P e ds
 | d0::ds,0,d,hd,q,hq=>by
  simp only[List.getElem?_cons_zero,Option.some.injEq] at hd
  subst hd
  simp only[DataW.weightsAll,List.mem_append]
  exact .inl hq
 | d0::ds,i+1,d,hd,q,hq=>by
  simp only[List.getElem?_cons_succ] at hd
  simp only[DataW.weightsAll,List.mem_append]
  exact .inr (wt_all hd q hq)
 | [],_,_,hd,_,_=>by simp at hd
theorem openIntsB {t e:TypeId}{m:Nat}{v:Value}{x:DataW H×List MemPlace}(ht:P.underlying t=some (.slice e))(he:P.underlying e=some (.int .i64))(hc:P.cellsOf e=1)(hz:1≤P.bytesOf e)
  (h:DataW.trod enc P w 0 (fun _=>true) held m t [v]=some x) (hx:Wt P t x.1):∃ xs,IntsV w v xs∧xs.length≤140737488355328∧∀ n∈xs,(Lit.int .i64 n).wf=true:=by
 obtain⟨xs,hxs,hw⟩:=openIntsT ht he hc h
 refine⟨xs,hxs,?_,hw⟩
 obtain⟨a,cap,rfl,-,-,-⟩:=hxs
 rcases DataW.trod_slice ht h with⟨hcs,-⟩ | ⟨a',len,cap',elems,rest,n,_,hcs,rfl,_,hl,hm,hlen,-⟩
 ·simp only[List.cons.injEq,Value.slice.injEq,and_true] at hcs
  omega
 ·simp only[List.cons.injEq,Value.slice.injEq,and_true] at hcs
  have:=hx ((elems.length+rest.length)*P.bytesOf e) (by simp[DataW.weights,ht])
  have h2:xs.length≤(elems.length+rest.length)*P.bytesOf e:=Nat.le_trans (show xs.length≤elems.length+rest.length by omega) (Nat.le_mul_of_pos_right _ hz)
  have h3:reachBytes≤140737488355328:=by decide
  omega
theorem q02_ {K:TypeId→Option (List LK)}{n:Nat}{cs:List Value}(hK:∀ t ks,K t=some ks→∀ cs x,DataW.trod enc P w 0 (fun _=>true) held n t cs=some x→Wt P t x.1→okL w ks cs):∀ (fs:List Field) (off:Nat) (ks:List LK),kindsF P K off fs=some ks →
  (∀ f∈fs,∃ y,DataW.trod enc P w 0 (fun _=>true) held n f.type ((cs.drop f.offset).take (P.cellsOf f.type))=some y∧Wt P f.type y.1)→okL w ks ((cs.drop off).take ks.length)
 | [],off,ks,h,_=>by
  obtain rfl:=Option.some.inj h
  simp
  exact .nil
 | f::fs,off,ks,h,hf=>by
  unfold kindsF at h
  split at h
  ·cases h
  ·rename_i k1 h1
   split at h
   ·rename_i hc
    split at h
    ·cases h
    ·rename_i r hr
     obtain rfl:=Option.some.inj h
     obtain⟨y,hy,hyw⟩:=hf f (by simp)
     have a:=hK f.type k1 h1 _ _ hy hyw
     rw[hc.1,hc.2] at a
     have b:=q02_ hK fs (off+k1.length) r hr (fun g hg=>hf g (by simp[hg]))
     rw[List.length_append,List.take_add,List.drop_drop]
     exact a.append b
   ·cases h
theorem fits_trod:∀ (d:Nat) (t:TypeId) (ks:List LK),kindsT P d t=some ks→∀ (m:Nat) (cs:List Value) (x:DataW H×List MemPlace),DataW.trod enc P w 0 (fun _=>true) held m t cs=some x→Wt P t x.1→okL w ks cs
 | 0,t,ks,h=>by cases h
 | d+1,t,ks,h=>by
  intro m cs x hx hwt
  unfold kindsT at h
  split at h
  ·rename_i hu
   obtain rfl:=Option.some.inj h
   obtain⟨n,rfl,_⟩:=DataW.trod_int hu hx
   exact .cons ⟨n,rfl⟩ .nil
  ·rename_i hu
   obtain rfl:=Option.some.inj h
   obtain⟨n,rfl,_,hw⟩:=DataW.trod_int hu hx
   exact .cons ⟨n,rfl,hw⟩ .nil
  ·rename_i hu
   obtain rfl:=Option.some.inj h
   obtain⟨n,rfl,_⟩:=DataW.trod_int hu hx
   exact .cons ⟨n,rfl⟩ .nil
  ·rename_i hu
   obtain rfl:=Option.some.inj h
   obtain⟨n,rfl,_⟩:=DataW.trod_bool hu hx
   exact .cons ⟨n,rfl⟩ .nil
  ·rename_i hu
   obtain rfl:=Option.some.inj h
   obtain⟨n,rfl,_⟩:=DataW.trod_string hu hx
   exact .cons ⟨n,rfl⟩ .nil
  ·rename_i e hu
   split at h
   ·rename_i he
    split at h
    ·rename_i hc
     obtain rfl:=Option.some.inj h
     have hv:∃ v,cs=[v]:=by
      rcases DataW.trod_slice hu hx with⟨hcs,-⟩ | ⟨a,len,cap,elems,rest,n,_,hcs,_⟩
      ·exact⟨_,hcs⟩
      ·exact⟨_,hcs⟩
     obtain⟨v,rfl⟩:=hv
     exact .cons (openIntsB hu he hc.1 hc.2 hx hwt) .nil
    ·cases h
   ·cases h
  ·rename_i e hu
   split at h
   ·rename_i he
    split at h
    ·rename_i hc
     obtain rfl:=Option.some.inj h
     have hl:cs.length=4:=by
      obtain⟨_,_,_,_,h1,_⟩:=DataW.trod_array hu hx
      exact h1.trans hc.2
     obtain⟨c0,c1,c2,c3,rfl⟩:∃ c0 c1 c2 c3,cs=[c0,c1,c2,c3]:=by
      match cs,hl with
      | [c0,c1,c2,c3],_=>exact⟨c0,c1,c2,c3,rfl⟩
     obtain⟨y0,y1,y2,y3,n,-,g0,g1,g2,g3⟩:=ChangeShapes.trod_array4 hu hc.1 hx
     have one:∀ {c:Value} {y:DataW H×List MemPlace},DataW.trod enc P w 0 (fun _=>true) held n e [c]=some y→okC w .u c:=fun hy=>by
      obtain⟨z,hz,_,hw⟩:=DataW.trod_int he hy
      simp only[List.cons.injEq,and_true] at hz
      exact⟨z,hz,hw⟩
     exact .cons (one g0) (.cons (one g1) (.cons (one g2) (.cons (one g3) .nil)))
    ·cases h
   ·cases h
  ·rename_i fs hu
   split at h
   ·cases h
   ·rename_i kk hk
    split at h
    ·rename_i hc
     obtain rfl:=Option.some.inj h
     obtain⟨xs,n,_,rfl,hl,hlen,hf⟩:=DataW.trod_struct hu hx
     have:=q02_ (n:=n) (cs:=cs) (fun t ks h cs x hx hw=>fits_trod d t ks h n cs x hx hw) fs.toList 0 kk hk (fun f hfm=>by
      obtain⟨i,hi,rfl⟩:=List.mem_iff_getElem.1 hfm
      have hi':i<fs.size:=by simpa using hi
      have:=hf i fs[i] (by simp[hi'])
      refine⟨xs[i]'(by omega),?_,?_⟩
      ·simp only[Array.getElem_toList]
       rw[this]; simp[hlen,hi']
      ·exact wt_part hwt hu (j:=i) (by simp[hi']) (by simp[hlen,hi']))
     rw[List.drop_zero,←hc,←hl,List.take_length] at this
     exact this
    ·cases h
  ·cases h
def RowsV [Nest]{α:Type}(f:α→List Value)(w:World)(v:Value)(L:List α):Prop:=
 ∃ a cap,v=.slice a L.length cap∧cap≤maxLen∧L.length≤cap∧(L=[]∨∃ b off,a=some ⟨b,off,none⟩∧∀ j u,(rows f L)[j]?=some u→∃ u',w.cell? ⟨b,off+j,none⟩=some u'∧CR w u u')
theorem addr_add (b off n:Nat):(⟨b,off,none⟩:Addr).add n=⟨b,off+n,none⟩:=by
 unfold Addr.add
 split
 ·rename_i h; subst h; rfl
 ·rfl
theorem openRowsU [Nest]{α:Type}[Tabs]{f:α→List Value}{Q:α→Prop}{k:Nat}(hf:RowF f k){ks:List LK}(hdec:∀ cs,okL w ks cs→∃ a,CRs w (f a) cs∧Q a){t e:TypeId}{m d:Nat}{v:Value}{x:DataW H×List MemPlace}(hk0:0<k)(ht:P.underlying t=some (.slice e))(he:kindsT P d e=some ks)(hc:P.cellsOf e=k)
  (h:DataW.trod enc P w 0 (fun _=>true) held m t [v]=some x) (hx:Wt P t x.1):∃ L,RowsV f w v L∧∀ x∈L,Q x:=by
 rcases DataW.trod_slice ht h with⟨hcs,-⟩ | ⟨a,len,cap,elems,rest,n,_,hcs,rfl,_,hl,hm,hlen,hel,_⟩
 ·obtain rfl:v=.slice none 0 0:=by simpa using hcs
  exact⟨[],⟨none,0,rfl,Nat.zero_le _,Nat.zero_le _,.inl rfl⟩,fun x h=>by cases h⟩
 ·obtain rfl:v=.slice (some a) len cap:=by simpa using hcs
  rw[hc] at hel
  have each:∀ i u,(List.range len)[i]?=some u→∃ r:α,∃ cs,w.cells? 0 (a.add (i*k)) k=some cs∧CRs w (f r) cs∧Q r:=by
   intro i u hu
   have hi:i<len:=by
    rcases Nat.lt_or_ge i len with h | h
    ·exact h
    ·rw[List.getElem?_eq_none (by simpa using h)] at hu; cases hu
   have h1:=hel i hi
   rw[List.getElem?_eq_getElem (by omega:i<elems.length)] at h1
   obtain⟨cs,h2,h3⟩:=Option.bind_eq_some_iff.1 h1
   obtain⟨r,hr⟩:=hdec cs (fits_trod d e ks he n cs _ h3 (fun q hq=>hx q (by
    simp only[DataW.weights,ht,List.mem_cons,List.mem_append]
    exact .inr (.inl (wt_all (i:=i) (d:=(elems[i]'(by omega)).1) (by simp[show i<elems.length by omega]) q hq)))))
   exact⟨r,cs,h2,hr⟩
  obtain⟨L,hL0,hL⟩:=qwh_ (List.range len) (Q:=fun i _ (r:α)=>∃ cs,w.cells? 0 (a.add (i*k)) k=some cs∧CRs w (f r) cs∧Q r) each
  have hLl:L.length=len:=by simpa using hL0
  have hrow:∀ i (hi:i<len),∃ cs,w.cells? 0 (a.add (i*k)) k=some cs∧CRs w (f (L[i]'(by omega))) cs∧Q (L[i]'(by omega)):=fun i hi=>hL i i _ (by simp[hi]) (List.getElem?_eq_getElem (by omega))
  refine⟨L,⟨some a,cap,by rw[hLl],hm,by rw[hLl]; omega,?_⟩,fun x hx=>by
   obtain⟨i,hi,rfl⟩:=List.mem_iff_getElem.1 hx
   exact (hrow i (by omega)).choose_spec.2.2⟩
  by_cases hz:len=0
  ·left
   exact List.length_eq_zero_iff.1 (by rw[hLl]; exact hz)
  right
  obtain⟨b,off,spot⟩:=a
  obtain⟨cs0,hc0,hr0,-⟩:=hrow 0 (by omega)
  obtain⟨_,hln0,hget0⟩:=World.cells?_some hc0
  have h00:=hget0 0 hk0
  have hspot:spot=none:=by
   obtain⟨u,hu⟩:∃ u,cs0[0]?=some u:=⟨cs0[0]'(by omega),by simp⟩
   rw[hu] at h00
   simpa [Addr.add] using World.cell?_spot h00
  subst hspot
  refine⟨b,off,rfl,fun j u hj=>?_⟩
  have hjl:j<len*k:=by
   rcases Nat.lt_or_ge j (rows f L).length with h | h
   ·rwa [qk0_ hf,hLl] at h
   ·rw[List.getElem?_eq_none h] at hj; cases hj
  have hi:j / k<len:=Nat.div_lt_of_lt_mul (by rwa [Nat.mul_comm] at hjl)
  have hq:j % k<k:=Nat.mod_lt _ hk0
  have hjk:j / k*k+j % k=j:=by rw[Nat.mul_comm]; exact Nat.div_add_mod j k
  obtain⟨cs,r1,r2,-⟩:=hrow (j / k) hi
  obtain⟨_,hln,hget⟩:=World.cells?_some r1
  have hg:=hget (j % k) hq
  rw[addr_add,addr_add] at hg
  have hLg:L.getD (j / k) (L[j / k]'(by omega))=L[j / k]'(by omega):=by simp[List.getD_eq_getElem?_getD,hLl,hi]
  rw[←hjk,qzk_ hf (L[j / k]'(by omega)) L (j / k) (j % k) (by omega) hq,hLg] at hj
  obtain⟨u',hu',hcr⟩:=r2.get _ _ hj
  rw[hu'] at hg
  exact⟨u',by rw[←hjk,←Nat.add_assoc]; exact hg,hcr⟩
theorem openRowsN [Nest]{α:Type}[Tabs]{f:α→List Value}{k:Nat}(hf:RowF f k){ks:List LK}(hdec:∀ cs,okL w ks cs→∃ a,CRs w (f a) cs){t e:TypeId}{m d:Nat}{v:Value}{x:DataW H×List MemPlace}(hk0:0<k)(ht:P.underlying t=some (.slice e))(he:kindsT P d e=some ks)(hc:P.cellsOf e=k)
  (h:DataW.trod enc P w 0 (fun _=>true) held m t [v]=some x) (hx:Wt P t x.1):∃ L,RowsV f w v L:=by
 obtain⟨L,hL,-⟩:=openRowsU (Q:=fun _=>True) hf (fun cs h=>(hdec cs h).imp fun _ h=>⟨h,trivial⟩) hk0 ht he hc h hx
 exact⟨L,hL⟩
theorem RowsV.len [Nest]{α:Type}{f:α→List Value}{w:World}{v:Value}{L:List α}(h:RowsV f w v L):L.length≤9223372036854775807:=by
 obtain⟨a,cap,rfl,hc,hl,-⟩:=h
 exact Nat.le_trans (Nat.le_trans hl hc) (by decide)
theorem RowsV.win [Nest]{α:Type}[Tabs]{f:α→List Value}{v:Value}{L:List α}(h:RowsV f w v L)(w':World)(hk:(winAt v (L.map fun _=>0)).1<w.heap.size→w'.heap[(winAt v (L.map fun _=>0)).1]?=w.heap[(winAt v (L.map fun _=>0)).1]?)(i:Nat)(u:Value)(hi:(rows f L)[i]?=some u) :
  ∃ u',w'.cell? ⟨(winAt v (L.map fun _=>0)).1,(winAt v (L.map fun _=>0)).2+i,none⟩=some u'∧CR w u u':=by
 obtain⟨a,cap,rfl,hc,hl,h⟩:=h
 rcases h with rfl | ⟨b,off,rfl,hx⟩
 ·simp[rows] at hi
 ·cases L with
  | nil=>simp[rows] at hi
  | cons z l=>
   obtain⟨u',hx,hcr⟩:=hx i u hi
   have hb:b<w.heap.size:=World.block_lt_of_cell? w _ hx
   have hk:w'.heap[b]?=w.heap[b]?:=hk hb
   refine⟨u',?_,hcr⟩
   show w'.cell? ⟨b,off+i,none⟩=_
   rw[←hx]
   simp only[World.cell?,hk]
theorem RowsV.vr [Nest]{T:Tabs}{α:Type}{f:α→List Value}{v:Value}{L:List α}(h:RowsV f w v L){j:Nat}(hj:Tabs.win j=some ((winAt v (L.map fun _=>0)).1,(winAt v (L.map fun _=>0)).2,rows f L))(hz:Tabs.frz j=false)(σ:Ren):VR σ (.slice (some ⟨j,0,some 1⟩) L.length (capOf v)) v:=by
 obtain⟨a,cap,rfl,hc,hl,h⟩:=h
 have hb:cap<big:=Nat.lt_of_le_of_lt hc (by decide)
 rcases h with rfl | ⟨b,off,rfl,hx⟩
 ·exact .win0 j 0 cap a hb
 ·cases L with
  | nil=>exact .win0 j 0 cap _ hb
  | cons z l=>
   have:=VR.winS (σ:=σ) 0 (z::l).length cap (.arg hj hz) hb hl
   exact this
def frzL [Nest](l:List Int)(h:l.length≤140737488355328):NL:=⟨2*cod l+1,0,Nat.add big l.length,l,.inr ⟨0,0,_,nest_odd l,@rdL_iv tabs00 _ _ rfl⟩,h⟩
theorem frz_okL [Nest]{T:Tabs}(hT:∀ k y,Nest.nest k=some y→Tabs.win (Nat.add k 64)=some y)(hF:∀ k,k % 2=1→Tabs.frz (Nat.add k 64)=true){l:List Value}(hl:okVs l=true):FrzP (layT l) (Nat.add (2*codL l+1) 64):=
 ⟨hF _ (by omega),_,hT _ _ (q1v_ hl),fun i v hv=>.inl ⟨by rw[qfu_]; exact hv,okV_frz (okVs_get hl hv)⟩⟩
theorem frz_ok [Nest]{T:Tabs}(hT:∀ k y,Nest.nest k=some y→Tabs.win (Nat.add k 64)=some y)(hF:∀ k,k % 2=1→Tabs.frz (Nat.add k 64)=true)(l:List Int):FrzP (layT (iv l)) (Nat.add (2*cod l+1) 64):=frz_okL hT hF (okVs_iv l)
structure WL [Tabs] {α:Type} (f:α→List Value) where
 num:Nat
 off:Nat
 cap:Nat
 l:List α
 ok:l=[]∨∃ b d R,Tabs.win num=some (b,d,R)∧rdL R (rows f l).length off=some (rows f l)
 le:l.length≤9223372036854775807
def wl0 [Tabs]{α:Type}{f:α→List Value}:WL f:=⟨64,0,0,[],.inl rfl,Nat.zero_le _⟩
def wlV [Tabs]{α:Type}{f:α→List Value}(x:WL f):Value:=.slice (some ⟨x.num,x.off,some 1⟩) x.l.length x.cap
theorem slNL [Nest][Tabs]{P:Program}{t e:TypeId}(x:NL){lo hi:Option Value}{a b:Nat}(he:elemB P t=some e)(hs:sizeB P e=some 1)(h1:bnd lo 0=some a)(h2:bnd hi x.l.length=some b)(h:a≤b∧b≤x.l.length) :
  qki_ P t (nlV x) lo hi none Ax.h0=some (nlV (nlSub x a b h),Ax.h0):=by
 unfold qki_
 show qsb_ P t (nlV x) lo hi Ax.h0=_
 unfold qsb_
 show oc (some (Nat.add x.num 64,x.off,x.l.length,x.cap)) none _=_
 rw[oc_some,he,oc_some,hs,oc_some,h1,oc_some,h2,oc_some,Nat.ble_eq_true_of_le h.1,Nat.ble_eq_true_of_le h.2]
 show some (Value.slice (some ⟨Nat.add x.num 64,Nat.add x.off (Nat.mul a 1),some 1⟩) (Nat.sub b a) (Nat.sub x.cap a),Ax.h0)=some (Value.slice (some ⟨Nat.add x.num 64,Nat.add x.off a,some 1⟩) ((x.l.drop a).take (b-a)).length (x.cap-a),Ax.h0)
 rw[sub_ln h,show Nat.mul a 1=a from Nat.mul_one _]
 rfl
theorem bnd_int {kd:IntKind}{i:Int}{d:Nat}(h:0≤i):bnd (some (.int kd i)) d=some i.toNat:=by
 obtain⟨q,rfl⟩:=Int.eq_ofNat_of_zero_le h
 rfl
theorem ixWO [Tabs]{P:Program}{t e:TypeId}{j o n k es:Nat}{kd:IntKind}{i:Int}(he:elemB P t=some e)(hs:sizeB P e=some es)(h:0≤i∧i<(n:Int)):qdt_ P t (.slice (some ⟨j,o,some 1⟩) n k) (.int kd i) Ax.h0=some (.pointer (some ⟨j,Nat.add o (i.toNat*es),some 1⟩),Ax.h0):=by
 obtain⟨q,rfl⟩:=Int.eq_ofNat_of_zero_le h.1
 have hj:Nat.blt q n=true:=by simp[Nat.blt_eq]; omega
 unfold qdt_
 rw[show isAddr (.slice (some ⟨j,o,some 1⟩) n k)=false from rfl,sel_false]
 unfold qfl_
 rw[show qjp_ (.slice (some ⟨j,o,some 1⟩) n k)=none from rfl,oc_none]
 unfold qvi_
 rw[show winS (.slice (some ⟨j,o,some 1⟩) n k)=some (j,o,n,k) from rfl,oc_some]
 have:idx (.int kd (.ofNat q)) n=some q:=by show (match Nat.blt q n with | true=>some q | false=>none)=_; rw[hj]
 show oc (idx (.int kd (.ofNat q)) n) none _=_
 rw[this,oc_some]
 show oc (elemB P t) none _=_
 rw[he,oc_some,hs,oc_some]
 rfl
theorem ixWO1 [Tabs]{P:Program}{t e:TypeId}{j o n k:Nat}{kd:IntKind}{i:Int}(he:elemB P t=some e)(hs:sizeB P e=some 1)(h:0≤i∧i<(n:Int)):qdt_ P t (.slice (some ⟨j,o,some 1⟩) n k) (.int kd i) Ax.h0=some (.pointer (some ⟨j,Nat.add o i.toNat,some 1⟩),Ax.h0):=by
 have:=ixWO (j:=j) (o:=o) (k:=k) (kd:=kd) he hs h
 rwa [Nat.mul_one] at this
theorem wl_get [Tabs]{α:Type}{f:α→List Value}{k:Nat}(hf:RowF f k)(d:α)(x:WL f){i q:Nat}(h:i<x.l.length)(hq:q<k):∃ y,Tabs.win x.num=some y∧y.2.2[x.off+(i*k+q)]?=(f (x.l.getD i d))[q]?:=by
 obtain⟨b,c,R,h1,h2⟩:=x.ok.resolve_left fun e=>by rw[e] at h; exact absurd h (Nat.not_lt_zero _)
 refine⟨_,h1,?_⟩
 have h3:=qzk_ hf d x.l i q h hq
 cases hv:(rows f x.l)[i*k+q]? with
 | none=>
  have hlt:i*k+q<(rows f x.l).length:=by
   rw[qk0_ hf]
   have:(i+1)*k≤x.l.length*k:=Nat.mul_le_mul_right k h
   rw[Nat.succ_mul] at this; omega
  rw[List.getElem?_eq_none_iff] at hv; omega
 | some v=>
  rw[←h3,hv]
  exact (q0f_ h2).2 _ v hv
theorem ldRS [Tabs]{P:Program}{α:Type}{f:α→List Value}{k:Nat}(hf:RowF f k)(d:α){t:TypeId}{i q:Nat}(x:WL f){v:Value}(off:Nat)(ho:off=x.off+(i*k+q))(ha:aggB P t=some false)(h:i<x.l.length)(hq:q<k)(hv:(f (x.l.getD i d))[q]?=some v):loadG P t (.pointer (some ⟨x.num,off,some 1⟩)) Ax.h0=some (v,Ax.h0):=by
 obtain⟨y,hw,hg⟩:=wl_get hf d x h hq
 subst ho
 unfold loadG
 rw[show qzz_ (.pointer (some ⟨x.num,x.off+(i*k+q),some 1⟩))=none from rfl,oc_none]
 unfold loadW
 rw[show winOf (.pointer (some ⟨x.num,x.off+(i*k+q),some 1⟩))=some (x.num,x.off+(i*k+q)) from rfl,oc_some,hw,oc_some,ha,oc_some,sel_false]
 show oc (y.2.2[x.off+(i*k+q)]?) none _=_
 rw[hg,hv,oc_some]
theorem ldRA [Tabs]{P:Program}{α:Type}{f:α→List Value}{k:Nat}(hf:RowF f k)(d:α){t:TypeId}{i q n:Nat}(x:WL f){l:List Value}(off:Nat)(ho:off=x.off+(i*k+q))(ha:aggB P t=some true)(hs:sizeB P t=some n)(h:i<x.l.length)(hq:q+n≤k)(hn:0<n)(hl:((f (x.l.getD i d)).drop q).take n=l) :
  loadG P t (.pointer (some ⟨x.num,off,some 1⟩)) Ax.h0=some (.agg ⟨l⟩,Ax.h0):=by
 subst ho hl
 obtain⟨y,hw,_⟩:=wl_get hf d x h (q:=q) (by omega)
 have hlen:=hf.len (x.l.getD i d)
 have hg:rdL y.2.2 n (x.off+(i*k+q))=some (((f (x.l.getD i d)).drop q).take n):=by
  refine qwx_ _ _ _ (by rw[List.length_take,List.length_drop,hlen]; omega) fun z hz=>?_
  obtain⟨y',hw',hg'⟩:=wl_get hf d x h (q:=q+z) (by omega)
  rw[hw] at hw'
  obtain rfl:=Option.some.inj hw'
  rw[show x.off+(i*k+q)+z=x.off+(i*k+(q+z)) by omega,hg',List.getElem?_take_of_lt hz,List.getElem?_drop]
 unfold loadG
 rw[show qzz_ (.pointer (some ⟨x.num,x.off+(i*k+q),some 1⟩))=none from rfl,oc_none]
 unfold loadW
 rw[show winOf (.pointer (some ⟨x.num,x.off+(i*k+q),some 1⟩))=some (x.num,x.off+(i*k+q)) from rfl,oc_some,hw,oc_some,ha,oc_some,sel_true,hs,oc_some]
 show oc (rdL y.2.2 n (x.off+(i*k+q))) none _=_
 rw[hg,oc_some]
theorem frz_okR [Nest]{T:Tabs}(hT:∀ k y,Nest.nest k=some y→Tabs.win (Nat.add k 64)=some y)(hF:∀ k,k % 2=1→Tabs.frz (Nat.add k 64)=true){α:Type}{f:α→List Value}(hf:∀ a,okVs (f a)=true)(l:List α):FrzP (layT (rows f l)) (Nat.add (2*codL (rows f l)+1) 64):=frz_okL hT hF (q1u_ hf l)
theorem gvLen [Tabs]{P:Program}{f:Fn}{A:List Value}{H R:AH}{fn:Nat→Value}{n m:Nat}(h:n=m)(k:Gv P f A H (fn n) R):Gv P f A H (fn m) R:=h ▸ k
theorem nestOf_cells {w w':World}{k b d:Nat}{c:List Value}(h:(nestOf w).raw k=some (b,d,c))(hk:b<w.heap.size→w'.heap[b]?=w.heap[b]?)(i:Nat)(u:Value)(hi:c[i]?=some u):∃ u',w'.cell? ⟨b,d+i,none⟩=some u'∧(u'=u∧flat u=true):=by
 obtain⟨l,rfl,hl⟩:=nestOf_win h
 have hi':i<l.length∧u=.int .i64 (l.getD i 0):=by
  simp only[iv,List.getElem?_map,Option.map_eq_some_iff] at hi
  obtain⟨z,hz,rfl⟩:=hi
  have hlt:i<l.length:=by
   rcases Nat.lt_or_ge i l.length with h | h
   ·exact h
   ·rw[List.getElem?_eq_none h] at hz; cases hz
  exact⟨hlt,by rw[List.getD_eq_getElem?_getD,hz]; rfl⟩
 obtain⟨hlt,rfl⟩:=hi'
 have hx:=hl i hlt
 have hb:b<w.heap.size:=World.block_lt_of_cell? w _ hx
 have hk:=hk hb
 refine⟨_,?_,rfl,rfl⟩
 rw[←hx]
 simp only[World.cell?,hk]
end Go.Proofs.YthlikofobjhcoaaGreat.Ax
