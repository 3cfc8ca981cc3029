/-
  What functions do, told by pure functions. No condition.
-/
import Derived.Test.YthlikofobjhcoaaGreatPtbLives
set_option linter.unusedSimpArgs false
set_option linter.unusedVariables false
set_option linter.unusedSectionVars false
set_option linter.unnecessarySimpa false
set_option maxRecDepth 100000
noncomputable section
namespace Go.Proofs.YthlikofobjhcoaaGreat.ptb28
open Go Go.Proofs.YthlikofobjhcoaaGreat Ax
abbrev R8 [Nest]:Type:=Int×Int×Int×Int×Int×Int×NL×Int
variable [Args]
abbrev W8:Type:=WL rw_iiiiiiLu
def kW (s:List Nat)(b:List (Nat×Nat×Bool))(n l:Nat):WkS:=⟨s,b,n,l,[],false,[],[],[]⟩
def iD (n:Nat):List (Nat×Nat×Bool):=(List.range n).map fun i=>(i,i,false)
def cB (l:List Value)(t:TypeId):Option ABlk:=some (.cells (layT l) t)
def rw_b (x:Bool):List Value:=[Value.bool x]
theorem rwf_b:RowF rw_b 1:=⟨fun _=>rfl,fun a v h=>by
 simp only[rw_b,List.mem_cons,List.not_mem_nil,or_false] at h
 rcases h with rfl<;>rfl,fun _=>rfl⟩
def qh2_ (x:Int×Int×Int):List Value:=[Value.int .i64 (x.1),Value.int .i64 (x.2.1),Value.int .i64 (x.2.2)]
theorem qjq_:RowF qh2_ 3:=⟨fun _=>rfl,fun a v h=>by
 simp only[qh2_,List.mem_cons,List.not_mem_nil,or_false] at h
 rcases h with rfl | rfl | rfl<;>rfl,fun _=>rfl⟩
def qm_ (x:Int×Int×Int×Int):List Value:=[Value.int .i64 (x.1),Value.int .i64 (x.2.1),Value.int .i64 (x.2.2.1),Value.int .i64 (x.2.2.2)]
theorem qn_:RowF qm_ 4:=⟨fun _=>rfl,fun a v h=>by
 simp only[qm_,List.mem_cons,List.not_mem_nil,or_false] at h
 rcases h with rfl | rfl | rfl | rfl<;>rfl,fun _=>rfl⟩
theorem rwo_iiii:∀ a,okVs (qm_ a)=true:=fun _=>rfl
abbrev xp1 (b o n k:Nat)(i:Int):Prop:=IA P 22 (sW b o n k) i (pW b (Nat.add o (i.toNat*8)))
theorem xk1 (b o k:Nat){n:Nat}{i:Int}(h:0≤i∧i<(n:Int)):OB (.pur (pW b (Nat.add o (i.toNat*8)))) (xp1 b o n k i):=⟨ixWO (e:=31) (by kernel_rfl) (by kernel_rfl) h⟩
abbrev lp2 (x:W8)(i:Nat)(r:R8):Prop:=Lg P 31 (pW x.num (Nat.add x.off (i*8))) (Value.agg #[(i6 (r.1)),(i6 (r.2.1)),(i6 (r.2.2.1)),(i6 (r.2.2.2.1)),(i6 (r.2.2.2.2.1)),(i6 (r.2.2.2.2.2.1)),(nlV (r.2.2.2.2.2.2.1)),(Value.int .u64 (r.2.2.2.2.2.2.2))])
theorem lk2 {x:W8}{i:Nat}{r:Int×Int×Int×Int×Int×Int×NL×Int}(hr:some ((x.l).getD i (0,0,0,0,0,0,nl0,0))=some r)(h:i<(x.l).length):OB (.ld (Value.agg #[(i6 (r.1)),(i6 (r.2.1)),(i6 (r.2.2.1)),(i6 (r.2.2.2.1)),(i6 (r.2.2.2.2.1)),(i6 (r.2.2.2.2.2.1)),(nlV (r.2.2.2.2.2.2.1)),(Value.int .u64 (r.2.2.2.2.2.2.2))])) (lp2 x i r):=by cases hr; exact⟨ldRA rwf_iiiiiiLu (0,0,0,0,0,0,nl0,0) (i:=i) (q:=0) x (n:=8) (Nat.add x.off (i*8)) rfl (by kernel_rfl) (by kernel_rfl) h (by decide) (by decide) rfl⟩
abbrev xp3 (b o n k:Nat)(i:Int):Prop:=IA P 23 (sW b o n k) i (pW b (Nat.add o (i.toNat*4)))
theorem xk3 (b o k:Nat){n:Nat}{i:Int}(h:0≤i∧i<(n:Int)):OB (.pur (pW b (Nat.add o (i.toNat*4)))) (xp3 b o n k i):=⟨ixWO (e:=56) (by kernel_rfl) (by kernel_rfl) h⟩
abbrev fp4 (b o:Nat):Prop:=FA P 56 (pW b o) 1 (pW b (Nat.add o 1))
theorem fk4 (b o:Nat):OB (.pur (pW b (Nat.add o 1))) (fp4 b o):=⟨by unfold fp4 FA; kernel_rfl⟩
abbrev lp5 (x:WL rw_iLii)(i:Nat)(r:Int×NL×Int×Int):Prop:=Lg P 28 (pW x.num (Nat.add (Nat.add x.off (i*4)) 1)) (nlV (r.2.1))
theorem lk5 {x:WL rw_iLii}{i:Nat}{r:Int×NL×Int×Int}(hr:some ((x.l).getD i (0,nl0,0,0))=some r)(h:i<(x.l).length):OB (.ld (nlV (r.2.1))) (lp5 x i r):=by cases hr; exact⟨ldRS rwf_iLii (0,nl0,0,0) (i:=i) (q:=1) x (Nat.add (Nat.add x.off (i*4)) 1) rfl (by kernel_rfl) h (by decide) rfl⟩
abbrev fp6 (b o:Nat):Prop:=FA P 31 (pW b o) 1 (pW b (Nat.add o 1))
theorem fk6 (b o:Nat):OB (.pur (pW b (Nat.add o 1))) (fp6 b o):=⟨by unfold fp6 FA; kernel_rfl⟩
abbrev lp7 (x:W8)(i:Nat)(r:R8):Prop:=Lg P 3 (pW x.num (Nat.add (Nat.add x.off (i*8)) 1)) (i6 (r.2.1))
theorem lk7 {x:W8}{i:Nat}{r:Int×Int×Int×Int×Int×Int×NL×Int}(hr:some ((x.l).getD i (0,0,0,0,0,0,nl0,0))=some r)(h:i<(x.l).length):OB (.ld (i6 (r.2.1))) (lp7 x i r):=by cases hr; exact⟨ldRS rwf_iiiiiiLu (0,0,0,0,0,0,nl0,0) (i:=i) (q:=1) x (Nat.add (Nat.add x.off (i*8)) 1) rfl (by kernel_rfl) h (by decide) rfl⟩
abbrev fp8 (b o:Nat):Prop:=FA P 31 (pW b o) 2 (pW b (Nat.add o 2))
theorem fk8 (b o:Nat):OB (.pur (pW b (Nat.add o 2))) (fp8 b o):=⟨by unfold fp8 FA; kernel_rfl⟩
abbrev lp9 (x:W8)(i:Nat)(r:R8):Prop:=Lg P 3 (pW x.num (Nat.add (Nat.add x.off (i*8)) 2)) (i6 (r.2.2.1))
theorem lk9 {x:W8}{i:Nat}{r:Int×Int×Int×Int×Int×Int×NL×Int}(hr:some ((x.l).getD i (0,0,0,0,0,0,nl0,0))=some r)(h:i<(x.l).length):OB (.ld (i6 (r.2.2.1))) (lp9 x i r):=by cases hr; exact⟨ldRS rwf_iiiiiiLu (0,0,0,0,0,0,nl0,0) (i:=i) (q:=2) x (Nat.add (Nat.add x.off (i*8)) 2) rfl (by kernel_rfl) h (by decide) rfl⟩
abbrev fp10 (b o:Nat):Prop:=FA P 31 (pW b o) 6 (pW b (Nat.add o 6))
theorem fk10 (b o:Nat):OB (.pur (pW b (Nat.add o 6))) (fp10 b o):=⟨by unfold fp10 FA; kernel_rfl⟩
abbrev lp11 (x:W8)(i:Nat)(r:R8):Prop:=Lg P 28 (pW x.num (Nat.add (Nat.add x.off (i*8)) 6)) (nlV (r.2.2.2.2.2.2.1))
theorem lk11 {x:W8}{i:Nat}{r:Int×Int×Int×Int×Int×Int×NL×Int}(hr:some ((x.l).getD i (0,0,0,0,0,0,nl0,0))=some r)(h:i<(x.l).length):OB (.ld (nlV (r.2.2.2.2.2.2.1))) (lp11 x i r):=by cases hr; exact⟨ldRS rwf_iiiiiiLu (0,0,0,0,0,0,nl0,0) (i:=i) (q:=6) x (Nat.add (Nat.add x.off (i*8)) 6) rfl (by kernel_rfl) h (by decide) rfl⟩
abbrev xp12 (b o n k:Nat)(i:Int):Prop:=IA P 28 (sW b o n k) i (pW b (Nat.add o i.toNat))
theorem xk12 (b o k:Nat){n:Nat}{i:Int}(h:0≤i∧i<(n:Int)):OB (.pur (pW b (Nat.add o i.toNat))) (xp12 b o n k i):=⟨ixWO1 (e:=3) (by kernel_rfl) (by kernel_rfl) h⟩
theorem nk13 {x:NL}{i:Nat}{v:Int}(hv:some (x.l.getD i 0)=some v)(h:i<x.l.length):OB (.ld (i6 v)) (Lg P 3 (pW (Nat.add x.num 64) (Nat.add x.off i)) (i6 v)):=by cases hv; exact⟨ldN x (by kernel_rfl) h⟩
abbrev fp14 (b o:Nat):Prop:=FA P 31 (pW b o) 4 (pW b (Nat.add o 4))
theorem fk14 (b o:Nat):OB (.pur (pW b (Nat.add o 4))) (fp14 b o):=⟨by unfold fp14 FA; kernel_rfl⟩
abbrev lp15 (x:W8)(i:Nat)(r:R8):Prop:=Lg P 3 (pW x.num (Nat.add (Nat.add x.off (i*8)) 4)) (i6 (r.2.2.2.2.1))
theorem lk15 {x:W8}{i:Nat}{r:Int×Int×Int×Int×Int×Int×NL×Int}(hr:some ((x.l).getD i (0,0,0,0,0,0,nl0,0))=some r)(h:i<(x.l).length):OB (.ld (i6 (r.2.2.2.2.1))) (lp15 x i r):=by cases hr; exact⟨ldRS rwf_iiiiiiLu (0,0,0,0,0,0,nl0,0) (i:=i) (q:=4) x (Nat.add (Nat.add x.off (i*8)) 4) rfl (by kernel_rfl) h (by decide) rfl⟩
abbrev fp16 (b o:Nat):Prop:=FA P 31 (pW b o) 7 (pW b (Nat.add o 7))
theorem fk16 (b o:Nat):OB (.pur (pW b (Nat.add o 7))) (fp16 b o):=⟨by unfold fp16 FA; kernel_rfl⟩
abbrev lp17 (x:W8)(i:Nat)(r:R8):Prop:=Lg P 29 (pW x.num (Nat.add (Nat.add x.off (i*8)) 7)) (Value.int .u64 (r.2.2.2.2.2.2.2))
theorem lk17 {x:W8}{i:Nat}{r:Int×Int×Int×Int×Int×Int×NL×Int}(hr:some ((x.l).getD i (0,0,0,0,0,0,nl0,0))=some r)(h:i<(x.l).length):OB (.ld (Value.int .u64 (r.2.2.2.2.2.2.2))) (lp17 x i r):=by cases hr; exact⟨ldRS rwf_iiiiiiLu (0,0,0,0,0,0,nl0,0) (i:=i) (q:=7) x (Nat.add (Nat.add x.off (i*8)) 7) rfl (by kernel_rfl) h (by decide) rfl⟩
abbrev xp18 (b n k:Nat)(i:Int):Prop:=IA P 62 (sN b 0 n k) i (pN b (i.toNat*1))
theorem xk18 (b k:Nat){n:Nat}{i:Int}(h:0≤i∧i<(n:Int)):OB (.pur (pN b (i.toNat*1))) (xp18 b n k i):=⟨ixS (e:=4) (by kernel_rfl) (by kernel_rfl) h.1 h.2⟩
abbrev op19 (L:List (Bool))(i:Nat)(r:Bool):Prop:=(layT (rows rw_b L)).get (i*1)=some (bO r)
theorem ok19 {L:List (Bool)}{i:Nat}{r:Bool}(hr:some (L.getD i (false))=some r)(h:i<L.length):OB (.ld (bO r)) (op19 L i r):=by cases hr; exact⟨rows_ld rwf_b (false) (i:=i) (j:=0) (i*1) rfl h (by decide) rfl⟩
abbrev fp20 (b o:Nat):Prop:=FA P 31 (pW b o) 5 (pW b (Nat.add o 5))
theorem fk20 (b o:Nat):OB (.pur (pW b (Nat.add o 5))) (fp20 b o):=⟨by unfold fp20 FA; kernel_rfl⟩
abbrev lp21 (x:W8)(i:Nat)(r:R8):Prop:=Lg P 3 (pW x.num (Nat.add (Nat.add x.off (i*8)) 5)) (i6 (r.2.2.2.2.2.1))
theorem lk21 {x:W8}{i:Nat}{r:Int×Int×Int×Int×Int×Int×NL×Int}(hr:some ((x.l).getD i (0,0,0,0,0,0,nl0,0))=some r)(h:i<(x.l).length):OB (.ld (i6 (r.2.2.2.2.2.1))) (lp21 x i r):=by cases hr; exact⟨ldRS rwf_iiiiiiLu (0,0,0,0,0,0,nl0,0) (i:=i) (q:=5) x (Nat.add (Nat.add x.off (i*8)) 5) rfl (by kernel_rfl) h (by decide) rfl⟩
abbrev xp22 (b n k:Nat)(i:Int):Prop:=IA P 28 (sN b 0 n k) i (pN b i.toNat)
theorem xk22 (b k:Nat){n:Nat}{i:Int}(h:0≤i∧i<(n:Int)):OB (.pur (pN b i.toNat)) (xp22 b n k i):=⟨ixS1 (e:=3) (by kernel_rfl) (by kernel_rfl) h⟩
abbrev xp23 (b n k:Nat)(i:Int):Prop:=IA P 142 (sN b 0 n k) i (pN b (i.toNat*3))
theorem xk23 (b k:Nat){n:Nat}{i:Int}(h:0≤i∧i<(n:Int)):OB (.pur (pN b (i.toNat*3))) (xp23 b n k i):=⟨ixS (e:=145) (by kernel_rfl) (by kernel_rfl) h.1 h.2⟩
abbrev op24 (L:List (Int×Int×Int))(i:Nat)(r:Int×Int×Int):Prop:=(layT (rows qh2_ L)).get (Nat.add (i*3) 0)=some (i6 (r.1))
theorem ok24 {L:List (Int×Int×Int)}{i:Nat}{r:Int×Int×Int}(hr:some (L.getD i (0,0,0))=some r)(h:i<L.length):OB (.ld (i6 (r.1))) (op24 L i r):=by cases hr; exact⟨rows_ld qjq_ (0,0,0) (i:=i) (j:=0) (Nat.add (i*3) 0) rfl h (by decide) rfl⟩
abbrev op25 (L:List (Int×Int×Int))(i:Nat)(r:Int×Int×Int):Prop:=(layT (rows qh2_ L)).get (Nat.add (i*3) 1)=some (i6 (r.2.1))
theorem ok25 {L:List (Int×Int×Int)}{i:Nat}{r:Int×Int×Int}(hr:some (L.getD i (0,0,0))=some r)(h:i<L.length):OB (.ld (i6 (r.2.1))) (op25 L i r):=by cases hr; exact⟨rows_ld qjq_ (0,0,0) (i:=i) (j:=1) (Nat.add (i*3) 1) rfl h (by decide) rfl⟩
abbrev op26 (L:List (Int×Int×Int))(i:Nat)(r:Int×Int×Int):Prop:=(layT (rows qh2_ L)).get (Nat.add (i*3) 2)=some (i6 (r.2.2))
theorem ok26 {L:List (Int×Int×Int)}{i:Nat}{r:Int×Int×Int}(hr:some (L.getD i (0,0,0))=some r)(h:i<L.length):OB (.ld (i6 (r.2.2))) (op26 L i r):=by cases hr; exact⟨rows_ld qjq_ (0,0,0) (i:=i) (j:=2) (Nat.add (i*3) 2) rfl h (by decide) rfl⟩
theorem qvx_ {α:Type}(l:List α)(x:α):∃ a t,l ++ [x]=a::t:=by
 cases l with
 | nil=>exact⟨_,_,rfl⟩
 | cons a t=>exact⟨_,_,rfl⟩
theorem set_cons {α:Type}{x v:α}{l:List α}{n:Nat}:∃ a t,(x::l).set n v=a::t:=by cases n<;>exact⟨_,_,rfl⟩
abbrev lp27 (x:WL rw_iLii)(i:Nat)(r:Int×NL×Int×Int):Prop:=Lg P 56 (pW x.num (Nat.add x.off (i*4))) (Value.agg #[(i6 (r.1)),(nlV (r.2.1)),(i6 (r.2.2.1)),(i6 (r.2.2.2))])
theorem lk27 {x:WL rw_iLii}{i:Nat}{r:Int×NL×Int×Int}(hr:some ((x.l).getD i (0,nl0,0,0))=some r)(h:i<(x.l).length):OB (.ld (Value.agg #[(i6 (r.1)),(nlV (r.2.1)),(i6 (r.2.2.1)),(i6 (r.2.2.2))])) (lp27 x i r):=by cases hr; exact⟨ldRA rwf_iLii (0,nl0,0,0) (i:=i) (q:=0) x (n:=4) (Nat.add x.off (i*4)) rfl (by kernel_rfl) (by kernel_rfl) h (by decide) (by decide) rfl⟩
abbrev fp28 (b o:Nat):Prop:=FA P 31 (pW b o) 0 (pW b (Nat.add o 0))
theorem fk28 (b o:Nat):OB (.pur (pW b (Nat.add o 0))) (fp28 b o):=⟨by unfold fp28 FA; kernel_rfl⟩
abbrev lp29 (x:W8)(i:Nat)(r:R8):Prop:=Lg P 3 (pW x.num (Nat.add (Nat.add x.off (i*8)) 0)) (i6 (r.1))
theorem lk29 {x:W8}{i:Nat}{r:Int×Int×Int×Int×Int×Int×NL×Int}(hr:some ((x.l).getD i (0,0,0,0,0,0,nl0,0))=some r)(h:i<(x.l).length):OB (.ld (i6 (r.1))) (lp29 x i r):=by cases hr; exact⟨ldRS rwf_iiiiiiLu (0,0,0,0,0,0,nl0,0) (i:=i) (q:=0) x (Nat.add (Nat.add x.off (i*8)) 0) rfl (by kernel_rfl) h (by decide) rfl⟩
abbrev xp30 (b n k:Nat)(i:Int):Prop:=IA P 34 (sN b 0 n k) i (pN b (i.toNat*4))
theorem xk30 (b k:Nat){n:Nat}{i:Int}(h:0≤i∧i<(n:Int)):OB (.pur (pN b (i.toNat*4))) (xp30 b n k i):=⟨ixS (e:=38) (by kernel_rfl) (by kernel_rfl) h.1 h.2⟩
abbrev xp31 (b o n k:Nat)(i:Int):Prop:=IA P 34 (sW b o n k) i (pW b (Nat.add o (i.toNat*4)))
theorem xk31 (b o k:Nat){n:Nat}{i:Int}(h:0≤i∧i<(n:Int)):OB (.pur (pW b (Nat.add o (i.toNat*4)))) (xp31 b o n k i):=⟨ixWO (e:=38) (by kernel_rfl) (by kernel_rfl) h⟩
abbrev lp32 (x:WL qm_)(i:Nat)(r:Int×Int×Int×Int):Prop:=Lg P 38 (pW x.num (Nat.add x.off (i*4))) (Value.agg #[(i6 (r.1)),(i6 (r.2.1)),(i6 (r.2.2.1)),(i6 (r.2.2.2))])
theorem lk32 {x:WL qm_}{i:Nat}{r:Int×Int×Int×Int}(hr:some ((x.l).getD i (0,0,0,0))=some r)(h:i<(x.l).length):OB (.ld (Value.agg #[(i6 (r.1)),(i6 (r.2.1)),(i6 (r.2.2.1)),(i6 (r.2.2.2))])) (lp32 x i r):=by cases hr; exact⟨ldRA qn_ (0,0,0,0) (i:=i) (q:=0) x (n:=4) (Nat.add x.off (i*4)) rfl (by kernel_rfl) (by kernel_rfl) h (by decide) (by decide) rfl⟩
abbrev fp33 (b o:Nat):Prop:=FA P 38 (pW b o) 2 (pW b (Nat.add o 2))
theorem fk33 (b o:Nat):OB (.pur (pW b (Nat.add o 2))) (fp33 b o):=⟨by unfold fp33 FA; kernel_rfl⟩
abbrev lp34 (x:WL qm_)(i:Nat)(r:Int×Int×Int×Int):Prop:=Lg P 3 (pW x.num (Nat.add (Nat.add x.off (i*4)) 2)) (i6 (r.2.2.1))
theorem lk34 {x:WL qm_}{i:Nat}{r:Int×Int×Int×Int}(hr:some ((x.l).getD i (0,0,0,0))=some r)(h:i<(x.l).length):OB (.ld (i6 (r.2.2.1))) (lp34 x i r):=by cases hr; exact⟨ldRS qn_ (0,0,0,0) (i:=i) (q:=2) x (Nat.add (Nat.add x.off (i*4)) 2) rfl (by kernel_rfl) h (by decide) rfl⟩
abbrev fp35 (b o:Nat):Prop:=FA P 38 (pW b o) 3 (pW b (Nat.add o 3))
theorem fk35 (b o:Nat):OB (.pur (pW b (Nat.add o 3))) (fp35 b o):=⟨by unfold fp35 FA; kernel_rfl⟩
abbrev lp36 (x:WL qm_)(i:Nat)(r:Int×Int×Int×Int):Prop:=Lg P 3 (pW x.num (Nat.add (Nat.add x.off (i*4)) 3)) (i6 (r.2.2.2))
theorem lk36 {x:WL qm_}{i:Nat}{r:Int×Int×Int×Int}(hr:some ((x.l).getD i (0,0,0,0))=some r)(h:i<(x.l).length):OB (.ld (i6 (r.2.2.2))) (lp36 x i r):=by cases hr; exact⟨ldRS qn_ (0,0,0,0) (i:=i) (q:=3) x (Nat.add (Nat.add x.off (i*4)) 3) rfl (by kernel_rfl) h (by decide) rfl⟩
abbrev fp37 (b o:Nat):Prop:=FA P 56 (pW b o) 3 (pW b (Nat.add o 3))
theorem fk37 (b o:Nat):OB (.pur (pW b (Nat.add o 3))) (fp37 b o):=⟨by unfold fp37 FA; kernel_rfl⟩
abbrev lp38 (x:WL rw_iLii)(i:Nat)(r:Int×NL×Int×Int):Prop:=Lg P 3 (pW x.num (Nat.add (Nat.add x.off (i*4)) 3)) (i6 (r.2.2.2))
theorem lk38 {x:WL rw_iLii}{i:Nat}{r:Int×NL×Int×Int}(hr:some ((x.l).getD i (0,nl0,0,0))=some r)(h:i<(x.l).length):OB (.ld (i6 (r.2.2.2))) (lp38 x i r):=by cases hr; exact⟨ldRS rwf_iLii (0,nl0,0,0) (i:=i) (q:=3) x (Nat.add (Nat.add x.off (i*4)) 3) rfl (by kernel_rfl) h (by decide) rfl⟩
abbrev fp39 (b o:Nat):Prop:=FA P 56 (pW b o) 2 (pW b (Nat.add o 2))
theorem fk39 (b o:Nat):OB (.pur (pW b (Nat.add o 2))) (fp39 b o):=⟨by unfold fp39 FA; kernel_rfl⟩
abbrev lp40 (x:WL rw_iLii)(i:Nat)(r:Int×NL×Int×Int):Prop:=Lg P 3 (pW x.num (Nat.add (Nat.add x.off (i*4)) 2)) (i6 (r.2.2.1))
theorem lk40 {x:WL rw_iLii}{i:Nat}{r:Int×NL×Int×Int}(hr:some ((x.l).getD i (0,nl0,0,0))=some r)(h:i<(x.l).length):OB (.ld (i6 (r.2.2.1))) (lp40 x i r):=by cases hr; exact⟨ldRS rwf_iLii (0,nl0,0,0) (i:=i) (q:=2) x (Nat.add (Nat.add x.off (i*4)) 2) rfl (by kernel_rfl) h (by decide) rfl⟩

def qix_ (n:Nat):Option Unit:=some ()
theorem qrx_ (n:Nat)(r:Unit)(h:qix_ n=some r):Gv P (.func 4) [] Ax.h0 (.bool true) Ax.h0:=lives_gv

def qi0_ (a0:W8)(a1:Int)(r:Bool):Value:=match r with
 | o0=>(bO o0)
def qi1_ (a0:W8)(a1:Int)(r:Bool):AH:=match r with
 | o0=>⟨sB [],0,0⟩
abbrev qpq_ (a0:W8)(a1:Int)(r:Bool):Prop:=Gv P (.func 17) [(wlV a0),(i6 a1)] ⟨sB [],0,0⟩ (qi0_ a0 a1 r) (qi1_ a0 a1 r)
abbrev qpr_ (a0:W8)(a1:Int)(r:Bool)(ins outs:BL):CallA:=⟨0,ins,qi0_ a0 a1 r,qi1_ a0 a1 r,outs⟩
def qdi_ (x0:W8)(x1:Int)(st:Int×Int):XSt:=match st with
 | (x2,x3)=>(sT 66 [(0,(wlV x0)),(1,(i6 x1)),(5,(i6 x2)),(6,(i6 x3))],[],⟨sB [],0,0⟩)
def q7_ (x0:W8)(x1:Int)(r:(Unit) ⊕ (Int)):Ex×XSt:=match r with
 | .inl _=>(.ret,(sT 66 [(4,(bO false))],[],⟨sB [],0,0⟩))
 | .inr z0=>(.exit 0,(sT 66 [(0,(wlV x0)),(1,(i6 x1)),(5,(i6 z0))],[],⟨sB [],0,0⟩))
abbrev qn2_ (rnd:Option Nat)(x0:W8)(x1:Int)(st:Int×Int)(c:Ex×XSt):Prop:=CG P rnd (fnN P 17) 0 (qx_ P 17 [false,false,true,false,true,true]) (qdi_ x0 x1 st) c
abbrev qn3_ (rd:Option Nat)(x0:W8)(x1:Int)(st:Int×Int)(r:(Unit) ⊕ (Int)):Prop:=CG P rd (fnN P 17) 0 (qx_ P 17 [false,true,false,true,true]) (qdi_ x0 x1 st) (q7_ x0 x1 r)
def qbp_ (n:Nat)(x0:W8)(x1:Int)(st:Int×Int):Option ((Int×Int) ⊕ ((Unit) ⊕ (Int))):=match st with
 | (x2,x3)=>
  if x3<(((x0).l.length:Nat):Int) then
   if x3≤x1 then
    if 0≤x3∧x3<(((x0).l.length:Nat):Int) then
     ((some (((x0).l).getD (x3).toNat (0,0,0,0,0,0,nl0,0)))).bind fun y4_=>
     ((some (w64 (x2+((((y4_.2.2.2.2.2.2.1)).l.length:Nat):Int))))).bind fun y5_=>
     if (y4_.2.2.1) > 1048576 then
      some (.inr (.inl ()))
     else
      if (y4_.2.2.2.2.1) > 1048576 then
       some (.inr (.inl ()))
      else
       if (y4_.2.2.2.2.2.1) > 1048576 then
        some (.inr (.inl ()))
       else
        if (y4_.2.2.1)<(-1048576:Int) then
         some (.inr (.inl ()))
        else
         if (y4_.2.2.2.2.1)<(-1048576:Int) then
          some (.inr (.inl ()))
         else
          if (y4_.2.2.2.2.2.1)<(-1048576:Int) then
           some (.inr (.inl ()))
          else
           some (.inl (y5_,(w64 (x3+1))))
    else none
   else
    some (.inr (.inr x2))
  else
   some (.inr (.inr x2))
def qdj_ (n:Nat)(x0:W8)(x1:Int)(st:Int×Int):Option ((Unit) ⊕ (Int)):=iterM (qbp_ n x0 x1) n st
theorem qhk_ (n:Nat){rnd:Option Nat}(x0:W8)(x1:Int)(st:Int×Int)(o:(Int×Int) ⊕ ((Unit) ⊕ (Int)))(h:qbp_ n x0 x1 st=some o):qn2_ rnd x0 x1 st (Sum.elim (fun s=>(.normal,qdi_ x0 x1 s)) (fun r=>q7_ x0 x1 r) o):=by
 obtain⟨x2,x3⟩:=st
 unfold qbp_ at h
 dsimp only at h
 by_cases hy1:x3<(((x0).l.length:Nat):Int)
 ·rw[if_pos hy1] at h
  have k0:=fun {A L l} (k:PL A L l)=>zz 5 (xdT hy1) <|
   k
  by_cases hy2:x3≤x1
  ·rw[if_pos hy2] at h
   obtain⟨hy3,h⟩:=gd h
   obtain⟨y4_,hy4,h⟩:=oB h
   obtain⟨y5_,hy5,h⟩:=oB h
   have k1:=fun {A L l} (k:PL A L l)=>zz 9 (xdT hy2) <|
    zz 17 (xk1 (x0).num (x0).off (x0).cap hy3) <|
    zz 18 (lk2 hy4 (qw_ hy3)) <|
    zz 26 (xnm hy5) <|
    k
   by_cases hy6:(y4_.2.2.1) > 1048576
   ·rw[if_pos hy6] at h
    obtain rfl:=oI h
    exact runC2 hm (kW [4] [] 0 0) (k0 <|
     k1 <|
     zz 31 (xdT hy6) <|
     ee) (by kernel_rfl)
   ·rw[if_neg hy6] at h
    have k5:=fun {A L l} (k:PL A L l)=>zz 31 (xdF hy6) <|
     k
    by_cases hy7:(y4_.2.2.2.2.1) > 1048576
    ·rw[if_pos hy7] at h
     obtain rfl:=oI h
     exact runC2 hm (kW [4] [] 0 0) (k0 <|
      k1 <|
      k5 <|
      zz 35 (xdT hy7) <|
      ee) (by kernel_rfl)
    ·rw[if_neg hy7] at h
     have k6:=fun {A L l} (k:PL A L l)=>zz 35 (xdF hy7) <|
      k
     by_cases hy8:(y4_.2.2.2.2.2.1) > 1048576
     ·rw[if_pos hy8] at h
      obtain rfl:=oI h
      exact runC2 hm (kW [4] [] 0 0) (k0 <|
       k1 <|
       k5 <|
       k6 <|
       zz 40 (xdT hy8) <|
       ee) (by kernel_rfl)
     ·rw[if_neg hy8] at h
      have k7:=fun {A L l} (k:PL A L l)=>zz 40 (xdF hy8) <|
       k
      by_cases hy9:(y4_.2.2.1)<(-1048576:Int)
      ·rw[if_pos hy9] at h
       obtain rfl:=oI h
       exact runC2 hm (kW [4] [] 0 0) (k0 <|
        k1 <|
        k5 <|
        k6 <|
        k7 <|
        zz 45 (xdT hy9) <|
        ee) (by kernel_rfl)
      ·rw[if_neg hy9] at h
       have k8:=fun {A L l} (k:PL A L l)=>zz 45 (xdF hy9) <|
        k
       by_cases hy10:(y4_.2.2.2.2.1)<(-1048576:Int)
       ·rw[if_pos hy10] at h
        obtain rfl:=oI h
        exact runC2 hm (kW [4] [] 0 0) (k0 <|
         k1 <|
         k5 <|
         k6 <|
         k7 <|
         k8 <|
         zz 50 (xdT hy10) <|
         ee) (by kernel_rfl)
       ·rw[if_neg hy10] at h
        have k9:=fun {A L l} (k:PL A L l)=>zz 50 (xdF hy10) <|
         k
        by_cases hy11:(y4_.2.2.2.2.2.1)<(-1048576:Int)
        ·rw[if_pos hy11] at h
         obtain rfl:=oI h
         exact runC2 hm (kW [4] [] 0 0) (k0 <|
          k1 <|
          k5 <|
          k6 <|
          k7 <|
          k8 <|
          k9 <|
          zz 55 (xdT hy11) <|
          ee) (by kernel_rfl)
        ·rw[if_neg hy11] at h
         obtain rfl:=oI h
         exact runC2 hm (kW [0,1,5,6] [] 0 0) (k0 <|
          k1 <|
          k5 <|
          k6 <|
          k7 <|
          k8 <|
          k9 <|
          zz 55 (xdF hy11) <|
          ee) (by kernel_rfl)
  ·rw[if_neg hy2] at h
   obtain rfl:=oI h
   exact runC2 hm (kW [0,1,5] [] 0 0) (k0 <|
    zz 9 (xdF hy2) <|
    ee) (by kernel_rfl)
 ·rw[if_neg hy1] at h
  obtain rfl:=oI h
  exact runC2 hm (kW [0,1,5] [] 0 0) (zz 5 (xdF hy1) <|
   ee) (by kernel_rfl)
theorem qge_ (n:Nat){rnd:Option Nat}(x0:W8)(x1:Int)(st:Int×Int)(r:(Unit) ⊕ (Int))(h:qdj_ n x0 x1 st=some r):qn3_ rnd x0 x1 st r:=
 CG.iter (b:=qx_ P 17 [false,false,true,false,true,true]) (by kernel_rfl) (body:=qbp_ n x0 x1) (S:=qdi_ x0 x1) (X:=q7_ x0 x1)
  (fun s s' h=>qhk_ n x0 x1 s (.inl s') h)
  (fun s r h=>qhk_ n x0 x1 s (.inr r) h)
  (fun r=>by intro hx; rcases r with _ | _<;>cases hx) h
def qb6_ (n:Nat)(a0:W8)(a1:Int):Option (Bool):=
 match qdj_ n a0 a1 (0,0) with
 | none=>none
 | some (.inl _)=>
  some false
 | some (.inr c1_)=>
  if (((a0).l.length:Nat):Int)≤a1 then
   if c1_≤(w64 ((2:Int)*a1)) then
    some true
   else
    some false
  else
   some false
theorem qno_ (n:Nat)(a0:W8)(a1:Int)(r:Bool)(h:qb6_ n a0 a1=some r):qpq_ a0 a1 r:=by
 unfold qb6_ at h
 rcases hc1:qdj_ n a0 a1 (0,0) with _ | (⟨⟩ | c1_)
 ·rw[hc1] at h; cases h
 ·rw[hc1] at h
  dsimp only at h
  obtain rfl:=oI h
  exact runF2 hm (kW [4] [] 0 0) (ww (qge_ n (rnd:=none) a0 a1 (0,0) (.inl ()) hc1) <|
   ll 8 ⟨(kW [0,1,5,6] [] 0 0),(q7_ a0 a1 (.inl ())).1,(q7_ a0 a1 (.inl ())).2⟩ <|
   ee) (by kernel_rfl)
 ·rw[hc1] at h
  dsimp only at h
  have k0:=fun {A L l} (k:PL A L l)=>ww (qge_ n (rnd:=none) a0 a1 (0,0) (.inr c1_) hc1) <|
   ll 8 ⟨(kW [0,1,5,6] [] 0 0),(q7_ a0 a1 (.inr c1_)).1,(q7_ a0 a1 (.inr c1_)).2⟩ <|
   k
  by_cases hc2:(((a0).l.length:Nat):Int)≤a1
  ·rw[if_pos hc2] at h
   have k2:=fun {A L l} (k:PL A L l)=>zz 13 (xdT hc2) <|
    k
   by_cases hc3:c1_≤(w64 ((2:Int)*a1))
   ·rw[if_pos hc3] at h
    obtain rfl:=oI h
    exact runF2 hm (kW [4] [] 0 0) (k0 <|
     k2 <|
     zz 18 (xdT hc3) <|
     ee) (by kernel_rfl)
   ·rw[if_neg hc3] at h
    obtain rfl:=oI h
    exact runF2 hm (kW [4] [] 0 0) (k0 <|
     k2 <|
     zz 18 (xdF hc3) <|
     ee) (by kernel_rfl)
  ·rw[if_neg hc2] at h
   obtain rfl:=oI h
   exact runF2 hm (kW [4] [] 0 0) (k0 <|
    zz 13 (xdF hc2) <|
    ee) (by kernel_rfl)

def qh3_ (a0:WL rw_iLii)(r:Bool):Value:=match r with
 | o0=>(bO o0)
def qh4_ (a0:WL rw_iLii)(r:Bool):AH:=match r with
 | o0=>⟨sB [],0,0⟩
abbrev qo6_ (a0:WL rw_iLii)(r:Bool):Prop:=Gv P (.func 18) [(wlV a0)] ⟨sB [],0,0⟩ (qh3_ a0 r) (qh4_ a0 r)
abbrev qo7_ (a0:WL rw_iLii)(r:Bool)(ins outs:BL):CallA:=⟨0,ins,qh3_ a0 r,qh4_ a0 r,outs⟩
def qc4_ (x0:WL rw_iLii)(st:Int):XSt:=match st with
 | x1=>(sT 20 [(0,(wlV x0)),(3,(i6 x1))],[],⟨sB [],0,0⟩)
def q3_ (x0:WL rw_iLii)(r:(Unit) ⊕ (Unit)):Ex×XSt:=match r with
 | .inl _=>(.ret,(sT 20 [(2,(bO false))],[],⟨sB [],0,0⟩))
 | .inr _=>(.exit 0,(sT 20 [(0,(wlV x0))],[],⟨sB [],0,0⟩))
abbrev qnp_ (rd:Option Nat)(x0:WL rw_iLii)(st:Int)(r:(Unit) ⊕ (Unit)):Prop:=CG P rd (fnN P 18) 0 (qx_ P 18 [false,true,false,true]) (qc4_ x0 st) (q3_ x0 r)
def qy_ (n:Nat)(x0:WL rw_iLii)(st:Int):Option ((Int) ⊕ ((Unit) ⊕ (Unit))):=match st with
 | x1=>
  if x1<(((x0).l.length:Nat):Int) then
   if 0≤x1∧x1<(((x0).l.length:Nat):Int) then
    ((some (((x0).l).getD (x1).toNat (0,nl0,0,0)))).bind fun y3_=>
    if ((((y3_.2.1)).l.length:Nat):Int) > 20 then
     some (.inr (.inl ()))
    else
     some (.inl (w64 (x1+1)))
   else none
  else
   some (.inr (.inr ()))
def qc5_ (n:Nat)(x0:WL rw_iLii)(st:Int):Option ((Unit) ⊕ (Unit)):=iterM (qy_ n x0) n st
theorem qg3_ (n:Nat){rnd:Option Nat}(x0:WL rw_iLii)(x1:Int)(o:(Int) ⊕ ((Unit) ⊕ (Unit)))(h:qy_ n x0 x1=some o):CG P rnd (fnN P 18) 0 (qx_ P 18 [false,false,true,false,true]) (qc4_ x0 x1) (Sum.elim (fun s=>(.normal,qc4_ x0 s)) (fun r=>q3_ x0 r) o):=by
 unfold qy_ at h
 dsimp only at h
 by_cases hy1:x1<(((x0).l.length:Nat):Int)
 ·rw[if_pos hy1] at h
  obtain⟨hy2,h⟩:=gd h
  obtain⟨y3_,hy3,h⟩:=oB h
  have k0:=fun {A L l} (k:PL A L l)=>zz 5 (xdT hy1) <|
   zz 12 (xk3 (x0).num (x0).off (x0).cap hy2) <|
   zz 13 (fk4 (x0).num (Nat.add (x0).off ((x1).toNat*4))) <|
   zz 14 (lk5 hy3 (qw_ hy2)) <|
   k
  by_cases hy4:((((y3_.2.1)).l.length:Nat):Int) > 20
  ·rw[if_pos hy4] at h
   obtain rfl:=oI h
   exact runC2 hm (kW [2] [] 0 0) (k0 <|
    zz 16 (xdT hy4) <|
    ee) (by kernel_rfl)
  ·rw[if_neg hy4] at h
   obtain rfl:=oI h
   exact runC2 hm (kW [0,3] [] 0 0) (k0 <|
    zz 16 (xdF hy4) <|
    ee) (by kernel_rfl)
 ·rw[if_neg hy1] at h
  obtain rfl:=oI h
  exact runC2 hm (kW [0] [] 0 0) (zz 5 (xdF hy1) <|
   ee) (by kernel_rfl)
theorem qf3_ (n:Nat){rnd:Option Nat}(x0:WL rw_iLii)(st:Int)(r:(Unit) ⊕ (Unit))(h:qc5_ n x0 st=some r):qnp_ rnd x0 st r:=
 CG.iter (b:=qx_ P 18 [false,false,true,false,true]) (by kernel_rfl) (body:=qy_ n x0) (S:=qc4_ x0) (X:=q3_ x0)
  (fun s s' h=>qg3_ n x0 s (.inl s') h)
  (fun s r h=>qg3_ n x0 s (.inr r) h)
  (fun r=>by intro hx; rcases r with _ | _<;>cases hx) h
def qcm_ (n:Nat)(a0:WL rw_iLii):Option (Bool):=
 match qc5_ n a0 0 with
 | none=>none
 | some (.inl _)=>
  some false
 | some (.inr _)=>
  if (((a0).l.length:Nat):Int)≤70 then
   some true
  else
   some false
theorem qmx_ (n:Nat)(a0:WL rw_iLii)(r:Bool)(h:qcm_ n a0=some r):qo6_ a0 r:=by
 unfold qcm_ at h
 rcases hc1:qc5_ n a0 0 with _ | (⟨⟩ | ⟨⟩)
 ·rw[hc1] at h; cases h
 ·rw[hc1] at h
  dsimp only at h
  obtain rfl:=oI h
  exact runF2 hm (kW [2] [] 0 0) (ww (qf3_ n (rnd:=none) a0 0 (.inl ()) hc1) <|
   ll 6 ⟨(kW [0,3] [] 0 0),(q3_ a0 (.inl ())).1,(q3_ a0 (.inl ())).2⟩ <|
   ee) (by kernel_rfl)
 ·rw[hc1] at h
  dsimp only at h
  have k0:=fun {A L l} (k:PL A L l)=>ww (qf3_ n (rnd:=none) a0 0 (.inr ()) hc1) <|
   ll 6 ⟨(kW [0,3] [] 0 0),(q3_ a0 (.inr ())).1,(q3_ a0 (.inr ())).2⟩ <|
   k
  by_cases hc2:(((a0).l.length:Nat):Int)≤70
  ·rw[if_pos hc2] at h
   obtain rfl:=oI h
   exact runF2 hm (kW [2] [] 0 0) (k0 <|
    zz 10 (xdT hc2) <|
    ee) (by kernel_rfl)
  ·rw[if_neg hc2] at h
   obtain rfl:=oI h
   exact runF2 hm (kW [2] [] 0 0) (k0 <|
    zz 10 (xdF hc2) <|
    ee) (by kernel_rfl)

def qsq_ (a0:W8)(a1:WL rw_iLii):List Value:=[(wlV a0),(Value.slice none 0 0),(wlV a1)]
def qlh_ (a0:W8)(a1:WL rw_iLii)(r:Bool):Value:=match r with
 | o0=>(bO o0)
def qli_ (a0:W8)(a1:WL rw_iLii)(r:Bool):AH:=match r with
 | o0=>⟨sB [],0,0⟩
abbrev qsr_ (a0:W8)(a1:WL rw_iLii)(r:Bool):Prop:=Gv P (.func 5) (qsq_ a0 a1) ⟨sB [],0,0⟩ (qlh_ a0 a1 r) (qli_ a0 a1 r)
abbrev qss_ (a0:W8)(a1:WL rw_iLii)(r:Bool)(ins outs:BL):CallA:=⟨0,ins,qlh_ a0 a1 r,qli_ a0 a1 r,outs⟩
def qfg_ (n:Nat)(a0:W8)(a1:WL rw_iLii):Option (Bool):=
 (qb6_ n a0 100).bind fun c1_=>
 if c1_=true then
  (qcm_ n a1).bind fun c3_=>
  some c3_
 else
  some false
theorem qps_ (n:Nat)(a0:W8)(a1:WL rw_iLii)(r:Bool)(h:qfg_ n a0 a1=some r):qsr_ a0 a1 r:=by
 unfold qfg_ at h
 obtain⟨c1_,hc1,h⟩:=oB h
 have k0:=fun {A L l} (k:PL A L l)=>yy 4 (.call (qpr_ a0 100 c1_ [] [])) <|
  ww (qno_ n a0 100 c1_ hc1) <|
  k
 by_cases hc2:c1_=true
 ·rw[if_pos hc2] at h
  obtain⟨c3_,hc3,h⟩:=oB h
  obtain rfl:=oI h
  exact runF2 hm (kW [6] [] 0 0) (k0 <|
   zz 5 (xbT hc2) <|
   yy 12 (.call (qo7_ a1 c3_ [] [])) <|
   ww (qmx_ n a1 c3_ hc3) <|
   ee) (by kernel_rfl)
 ·rw[if_neg hc2] at h
  obtain rfl:=oI h
  exact runF2 hm (kW [6] [] 0 0) (k0 <|
   zz 5 (xbF hc2) <|
   ee) (by kernel_rfl)

def ql9_ (a0:Int)(r:Bool):Value:=match r with
 | o0=>(bO o0)
def qma_ (a0:Int)(r:Bool):AH:=match r with
 | o0=>⟨sB [],0,0⟩
abbrev qtr_ (a0:Int)(r:Bool):Prop:=Gv P (.func 28) [(i6 a0)] ⟨sB [],0,0⟩ (ql9_ a0 r) (qma_ a0 r)
abbrev q6_ (a0:Int)(r:Bool)(ins outs:BL):CallA:=⟨0,ins,ql9_ a0 r,qma_ a0 r,outs⟩
def qk_ (n:Nat)(a0:Int):Option (Bool):=
 if a0=1 then
  some false
 else
  if a0=2 then
   some false
  else
   some true
theorem qu_ (n:Nat)(a0:Int)(r:Bool)(h:qk_ n a0=some r):qtr_ a0 r:=by
 unfold qk_ at h
 by_cases hc1:a0=1
 ·rw[if_pos hc1] at h
  obtain rfl:=oI h
  exact runF2 hm (kW [2] [] 0 0) (zz 4 (xnF hc1) <|
   ee) (by kernel_rfl)
 ·rw[if_neg hc1] at h
  have k0:=fun {A L l} (k:PL A L l)=>zz 4 (xnT hc1) <|
   k
  by_cases hc2:a0=2
  ·rw[if_pos hc2] at h
   obtain rfl:=oI h
   exact runF2 hm (kW [2] [] 0 0) (k0 <|
    zz 7 (xnF hc2) <|
    ee) (by kernel_rfl)
  ·rw[if_neg hc2] at h
   obtain rfl:=oI h
   exact runF2 hm (kW [2] [] 0 0) (k0 <|
    zz 7 (xnT hc2) <|
    ee) (by kernel_rfl)

def qmb_ (a0 a1 a2 a3 a4 a5:Int)(a6:NL)(a7:Int)(r:Bool):Value:=match r with
 | o0=>(bO o0)
def qmc_ (a0 a1 a2 a3 a4 a5:Int)(a6:NL)(a7:Int)(r:Bool):AH:=match r with
 | o0=>⟨sB [],0,0⟩
abbrev qts_ (a0 a1 a2 a3 a4 a5:Int)(a6:NL)(a7:Int)(r:Bool):Prop:=Gv P (.func 19) [(Value.agg #[(i6 a0),(i6 a1),(i6 a2),(i6 a3),(i6 a4),(i6 a5),(nlV a6),(Value.int .u64 a7)])] ⟨sB [],0,0⟩ (qmb_ a0 a1 a2 a3 a4 a5 a6 a7 r) (qmc_ a0 a1 a2 a3 a4 a5 a6 a7 r)
abbrev qtt_ (a0 a1 a2 a3 a4 a5:Int)(a6:NL)(a7:Int)(r:Bool)(ins outs:BL):CallA:=⟨0,ins,qmb_ a0 a1 a2 a3 a4 a5 a6 a7 r,qmc_ a0 a1 a2 a3 a4 a5 a6 a7 r,outs⟩
def qci_ (n:Nat)(a0 a1 a2 a3 a4 a5:Int)(a6:NL)(a7:Int):Option (Bool):=
 if a1<1 then
  some false
 else
  if a1 > 6 then
   some false
  else
   if a2<0 then
    some false
   else
    if a2 > a4 then
     some false
    else
     if a5≤a2 then
      some false
     else
      if a1=3 then
       if a3<a2 then
        some false
       else
        if a3 > a4 then
         some false
        else
         if a1=4 then
          if a2=a4 then
           (qk_ n a1).bind fun c11_=>
           if c11_=true then
            if (((a6).l.length:Nat):Int)=0 then
             some true
            else
             some false
           else
            some true
          else
           some false
         else
          (qk_ n a1).bind fun c10_=>
          if c10_=true then
           if (((a6).l.length:Nat):Int)=0 then
            some true
           else
            some false
          else
           some true
      else
       if a1=5 then
        if a3<a2 then
         some false
        else
         if a3 > a4 then
          some false
         else
          if a1=4 then
           if a2=a4 then
            (qk_ n a1).bind fun c12_=>
            if c12_=true then
             if (((a6).l.length:Nat):Int)=0 then
              some true
             else
              some false
            else
             some true
           else
            some false
          else
           (qk_ n a1).bind fun c11_=>
           if c11_=true then
            if (((a6).l.length:Nat):Int)=0 then
             some true
            else
             some false
           else
            some true
       else
        if a1=6 then
         if a3<a2 then
          some false
         else
          if a3 > a4 then
           some false
          else
           if a1=4 then
            if a2=a4 then
             (qk_ n a1).bind fun c13_=>
             if c13_=true then
              if (((a6).l.length:Nat):Int)=0 then
               some true
              else
               some false
             else
              some true
            else
             some false
           else
            (qk_ n a1).bind fun c12_=>
            if c12_=true then
             if (((a6).l.length:Nat):Int)=0 then
              some true
             else
              some false
            else
             some true
        else
         if a3=a2 then
          if a1=4 then
           if a2=a4 then
            (qk_ n a1).bind fun c12_=>
            if c12_=true then
             if (((a6).l.length:Nat):Int)=0 then
              some true
             else
              some false
            else
             some true
           else
            some false
          else
           (qk_ n a1).bind fun c11_=>
           if c11_=true then
            if (((a6).l.length:Nat):Int)=0 then
             some true
            else
             some false
           else
            some true
         else
          some false
theorem qqm_ (n:Nat)(a0 a1 a2 a3 a4 a5:Int)(a6:NL)(a7:Int)(r:Bool)(h:qci_ n a0 a1 a2 a3 a4 a5 a6 a7=some r):qts_ a0 a1 a2 a3 a4 a5 a6 a7 r:=by
 unfold qci_ at h
 by_cases hc1:a1<1
 ·rw[if_pos hc1] at h
  obtain rfl:=oI h
  exact runF2 hm (kW [2] [] 0 0) (zz 7 (xdT hc1) <|
   ee) (by kernel_rfl)
 ·rw[if_neg hc1] at h
  have k0:=fun {A L l} (k:PL A L l)=>zz 7 (xdF hc1) <|
   k
  by_cases hc2:a1 > 6
  ·rw[if_pos hc2] at h
   obtain rfl:=oI h
   exact runF2 hm (kW [2] [] 0 0) (k0 <|
    zz 11 (xdT hc2) <|
    ee) (by kernel_rfl)
  ·rw[if_neg hc2] at h
   have k1:=fun {A L l} (k:PL A L l)=>zz 11 (xdF hc2) <|
    k
   by_cases hc3:a2<0
   ·rw[if_pos hc3] at h
    obtain rfl:=oI h
    exact runF2 hm (kW [2] [] 0 0) (k0 <|
     k1 <|
     zz 16 (xdT hc3) <|
     ee) (by kernel_rfl)
   ·rw[if_neg hc3] at h
    have k2:=fun {A L l} (k:PL A L l)=>zz 16 (xdF hc3) <|
     k
    by_cases hc4:a2 > a4
    ·rw[if_pos hc4] at h
     obtain rfl:=oI h
     exact runF2 hm (kW [2] [] 0 0) (k0 <|
      k1 <|
      k2 <|
      zz 23 (xdT hc4) <|
      ee) (by kernel_rfl)
    ·rw[if_neg hc4] at h
     have k3:=fun {A L l} (k:PL A L l)=>zz 23 (xdF hc4) <|
      k
     by_cases hc5:a5≤a2
     ·rw[if_pos hc5] at h
      obtain rfl:=oI h
      exact runF2 hm (kW [2] [] 0 0) (k0 <|
       k1 <|
       k2 <|
       k3 <|
       zz 30 (xdT hc5) <|
       ee) (by kernel_rfl)
     ·rw[if_neg hc5] at h
      have k4:=fun {A L l} (k:PL A L l)=>zz 30 (xdF hc5) <|
       k
      by_cases hc6:a1=3
      ·rw[if_pos hc6] at h
       have k5:=fun {A L l} (k:PL A L l)=>zz 36 (xeT hc6) <|
        k
       by_cases hc7:a3<a2
       ·rw[if_pos hc7] at h
        obtain rfl:=oI h
        exact runF2 hm (kW [2] [] 0 0) (k0 <|
         k1 <|
         k2 <|
         k3 <|
         k4 <|
         k5 <|
         zz 56 (xdT hc7) <|
         ee) (by kernel_rfl)
       ·rw[if_neg hc7] at h
        have k6:=fun {A L l} (k:PL A L l)=>zz 56 (xdF hc7) <|
         k
        by_cases hc8:a3 > a4
        ·rw[if_pos hc8] at h
         obtain rfl:=oI h
         exact runF2 hm (kW [2] [] 0 0) (k0 <|
          k1 <|
          k2 <|
          k3 <|
          k4 <|
          k5 <|
          k6 <|
          zz 62 (xdT hc8) <|
          ee) (by kernel_rfl)
        ·rw[if_neg hc8] at h
         have k7:=fun {A L l} (k:PL A L l)=>zz 62 (xdF hc8) <|
          k
         by_cases hc9:a1=4
         ·rw[if_pos hc9] at h
          have k8:=fun {A L l} (k:PL A L l)=>zz 80 (xnF hc9) <|
           k
          by_cases hc10:a2=a4
          ·rw[if_pos hc10] at h
           obtain⟨c11_,hc11,h⟩:=oB h
           have k9:=fun {A L l} (k:PL A L l)=>zz 86 (xeT hc10) <|
            yy 91 (.call (q6_ a1 c11_ [] [])) <|
            ww (qu_ n a1 c11_ hc11) <|
            k
           by_cases hc12:c11_=true
           ·rw[if_pos hc12] at h
            have k12:=fun {A L l} (k:PL A L l)=>yy 92 (vf) <|
             ww (p:=(Value.bool (!c11_))=(Value.bool false)) (vBn hc12) <|
             k
            by_cases hc13:(((a6).l.length:Nat):Int)=0
            ·rw[if_pos hc13] at h
             obtain rfl:=oI h
             exact runF2 hm (kW [2] [] 0 0) (k0 <|
              k1 <|
              k2 <|
              k3 <|
              k4 <|
              k5 <|
              k6 <|
              k7 <|
              k8 <|
              k9 <|
              k12 <|
              zz 97 (xeT hc13) <|
              ee) (by kernel_rfl)
            ·rw[if_neg hc13] at h
             obtain rfl:=oI h
             exact runF2 hm (kW [2] [] 0 0) (k0 <|
              k1 <|
              k2 <|
              k3 <|
              k4 <|
              k5 <|
              k6 <|
              k7 <|
              k8 <|
              k9 <|
              k12 <|
              zz 97 (xeF hc13) <|
              ee) (by kernel_rfl)
           ·rw[if_neg hc12] at h
            obtain rfl:=oI h
            exact runF2 hm (kW [2] [] 0 0) (k0 <|
             k1 <|
             k2 <|
             k3 <|
             k4 <|
             k5 <|
             k6 <|
             k7 <|
             k8 <|
             k9 <|
             yy 92 (vt) <|
             ww (p:=(Value.bool (!c11_))=(Value.bool true)) (vBn (Bool.eq_false_iff.2 hc12)) <|
             ee) (by kernel_rfl)
          ·rw[if_neg hc10] at h
           obtain rfl:=oI h
           exact runF2 hm (kW [2] [] 0 0) (k0 <|
            k1 <|
            k2 <|
            k3 <|
            k4 <|
            k5 <|
            k6 <|
            k7 <|
            k8 <|
            zz 86 (xeF hc10) <|
            ee) (by kernel_rfl)
         ·rw[if_neg hc9] at h
          obtain⟨c10_,hc10,h⟩:=oB h
          have k8:=fun {A L l} (k:PL A L l)=>zz 80 (xnT hc9) <|
           yy 91 (.call (q6_ a1 c10_ [] [])) <|
           ww (qu_ n a1 c10_ hc10) <|
           k
          by_cases hc11:c10_=true
          ·rw[if_pos hc11] at h
           have k11:=fun {A L l} (k:PL A L l)=>yy 92 (vf) <|
            ww (p:=(Value.bool (!c10_))=(Value.bool false)) (vBn hc11) <|
            k
           by_cases hc12:(((a6).l.length:Nat):Int)=0
           ·rw[if_pos hc12] at h
            obtain rfl:=oI h
            exact runF2 hm (kW [2] [] 0 0) (k0 <|
             k1 <|
             k2 <|
             k3 <|
             k4 <|
             k5 <|
             k6 <|
             k7 <|
             k8 <|
             k11 <|
             zz 97 (xeT hc12) <|
             ee) (by kernel_rfl)
           ·rw[if_neg hc12] at h
            obtain rfl:=oI h
            exact runF2 hm (kW [2] [] 0 0) (k0 <|
             k1 <|
             k2 <|
             k3 <|
             k4 <|
             k5 <|
             k6 <|
             k7 <|
             k8 <|
             k11 <|
             zz 97 (xeF hc12) <|
             ee) (by kernel_rfl)
          ·rw[if_neg hc11] at h
           obtain rfl:=oI h
           exact runF2 hm (kW [2] [] 0 0) (k0 <|
            k1 <|
            k2 <|
            k3 <|
            k4 <|
            k5 <|
            k6 <|
            k7 <|
            k8 <|
            yy 92 (vt) <|
            ww (p:=(Value.bool (!c10_))=(Value.bool true)) (vBn (Bool.eq_false_iff.2 hc11)) <|
            ee) (by kernel_rfl)
      ·rw[if_neg hc6] at h
       have k5:=fun {A L l} (k:PL A L l)=>zz 36 (xeF hc6) <|
        k
       by_cases hc7:a1=5
       ·rw[if_pos hc7] at h
        have k6:=fun {A L l} (k:PL A L l)=>zz 40 (xeT hc7) <|
         k
        by_cases hc8:a3<a2
        ·rw[if_pos hc8] at h
         obtain rfl:=oI h
         exact runF2 hm (kW [2] [] 0 0) (k0 <|
          k1 <|
          k2 <|
          k3 <|
          k4 <|
          k5 <|
          k6 <|
          zz 56 (xdT hc8) <|
          ee) (by kernel_rfl)
        ·rw[if_neg hc8] at h
         have k7:=fun {A L l} (k:PL A L l)=>zz 56 (xdF hc8) <|
          k
         by_cases hc9:a3 > a4
         ·rw[if_pos hc9] at h
          obtain rfl:=oI h
          exact runF2 hm (kW [2] [] 0 0) (k0 <|
           k1 <|
           k2 <|
           k3 <|
           k4 <|
           k5 <|
           k6 <|
           k7 <|
           zz 62 (xdT hc9) <|
           ee) (by kernel_rfl)
         ·rw[if_neg hc9] at h
          have k8:=fun {A L l} (k:PL A L l)=>zz 62 (xdF hc9) <|
           k
          by_cases hc10:a1=4
          ·rw[if_pos hc10] at h
           have k9:=fun {A L l} (k:PL A L l)=>zz 80 (xnF hc10) <|
            k
           by_cases hc11:a2=a4
           ·rw[if_pos hc11] at h
            obtain⟨c12_,hc12,h⟩:=oB h
            have k10:=fun {A L l} (k:PL A L l)=>zz 86 (xeT hc11) <|
             yy 91 (.call (q6_ a1 c12_ [] [])) <|
             ww (qu_ n a1 c12_ hc12) <|
             k
            by_cases hc13:c12_=true
            ·rw[if_pos hc13] at h
             have k13:=fun {A L l} (k:PL A L l)=>yy 92 (vf) <|
              ww (p:=(Value.bool (!c12_))=(Value.bool false)) (vBn hc13) <|
              k
             by_cases hc14:(((a6).l.length:Nat):Int)=0
             ·rw[if_pos hc14] at h
              obtain rfl:=oI h
              exact runF2 hm (kW [2] [] 0 0) (k0 <|
               k1 <|
               k2 <|
               k3 <|
               k4 <|
               k5 <|
               k6 <|
               k7 <|
               k8 <|
               k9 <|
               k10 <|
               k13 <|
               zz 97 (xeT hc14) <|
               ee) (by kernel_rfl)
             ·rw[if_neg hc14] at h
              obtain rfl:=oI h
              exact runF2 hm (kW [2] [] 0 0) (k0 <|
               k1 <|
               k2 <|
               k3 <|
               k4 <|
               k5 <|
               k6 <|
               k7 <|
               k8 <|
               k9 <|
               k10 <|
               k13 <|
               zz 97 (xeF hc14) <|
               ee) (by kernel_rfl)
            ·rw[if_neg hc13] at h
             obtain rfl:=oI h
             exact runF2 hm (kW [2] [] 0 0) (k0 <|
              k1 <|
              k2 <|
              k3 <|
              k4 <|
              k5 <|
              k6 <|
              k7 <|
              k8 <|
              k9 <|
              k10 <|
              yy 92 (vt) <|
              ww (p:=(Value.bool (!c12_))=(Value.bool true)) (vBn (Bool.eq_false_iff.2 hc13)) <|
              ee) (by kernel_rfl)
           ·rw[if_neg hc11] at h
            obtain rfl:=oI h
            exact runF2 hm (kW [2] [] 0 0) (k0 <|
             k1 <|
             k2 <|
             k3 <|
             k4 <|
             k5 <|
             k6 <|
             k7 <|
             k8 <|
             k9 <|
             zz 86 (xeF hc11) <|
             ee) (by kernel_rfl)
          ·rw[if_neg hc10] at h
           obtain⟨c11_,hc11,h⟩:=oB h
           have k9:=fun {A L l} (k:PL A L l)=>zz 80 (xnT hc10) <|
            yy 91 (.call (q6_ a1 c11_ [] [])) <|
            ww (qu_ n a1 c11_ hc11) <|
            k
           by_cases hc12:c11_=true
           ·rw[if_pos hc12] at h
            have k12:=fun {A L l} (k:PL A L l)=>yy 92 (vf) <|
             ww (p:=(Value.bool (!c11_))=(Value.bool false)) (vBn hc12) <|
             k
            by_cases hc13:(((a6).l.length:Nat):Int)=0
            ·rw[if_pos hc13] at h
             obtain rfl:=oI h
             exact runF2 hm (kW [2] [] 0 0) (k0 <|
              k1 <|
              k2 <|
              k3 <|
              k4 <|
              k5 <|
              k6 <|
              k7 <|
              k8 <|
              k9 <|
              k12 <|
              zz 97 (xeT hc13) <|
              ee) (by kernel_rfl)
            ·rw[if_neg hc13] at h
             obtain rfl:=oI h
             exact runF2 hm (kW [2] [] 0 0) (k0 <|
              k1 <|
              k2 <|
              k3 <|
              k4 <|
              k5 <|
              k6 <|
              k7 <|
              k8 <|
              k9 <|
              k12 <|
              zz 97 (xeF hc13) <|
              ee) (by kernel_rfl)
           ·rw[if_neg hc12] at h
            obtain rfl:=oI h
            exact runF2 hm (kW [2] [] 0 0) (k0 <|
             k1 <|
             k2 <|
             k3 <|
             k4 <|
             k5 <|
             k6 <|
             k7 <|
             k8 <|
             k9 <|
             yy 92 (vt) <|
             ww (p:=(Value.bool (!c11_))=(Value.bool true)) (vBn (Bool.eq_false_iff.2 hc12)) <|
             ee) (by kernel_rfl)
       ·rw[if_neg hc7] at h
        have k6:=fun {A L l} (k:PL A L l)=>zz 40 (xeF hc7) <|
         k
        by_cases hc8:a1=6
        ·rw[if_pos hc8] at h
         have k7:=fun {A L l} (k:PL A L l)=>zz 45 (xeT hc8) <|
          k
         by_cases hc9:a3<a2
         ·rw[if_pos hc9] at h
          obtain rfl:=oI h
          exact runF2 hm (kW [2] [] 0 0) (k0 <|
           k1 <|
           k2 <|
           k3 <|
           k4 <|
           k5 <|
           k6 <|
           k7 <|
           zz 56 (xdT hc9) <|
           ee) (by kernel_rfl)
         ·rw[if_neg hc9] at h
          have k8:=fun {A L l} (k:PL A L l)=>zz 56 (xdF hc9) <|
           k
          by_cases hc10:a3 > a4
          ·rw[if_pos hc10] at h
           obtain rfl:=oI h
           exact runF2 hm (kW [2] [] 0 0) (k0 <|
            k1 <|
            k2 <|
            k3 <|
            k4 <|
            k5 <|
            k6 <|
            k7 <|
            k8 <|
            zz 62 (xdT hc10) <|
            ee) (by kernel_rfl)
          ·rw[if_neg hc10] at h
           have k9:=fun {A L l} (k:PL A L l)=>zz 62 (xdF hc10) <|
            k
           by_cases hc11:a1=4
           ·rw[if_pos hc11] at h
            have k10:=fun {A L l} (k:PL A L l)=>zz 80 (xnF hc11) <|
             k
            by_cases hc12:a2=a4
            ·rw[if_pos hc12] at h
             obtain⟨c13_,hc13,h⟩:=oB h
             have k11:=fun {A L l} (k:PL A L l)=>zz 86 (xeT hc12) <|
              yy 91 (.call (q6_ a1 c13_ [] [])) <|
              ww (qu_ n a1 c13_ hc13) <|
              k
             by_cases hc14:c13_=true
             ·rw[if_pos hc14] at h
              have k14:=fun {A L l} (k:PL A L l)=>yy 92 (vf) <|
               ww (p:=(Value.bool (!c13_))=(Value.bool false)) (vBn hc14) <|
               k
              by_cases hc15:(((a6).l.length:Nat):Int)=0
              ·rw[if_pos hc15] at h
               obtain rfl:=oI h
               exact runF2 hm (kW [2] [] 0 0) (k0 <|
                k1 <|
                k2 <|
                k3 <|
                k4 <|
                k5 <|
                k6 <|
                k7 <|
                k8 <|
                k9 <|
                k10 <|
                k11 <|
                k14 <|
                zz 97 (xeT hc15) <|
                ee) (by kernel_rfl)
              ·rw[if_neg hc15] at h
               obtain rfl:=oI h
               exact runF2 hm (kW [2] [] 0 0) (k0 <|
                k1 <|
                k2 <|
                k3 <|
                k4 <|
                k5 <|
                k6 <|
                k7 <|
                k8 <|
                k9 <|
                k10 <|
                k11 <|
                k14 <|
                zz 97 (xeF hc15) <|
                ee) (by kernel_rfl)
             ·rw[if_neg hc14] at h
              obtain rfl:=oI h
              exact runF2 hm (kW [2] [] 0 0) (k0 <|
               k1 <|
               k2 <|
               k3 <|
               k4 <|
               k5 <|
               k6 <|
               k7 <|
               k8 <|
               k9 <|
               k10 <|
               k11 <|
               yy 92 (vt) <|
               ww (p:=(Value.bool (!c13_))=(Value.bool true)) (vBn (Bool.eq_false_iff.2 hc14)) <|
               ee) (by kernel_rfl)
            ·rw[if_neg hc12] at h
             obtain rfl:=oI h
             exact runF2 hm (kW [2] [] 0 0) (k0 <|
              k1 <|
              k2 <|
              k3 <|
              k4 <|
              k5 <|
              k6 <|
              k7 <|
              k8 <|
              k9 <|
              k10 <|
              zz 86 (xeF hc12) <|
              ee) (by kernel_rfl)
           ·rw[if_neg hc11] at h
            obtain⟨c12_,hc12,h⟩:=oB h
            have k10:=fun {A L l} (k:PL A L l)=>zz 80 (xnT hc11) <|
             yy 91 (.call (q6_ a1 c12_ [] [])) <|
             ww (qu_ n a1 c12_ hc12) <|
             k
            by_cases hc13:c12_=true
            ·rw[if_pos hc13] at h
             have k13:=fun {A L l} (k:PL A L l)=>yy 92 (vf) <|
              ww (p:=(Value.bool (!c12_))=(Value.bool false)) (vBn hc13) <|
              k
             by_cases hc14:(((a6).l.length:Nat):Int)=0
             ·rw[if_pos hc14] at h
              obtain rfl:=oI h
              exact runF2 hm (kW [2] [] 0 0) (k0 <|
               k1 <|
               k2 <|
               k3 <|
               k4 <|
               k5 <|
               k6 <|
               k7 <|
               k8 <|
               k9 <|
               k10 <|
               k13 <|
               zz 97 (xeT hc14) <|
               ee) (by kernel_rfl)
             ·rw[if_neg hc14] at h
              obtain rfl:=oI h
              exact runF2 hm (kW [2] [] 0 0) (k0 <|
               k1 <|
               k2 <|
               k3 <|
               k4 <|
               k5 <|
               k6 <|
               k7 <|
               k8 <|
               k9 <|
               k10 <|
               k13 <|
               zz 97 (xeF hc14) <|
               ee) (by kernel_rfl)
            ·rw[if_neg hc13] at h
             obtain rfl:=oI h
             exact runF2 hm (kW [2] [] 0 0) (k0 <|
              k1 <|
              k2 <|
              k3 <|
              k4 <|
              k5 <|
              k6 <|
              k7 <|
              k8 <|
              k9 <|
              k10 <|
              yy 92 (vt) <|
              ww (p:=(Value.bool (!c12_))=(Value.bool true)) (vBn (Bool.eq_false_iff.2 hc13)) <|
              ee) (by kernel_rfl)
        ·rw[if_neg hc8] at h
         have k7:=fun {A L l} (k:PL A L l)=>zz 45 (xeF hc8) <|
          k
         by_cases hc9:a3=a2
         ·rw[if_pos hc9] at h
          have k8:=fun {A L l} (k:PL A L l)=>zz 73 (xnF hc9) <|
           k
          by_cases hc10:a1=4
          ·rw[if_pos hc10] at h
           have k9:=fun {A L l} (k:PL A L l)=>zz 80 (xnF hc10) <|
            k
           by_cases hc11:a2=a4
           ·rw[if_pos hc11] at h
            obtain⟨c12_,hc12,h⟩:=oB h
            have k10:=fun {A L l} (k:PL A L l)=>zz 86 (xeT hc11) <|
             yy 91 (.call (q6_ a1 c12_ [] [])) <|
             ww (qu_ n a1 c12_ hc12) <|
             k
            by_cases hc13:c12_=true
            ·rw[if_pos hc13] at h
             have k13:=fun {A L l} (k:PL A L l)=>yy 92 (vf) <|
              ww (p:=(Value.bool (!c12_))=(Value.bool false)) (vBn hc13) <|
              k
             by_cases hc14:(((a6).l.length:Nat):Int)=0
             ·rw[if_pos hc14] at h
              obtain rfl:=oI h
              exact runF2 hm (kW [2] [] 0 0) (k0 <|
               k1 <|
               k2 <|
               k3 <|
               k4 <|
               k5 <|
               k6 <|
               k7 <|
               k8 <|
               k9 <|
               k10 <|
               k13 <|
               zz 97 (xeT hc14) <|
               ee) (by kernel_rfl)
             ·rw[if_neg hc14] at h
              obtain rfl:=oI h
              exact runF2 hm (kW [2] [] 0 0) (k0 <|
               k1 <|
               k2 <|
               k3 <|
               k4 <|
               k5 <|
               k6 <|
               k7 <|
               k8 <|
               k9 <|
               k10 <|
               k13 <|
               zz 97 (xeF hc14) <|
               ee) (by kernel_rfl)
            ·rw[if_neg hc13] at h
             obtain rfl:=oI h
             exact runF2 hm (kW [2] [] 0 0) (k0 <|
              k1 <|
              k2 <|
              k3 <|
              k4 <|
              k5 <|
              k6 <|
              k7 <|
              k8 <|
              k9 <|
              k10 <|
              yy 92 (vt) <|
              ww (p:=(Value.bool (!c12_))=(Value.bool true)) (vBn (Bool.eq_false_iff.2 hc13)) <|
              ee) (by kernel_rfl)
           ·rw[if_neg hc11] at h
            obtain rfl:=oI h
            exact runF2 hm (kW [2] [] 0 0) (k0 <|
             k1 <|
             k2 <|
             k3 <|
             k4 <|
             k5 <|
             k6 <|
             k7 <|
             k8 <|
             k9 <|
             zz 86 (xeF hc11) <|
             ee) (by kernel_rfl)
          ·rw[if_neg hc10] at h
           obtain⟨c11_,hc11,h⟩:=oB h
           have k9:=fun {A L l} (k:PL A L l)=>zz 80 (xnT hc10) <|
            yy 91 (.call (q6_ a1 c11_ [] [])) <|
            ww (qu_ n a1 c11_ hc11) <|
            k
           by_cases hc12:c11_=true
           ·rw[if_pos hc12] at h
            have k12:=fun {A L l} (k:PL A L l)=>yy 92 (vf) <|
             ww (p:=(Value.bool (!c11_))=(Value.bool false)) (vBn hc12) <|
             k
            by_cases hc13:(((a6).l.length:Nat):Int)=0
            ·rw[if_pos hc13] at h
             obtain rfl:=oI h
             exact runF2 hm (kW [2] [] 0 0) (k0 <|
              k1 <|
              k2 <|
              k3 <|
              k4 <|
              k5 <|
              k6 <|
              k7 <|
              k8 <|
              k9 <|
              k12 <|
              zz 97 (xeT hc13) <|
              ee) (by kernel_rfl)
            ·rw[if_neg hc13] at h
             obtain rfl:=oI h
             exact runF2 hm (kW [2] [] 0 0) (k0 <|
              k1 <|
              k2 <|
              k3 <|
              k4 <|
              k5 <|
              k6 <|
              k7 <|
              k8 <|
              k9 <|
              k12 <|
              zz 97 (xeF hc13) <|
              ee) (by kernel_rfl)
           ·rw[if_neg hc12] at h
            obtain rfl:=oI h
            exact runF2 hm (kW [2] [] 0 0) (k0 <|
             k1 <|
             k2 <|
             k3 <|
             k4 <|
             k5 <|
             k6 <|
             k7 <|
             k8 <|
             k9 <|
             yy 92 (vt) <|
             ww (p:=(Value.bool (!c11_))=(Value.bool true)) (vBn (Bool.eq_false_iff.2 hc12)) <|
             ee) (by kernel_rfl)
         ·rw[if_neg hc9] at h
          obtain rfl:=oI h
          exact runF2 hm (kW [2] [] 0 0) (k0 <|
           k1 <|
           k2 <|
           k3 <|
           k4 <|
           k5 <|
           k6 <|
           k7 <|
           zz 73 (xnT hc9) <|
           ee) (by kernel_rfl)

def qe1_ (a0:W8)(a1:Int):List Value:=[(wlV a0),(i6 a1)]
def qe2_ (a0:W8)(a1:Int):AH:=⟨sB [],0,0⟩
def qdu_ (a0:W8)(a1 r:Int):Value:=match r with
 | o0=>(i6 o0)
def qdv_ (a0:W8)(a1 r:Int):AH:=match r with
 | o0=>⟨sB [],0,0⟩
abbrev qva_ (a0:W8)(a1 r:Int):Prop:=Gv P (.func 20) (qe1_ a0 a1) (qe2_ a0 a1) (qdu_ a0 a1 r) (qdv_ a0 a1 r)
abbrev qnq_ (a0:W8)(a1 r:Int)(ins outs:BL):CallA:=⟨0,ins,qdu_ a0 a1 r,qdv_ a0 a1 r,outs⟩
def qfh_ (x0:W8)(x1:Int)(st:Int×Int×Int):XSt:=match st with
 | (x2,x3,x4)=>(sT 68 [(0,(wlV x0)),(1,(i6 x1)),(5,(i6 x2)),(6,(i6 x3)),(7,(i6 x4))],[],⟨sB [],0,0⟩)
def qb8_ (x0:W8)(x1:Int)(r:(Unit) ⊕ (Int×Int)):Ex×XSt:=match r with
 | .inl _=>(.ret,(sT 68 [(4,(i6 (-1:Int)))],[],⟨sB [],0,0⟩))
 | .inr (z0,z1)=>(.exit 0,(sT 68 [(0,(wlV x0)),(1,(i6 x1)),(5,(i6 z0)),(6,(i6 z1))],[],⟨sB [],0,0⟩))
abbrev qst_ (rnd:Option Nat)(x0:W8)(x1:Int)(st:Int×Int×Int)(c:Ex×XSt):Prop:=CG P rnd (fnN P 20) 0 (qx_ P 20 [false,false,true,false,true,true]) (qfh_ x0 x1 st) c
abbrev qg4_ (rd:Option Nat)(x0:W8)(x1:Int)(st:Int×Int×Int)(r:(Unit) ⊕ (Int×Int)):Prop:=CG P rd (fnN P 20) 0 (qx_ P 20 [false,true,false,true,true]) (qfh_ x0 x1 st) (qb8_ x0 x1 r)
def qo_ (rec_viewportref16endq1:(W8)→(Int)→Option (Int))(n:Nat)(x0:W8)(x1:Int)(st:Int×Int×Int):Option ((Int×Int×Int) ⊕ ((Unit) ⊕ (Int×Int))):=match st with
 | (x2,x3,x4)=>
  if 0≤x1∧x1<(((x0).l.length:Nat):Int) then
   ((some (((x0).l).getD (x1).toNat (0,0,0,0,0,0,nl0,0)))).bind fun y2_=>
   if x4<((((y2_.2.2.2.2.2.2.1)).l.length:Nat):Int) then
    if 0≤x4∧x4<((((y2_.2.2.2.2.2.2.1)).l.length:Nat):Int) then
     if (x4).toNat<(((y2_.2.2.2.2.2.2.1)).l).length then
      ((some ((((y2_.2.2.2.2.2.2.1)).l).getD (x4).toNat 0))).bind fun y6_=>
      if y6_=x2 then
       if x2 ≥ (((x0).l.length:Nat):Int) then
        some (.inr (.inl ()))
       else
        if 0≤x2∧x2<(((x0).l.length:Nat):Int) then
         ((some (((x0).l).getD (x2).toNat (0,0,0,0,0,0,nl0,0)))).bind fun y10_=>
         if (y10_.2.2.1)<x3 then
          some (.inr (.inl ()))
         else
          (rec_viewportref16endq1 x0 x2).bind fun y12_=>
          if y12_<0 then
           some (.inr (.inl ()))
          else
           some (.inl (y12_,(y10_.2.2.2.2.1),(w64 (x4+1))))
        else none
      else
       some (.inr (.inl ()))
     else none
    else none
   else
    some (.inr (.inr (x2,x3)))
  else none
def qcs_ (rec_viewportref16endq1:(W8)→(Int)→Option (Int))(n:Nat)(x0:W8)(x1:Int)(st:Int×Int×Int):Option ((Unit) ⊕ (Int×Int)):=iterM (qo_ rec_viewportref16endq1 n x0 x1) n st
theorem qlj_ (rec_viewportref16endq1:(W8)→(Int)→Option (Int))(hrec_viewportref16endq1:∀ (a0:W8) (a1:Int) (r:Int),rec_viewportref16endq1 a0 a1=some r→Gv P (.func 20) (qe1_ a0 a1) (qe2_ a0 a1) (qdu_ a0 a1 r) (qdv_ a0 a1 r))(n:Nat){rnd:Option Nat}(x0:W8)(x1:Int)(st:Int×Int×Int)(o:(Int×Int×Int) ⊕ ((Unit) ⊕ (Int×Int)))(h:qo_ rec_viewportref16endq1 n x0 x1 st=some o):qst_ rnd x0 x1 st (Sum.elim (fun s=>(.normal,qfh_ x0 x1 s)) (fun r=>qb8_ x0 x1 r) o):=by
 obtain⟨x2,x3,x4⟩:=st
 unfold qo_ at h
 dsimp only at h
 obtain⟨hy1,h⟩:=gd h
 obtain⟨y2_,hy2,h⟩:=oB h
 have k0:=fun {A L l} (k:PL A L l)=>zz 5 (xk1 (x0).num (x0).off (x0).cap hy1) <|
  zz 6 (fk10 (x0).num (Nat.add (x0).off ((x1).toNat*8))) <|
  zz 7 (lk11 hy2 (qw_ hy1)) <|
  k
 by_cases hy3:x4<((((y2_.2.2.2.2.2.2.1)).l.length:Nat):Int)
 ·rw[if_pos hy3] at h
  obtain⟨hy4,h⟩:=gd h
  obtain⟨hy5,h⟩:=gd h
  obtain⟨y6_,hy6,h⟩:=oB h
  have k3:=fun {A L l} (k:PL A L l)=>zz 9 (xdT hy3) <|
   zz 17 (xk1 (x0).num (x0).off (x0).cap hy1) <|
   zz 18 (fk10 (x0).num (Nat.add (x0).off ((x1).toNat*8))) <|
   zz 19 (lk11 hy2 (qw_ hy1)) <|
   zz 21 (xk12 (Nat.add ((y2_.2.2.2.2.2.2.1)).num 64) ((y2_.2.2.2.2.2.2.1)).off ((y2_.2.2.2.2.2.2.1)).cap hy4) <|
   zz 22 (nk13 hy6 hy5) <|
   k
  by_cases hy7:y6_=x2
  ·rw[if_pos hy7] at h
   have k9:=fun {A L l} (k:PL A L l)=>zz 24 (xnF hy7) <|
    k
   by_cases hy8:x2 ≥ (((x0).l.length:Nat):Int)
   ·rw[if_pos hy8] at h
    obtain rfl:=oI h
    exact runC2 hm (kW [4] [] 0 0) (k0 <|
     k3 <|
     k9 <|
     zz 29 (xdT hy8) <|
     ee) (by kernel_rfl)
   ·rw[if_neg hy8] at h
    obtain⟨hy9,h⟩:=gd h
    obtain⟨y10_,hy10,h⟩:=oB h
    have k10:=fun {A L l} (k:PL A L l)=>zz 29 (xdF hy8) <|
     zz 34 (xk1 (x0).num (x0).off (x0).cap hy9) <|
     zz 35 (fk8 (x0).num (Nat.add (x0).off ((x2).toNat*8))) <|
     zz 36 (lk9 hy10 (qw_ hy9)) <|
     k
    by_cases hy11:(y10_.2.2.1)<x3
    ·rw[if_pos hy11] at h
     obtain rfl:=oI h
     exact runC2 hm (kW [4] [] 0 0) (k0 <|
      k3 <|
      k9 <|
      k10 <|
      zz 38 (xdT hy11) <|
      ee) (by kernel_rfl)
    ·rw[if_neg hy11] at h
     obtain⟨y12_,hy12,h⟩:=oB h
     have k14:=fun {A L l} (k:PL A L l)=>zz 38 (xdF hy11) <|
      zz 44 (xk1 (x0).num (x0).off (x0).cap hy9) <|
      zz 45 (fk14 (x0).num (Nat.add (x0).off ((x2).toNat*8))) <|
      zz 46 (lk15 hy10 (qw_ hy9)) <|
      yy 51 (.call (qnq_ x0 x2 y12_ [] [])) <|
      ww (hrec_viewportref16endq1 x0 x2 y12_ hy12) <|
      k
     by_cases hy13:y12_<0
     ·rw[if_pos hy13] at h
      obtain rfl:=oI h
      exact runC2 hm (kW [4] [] 0 0) (k0 <|
       k3 <|
       k9 <|
       k10 <|
       k14 <|
       zz 55 (xdT hy13) <|
       ee) (by kernel_rfl)
     ·rw[if_neg hy13] at h
      obtain rfl:=oI h
      exact runC2 hm (kW [0,1,5,6,7] [] 0 0) (k0 <|
       k3 <|
       k9 <|
       k10 <|
       k14 <|
       zz 55 (xdF hy13) <|
       ee) (by kernel_rfl)
  ·rw[if_neg hy7] at h
   obtain rfl:=oI h
   exact runC2 hm (kW [4] [] 0 0) (k0 <|
    k3 <|
    zz 24 (xnT hy7) <|
    ee) (by kernel_rfl)
 ·rw[if_neg hy3] at h
  obtain rfl:=oI h
  exact runC2 hm (kW [0,1,5,6] [] 0 0) (k0 <|
   zz 9 (xdF hy3) <|
   ee) (by kernel_rfl)
theorem qi2_ (rec_viewportref16endq1:(W8)→(Int)→Option (Int))(hrec_viewportref16endq1:∀ (a0:W8) (a1:Int) (r:Int),rec_viewportref16endq1 a0 a1=some r→Gv P (.func 20) (qe1_ a0 a1) (qe2_ a0 a1) (qdu_ a0 a1 r) (qdv_ a0 a1 r))(n:Nat){rnd:Option Nat}(x0:W8)(x1:Int)(st:Int×Int×Int)(r:(Unit) ⊕ (Int×Int))(h:qcs_ rec_viewportref16endq1 n x0 x1 st=some r):qg4_ rnd x0 x1 st r:=
 CG.iter (b:=qx_ P 20 [false,false,true,false,true,true]) (by kernel_rfl) (body:=qo_ rec_viewportref16endq1 n x0 x1) (S:=qfh_ x0 x1) (X:=qb8_ x0 x1)
  (fun s s' h=>qlj_ rec_viewportref16endq1 hrec_viewportref16endq1 n x0 x1 s (.inl s') h)
  (fun s r h=>qlj_ rec_viewportref16endq1 hrec_viewportref16endq1 n x0 x1 s (.inr r) h)
  (fun r=>by intro hx; rcases r with _ | _<;>cases hx) h
def qbr_ (rec_viewportref16endq1:(W8)→(Int)→Option (Int))(n:Nat)(a0:W8)(a1:Int):Option (Int):=
 if 0≤a1∧a1<(((a0).l.length:Nat):Int) then
  ((some (((a0).l).getD (a1).toNat (0,0,0,0,0,0,nl0,0)))).bind fun c2_=>
  match qcs_ rec_viewportref16endq1 n a0 a1 ((w64 (a1+1)),(c2_.2.2.1),0) with
  | none=>none
  | some (.inl _)=>
   some (-1)
  | some (.inr (c3_0,c3_1))=>
   if c3_1 > (c2_.2.2.2.2.1) then
    some (-1)
   else
    some c3_0
 else none
theorem qry_ (rec_viewportref16endq1:(W8)→(Int)→Option (Int))(hrec_viewportref16endq1:∀ (a0:W8) (a1:Int) (r:Int),rec_viewportref16endq1 a0 a1=some r→Gv P (.func 20) (qe1_ a0 a1) (qe2_ a0 a1) (qdu_ a0 a1 r) (qdv_ a0 a1 r))(n:Nat)(a0:W8)(a1 r:Int)(h:qbr_ rec_viewportref16endq1 n a0 a1=some r):qva_ a0 a1 r:=by
 unfold qbr_ at h
 obtain⟨hc1,h⟩:=gd h
 obtain⟨c2_,hc2,h⟩:=oB h
 have k0:=fun {A L l} (k:PL A L l)=>zz 7 (xk1 (a0).num (a0).off (a0).cap hc1) <|
  zz 8 (fk8 (a0).num (Nat.add (a0).off ((a1).toNat*8))) <|
  zz 9 (lk9 hc2 (qw_ hc1)) <|
  k
 rcases hc3:qcs_ rec_viewportref16endq1 n a0 a1 ((w64 (a1+1)),(c2_.2.2.1),0) with _ | (⟨⟩ | ⟨c3_0,c3_1⟩)
 ·rw[hc3] at h; cases h
 ·rw[hc3] at h
  dsimp only at h
  obtain rfl:=oI h
  exact runF2 hm (kW [4] [] 0 0) (k0 <|
   ww (p:=qg4_ none a0 a1 ((w64 (a1+1)),(c2_.2.2.1),0) (.inl ())) (qi2_ rec_viewportref16endq1 hrec_viewportref16endq1 n a0 a1 ((w64 (a1+1)),(c2_.2.2.1),0) (.inl ()) hc3) <|
   ll 16 ⟨(kW [0,1,5,6,7] [] 0 0),(qb8_ a0 a1 (.inl ())).1,(qb8_ a0 a1 (.inl ())).2⟩ <|
   ee) (by kernel_rfl)
 ·rw[hc3] at h
  dsimp only at h
  have k3:=fun {A L l} (k:PL A L l)=>ww (p:=qg4_ none a0 a1 ((w64 (a1+1)),(c2_.2.2.1),0) (.inr (c3_0,c3_1))) (qi2_ rec_viewportref16endq1 hrec_viewportref16endq1 n a0 a1 ((w64 (a1+1)),(c2_.2.2.1),0) (.inr (c3_0,c3_1)) hc3) <|
   ll 16 ⟨(kW [0,1,5,6,7] [] 0 0),(qb8_ a0 a1 (.inr (c3_0,c3_1))).1,(qb8_ a0 a1 (.inr (c3_0,c3_1))).2⟩ <|
   zz 22 (xk1 (a0).num (a0).off (a0).cap hc1) <|
   zz 23 (fk14 (a0).num (Nat.add (a0).off ((a1).toNat*8))) <|
   zz 24 (lk15 hc2 (qw_ hc1)) <|
   k
  by_cases hc4:c3_1 > (c2_.2.2.2.2.1)
  ·rw[if_pos hc4] at h
   obtain rfl:=oI h
   exact runF2 hm (kW [4] [] 0 0) (k0 <|
    k3 <|
    zz 25 (xdT hc4) <|
    ee) (by kernel_rfl)
  ·rw[if_neg hc4] at h
   obtain rfl:=oI h
   exact runF2 hm (kW [4] [] 0 0) (k0 <|
    k3 <|
    zz 25 (xdF hc4) <|
    ee) (by kernel_rfl)
def qg_:Nat→(W8)→(Int)→Option (Int)
 | 0=>fun _ _=>none
 | n+1=>fun a0 a1=>qbr_ (qg_ n) n a0 a1
theorem qkj_:∀ (n:Nat) (a0:W8) (a1:Int) (r:Int) (h:qg_ n a0 a1=some r),Gv P (.func 20) (qe1_ a0 a1) (qe2_ a0 a1) (qdu_ a0 a1 r) (qdv_ a0 a1 r)
 | 0,_,_,_,h=>nomatch h
 | n+1,a0,a1,r,h=>qry_ (qg_ n) (qkj_ n) n a0 a1 r h

def qlk_ (a0:W8)(r:Int):Value:=match r with
 | o0=>(i6 o0)
def qll_ (a0:W8)(r:Int):AH:=match r with
 | o0=>⟨sB [],0,0⟩
abbrev qsu_ (a0:W8)(r:Int):Prop:=Gv P (.func 6) [(wlV a0)] ⟨sB [],0,0⟩ (qlk_ a0 r) (qll_ a0 r)
abbrev qbf_ (a0:W8)(r:Int)(ins outs:BL):CallA:=⟨0,ins,qlk_ a0 r,qll_ a0 r,outs⟩
def qem_ (x0:W8)(st:Int):XSt:=match st with
 | x1=>(sT 41 [(0,(wlV x0)),(3,(i6 x1))],[],⟨sB [],0,0⟩)
def qbs_ (x0:W8)(r:(Unit) ⊕ (Unit)):Ex×XSt:=match r with
 | .inl _=>(.ret,(sT 41 [(2,(i6 (2:Int)))],[],⟨sB [],0,0⟩))
 | .inr _=>(.exit 0,(sT 41 [(0,(wlV x0))],[],⟨sB [],0,0⟩))
abbrev qqn_ (rd:Option Nat)(x0:W8)(st:Int)(r:(Unit) ⊕ (Unit)):Prop:=CG P rd (fnN P 6) 0 (qx_ P 6 [false,true,false,true,true]) (qem_ x0 st) (qbs_ x0 r)
def qbg_ (n:Nat)(x0:W8)(st:Int):Option ((Int) ⊕ ((Unit) ⊕ (Unit))):=match st with
 | x1=>
  if x1<(((x0).l.length:Nat):Int) then
   if 0≤x1∧x1<(((x0).l.length:Nat):Int) then
    ((some (((x0).l).getD (x1).toNat (0,0,0,0,0,0,nl0,0)))).bind fun y3_=>
    (qci_ n (y3_.1) (y3_.2.1) (y3_.2.2.1) (y3_.2.2.2.1) (y3_.2.2.2.2.1) (y3_.2.2.2.2.2.1) (y3_.2.2.2.2.2.2.1) (y3_.2.2.2.2.2.2.2)).bind fun y4_=>
    if y4_=true then
     if x1 > 0 then
      if (y3_.2.1)=1 then
       some (.inr (.inl ()))
      else
       some (.inl (w64 (x1+1)))
     else
      some (.inl (w64 (x1+1)))
    else
     some (.inr (.inl ()))
   else none
  else
   some (.inr (.inr ()))
def qen_ (n:Nat)(x0:W8)(st:Int):Option ((Unit) ⊕ (Unit)):=iterM (qbg_ n x0) n st
theorem qjr_ (n:Nat){rnd:Option Nat}(x0:W8)(x1:Int)(o:(Int) ⊕ ((Unit) ⊕ (Unit)))(h:qbg_ n x0 x1=some o):CG P rnd (fnN P 6) 0 (qx_ P 6 [false,false,true,false,true,true]) (qem_ x0 x1) (Sum.elim (fun s=>(.normal,qem_ x0 s)) (fun r=>qbs_ x0 r) o):=by
 unfold qbg_ at h
 dsimp only at h
 by_cases hy1:x1<(((x0).l.length:Nat):Int)
 ·rw[if_pos hy1] at h
  obtain⟨hy2,h⟩:=gd h
  obtain⟨y3_,hy3,h⟩:=oB h
  obtain⟨y4_,hy4,h⟩:=oB h
  have k0:=fun {A L l} (k:PL A L l)=>zz 5 (xdT hy1) <|
   zz 12 (xk1 (x0).num (x0).off (x0).cap hy2) <|
   zz 13 (lk2 hy3 (qw_ hy2)) <|
   yy 14 (.call (qtt_ (y3_.1) (y3_.2.1) (y3_.2.2.1) (y3_.2.2.2.1) (y3_.2.2.2.2.1) (y3_.2.2.2.2.2.1) (y3_.2.2.2.2.2.2.1) (y3_.2.2.2.2.2.2.2) y4_ [] [])) <|
   ww (qqm_ n (y3_.1) (y3_.2.1) (y3_.2.2.1) (y3_.2.2.2.1) (y3_.2.2.2.2.1) (y3_.2.2.2.2.2.1) (y3_.2.2.2.2.2.2.1) (y3_.2.2.2.2.2.2.2) y4_ hy4) <|
   k
  by_cases hy5:y4_=true
  ·rw[if_pos hy5] at h
   have k5:=fun {A L l} (k:PL A L l)=>yy 15 (vf) <|
    ww (p:=(Value.bool (!y4_))=(Value.bool false)) (vBn hy5) <|
    k
   by_cases hy6:x1 > 0
   ·rw[if_pos hy6] at h
    have k7:=fun {A L l} (k:PL A L l)=>zz 18 (xdT hy6) <|
     zz 22 (xk1 (x0).num (x0).off (x0).cap hy2) <|
     zz 23 (fk6 (x0).num (Nat.add (x0).off ((x1).toNat*8))) <|
     zz 24 (lk7 hy3 (qw_ hy2)) <|
     k
    by_cases hy7:(y3_.2.1)=1
    ·rw[if_pos hy7] at h
     obtain rfl:=oI h
     exact runC2 hm (kW [2] [] 0 0) (k0 <|
      k5 <|
      k7 <|
      zz 25 (xeT hy7) <|
      ee) (by kernel_rfl)
    ·rw[if_neg hy7] at h
     obtain rfl:=oI h
     exact runC2 hm (kW [0,3] [] 0 0) (k0 <|
      k5 <|
      k7 <|
      zz 25 (xeF hy7) <|
      ee) (by kernel_rfl)
   ·rw[if_neg hy6] at h
    obtain rfl:=oI h
    exact runC2 hm (kW [0,3] [] 0 0) (k0 <|
     k5 <|
     zz 18 (xdF hy6) <|
     ee) (by kernel_rfl)
  ·rw[if_neg hy5] at h
   obtain rfl:=oI h
   exact runC2 hm (kW [2] [] 0 0) (k0 <|
    yy 15 (vt) <|
    ww (p:=(Value.bool (!y4_))=(Value.bool true)) (vBn (Bool.eq_false_iff.2 hy5)) <|
    ee) (by kernel_rfl)
 ·rw[if_neg hy1] at h
  obtain rfl:=oI h
  exact runC2 hm (kW [0] [] 0 0) (zz 5 (xdF hy1) <|
   ee) (by kernel_rfl)
theorem qhl_ (n:Nat){rnd:Option Nat}(x0:W8)(st:Int)(r:(Unit) ⊕ (Unit))(h:qen_ n x0 st=some r):qqn_ rnd x0 st r:=
 CG.iter (b:=qx_ P 6 [false,false,true,false,true,true]) (by kernel_rfl) (body:=qbg_ n x0) (S:=qem_ x0) (X:=qbs_ x0)
  (fun s s' h=>qjr_ n x0 s (.inl s') h)
  (fun s r h=>qjr_ n x0 s (.inr r) h)
  (fun r=>by intro hx; rcases r with _ | _<;>cases hx) h
def qc_ (n:Nat)(a0:W8):Option (Int):=
 if (((a0).l.length:Nat):Int) > 524288 then
  some 3
 else
  match qen_ n a0 0 with
  | none=>none
  | some (.inl _)=>
   some 2
  | some (.inr _)=>
   if (((a0).l.length:Nat):Int)=0 then
    some 2
   else
    (qg_ n a0 0).bind fun c4_=>
    if c4_=(((a0).l.length:Nat):Int) then
     some 0
    else
     some 2
theorem q0_ (n:Nat)(a0:W8)(r:Int)(h:qc_ n a0=some r):qsu_ a0 r:=by
 unfold qc_ at h
 by_cases hc1:(((a0).l.length:Nat):Int) > 524288
 ·rw[if_pos hc1] at h
  obtain rfl:=oI h
  exact runF2 hm (kW [2] [] 0 0) (zz 6 (xdT hc1) <|
   ee) (by kernel_rfl)
 ·rw[if_neg hc1] at h
  have k0:=fun {A L l} (k:PL A L l)=>zz 6 (xdF hc1) <|
   k
  rcases hc2:qen_ n a0 0 with _ | (⟨⟩ | ⟨⟩)
  ·rw[hc2] at h; cases h
  ·rw[hc2] at h
   dsimp only at h
   obtain rfl:=oI h
   exact runF2 hm (kW [2] [] 0 0) (k0 <|
    ww (qhl_ n (rnd:=none) a0 0 (.inl ()) hc2) <|
    ll 12 ⟨(kW [0,3] [] 0 0),(qbs_ a0 (.inl ())).1,(qbs_ a0 (.inl ())).2⟩ <|
    ee) (by kernel_rfl)
  ·rw[hc2] at h
   dsimp only at h
   have k1:=fun {A L l} (k:PL A L l)=>ww (qhl_ n (rnd:=none) a0 0 (.inr ()) hc2) <|
    ll 12 ⟨(kW [0,3] [] 0 0),(qbs_ a0 (.inr ())).1,(qbs_ a0 (.inr ())).2⟩ <|
    k
   by_cases hc3:(((a0).l.length:Nat):Int)=0
   ·rw[if_pos hc3] at h
    obtain rfl:=oI h
    exact runF2 hm (kW [2] [] 0 0) (k0 <|
     k1 <|
     zz 17 (xeT hc3) <|
     ee) (by kernel_rfl)
   ·rw[if_neg hc3] at h
    obtain⟨c4_,hc4,h⟩:=oB h
    have k3:=fun {A L l} (k:PL A L l)=>zz 17 (xeF hc3) <|
     yy 20 (.call (qnq_ a0 0 c4_ [] [])) <|
     ww (qkj_ n a0 0 c4_ hc4) <|
     k
    by_cases hc5:c4_=(((a0).l.length:Nat):Int)
    ·rw[if_pos hc5] at h
     obtain rfl:=oI h
     exact runF2 hm (kW [2] [] 0 0) (k0 <|
      k1 <|
      k3 <|
      zz 23 (xnF hc5) <|
      ee) (by kernel_rfl)
    ·rw[if_neg hc5] at h
     obtain rfl:=oI h
     exact runF2 hm (kW [2] [] 0 0) (k0 <|
      k1 <|
      k3 <|
      zz 23 (xnT hc5) <|
      ee) (by kernel_rfl)

def qlm_ (a0:W8)(r:List (Bool)):Value:=match r with
 | o0=>(sN 0 0 (((((a0).l.length:Nat):Int)).toNat) (((((a0).l.length:Nat):Int)).toNat))
def qln_ (a0:W8)(r:List (Bool)):AH:=match r with
 | o0=>⟨sB [(0,(cB (rows rw_b o0) 4))],1,0⟩
abbrev qsv_ (a0:W8)(r:List (Bool)):Prop:=Gv P (.func 21) [(wlV a0)] ⟨sB [],0,0⟩ (qlm_ a0 r) (qln_ a0 r)
abbrev qsw_ (a0:W8)(r:List (Bool))(ins outs:BL):CallA:=⟨0,ins,qlm_ a0 r,qln_ a0 r,outs⟩
def qeo_ (x0:W8)(x2:Nat)(x3:Int)(st:List (Bool)×Int):XSt:=match st with
 | (x1,x4)=>(sT 59 [(0,(wlV x0)),(3,(sN 0 0 x2 x2)),(4,(i6 x3)),(5,(i6 x4))],[],⟨sB [(0,(cB (rows rw_b x1) 4))],1,0⟩)
def qbt_ (x0:W8)(x2:Nat)(x3:Int)(r:List (Bool)):Ex×XSt:=match r with
 | z0=>(.exit 2,(sT 59 [(0,(wlV x0)),(3,(sN 0 0 x2 x2)),(4,(i6 x3))],[],⟨sB [(0,(cB (rows rw_b z0) 4))],1,0⟩))
abbrev qqo_ (rnd:Option Nat)(x0:W8)(x2:Nat)(x3:Int)(st:List (Bool)×Int)(c:Ex×XSt):Prop:=CG P rnd (fnN P 21) 0 (qx_ P 21 [false,false,true,true,false,false,true,false,false,true,false,true,true,true]) (qeo_ x0 x2 x3 st) c
abbrev qqp_ (rd:Option Nat)(x0:W8)(x2:Nat)(x3:Int)(st:List (Bool)×Int)(r:List (Bool)):Prop:=CG P rd (fnN P 21) 0 (qx_ P 21 [false,true,true,false,false,true,false,false,true,false,true,true,true]) (qeo_ x0 x2 x3 st) (qbt_ x0 x2 x3 r)
def qbu_ (n:Nat)(x0:W8)(x2:Nat)(x3:Int)(st:List (Bool)×Int):Option ((List (Bool)×Int) ⊕ (List (Bool))):=match st with
 | (x1,x4)=>
  if 0≤x3∧x3<(((x0).l.length:Nat):Int) then
   ((some (((x0).l).getD (x3).toNat (0,0,0,0,0,0,nl0,0)))).bind fun y2_=>
   if x4<((((y2_.2.2.2.2.2.2.1)).l.length:Nat):Int) then
    if 0≤x3∧x3<((x2:Nat):Int) then
     if (x3).toNat<(x1).length then
      ((some ((x1).getD (x3).toNat (false)))).bind fun y6_=>
      if y6_=true then
       some (.inl (((x1).set (x3).toNat true),(w64 (x4+1))))
      else
       if 0≤x4∧x4<((((y2_.2.2.2.2.2.2.1)).l.length:Nat):Int) then
        if (x4).toNat<(((y2_.2.2.2.2.2.2.1)).l).length then
         ((some ((((y2_.2.2.2.2.2.2.1)).l).getD (x4).toNat 0))).bind fun y10_=>
         if 0≤y10_∧y10_<((x2:Nat):Int) then
          if (y10_).toNat<(x1).length then
           ((some ((x1).getD (y10_).toNat (false)))).bind fun y13_=>
           some (.inl (((x1).set (x3).toNat y13_),(w64 (x4+1))))
          else none
         else none
        else none
       else none
     else none
    else none
   else
    some (.inr x1)
  else none
def qep_ (n:Nat)(x0:W8)(x2:Nat)(x3:Int)(st:List (Bool)×Int):Option (List (Bool)):=iterM (qbu_ n x0 x2 x3) n st
theorem qjs_ (n:Nat){rnd:Option Nat}(x0:W8)(x2:Nat)(x3:Int)(st:List (Bool)×Int)(o:(List (Bool)×Int) ⊕ (List (Bool)))(h:qbu_ n x0 x2 x3 st=some o):qqo_ rnd x0 x2 x3 st (Sum.elim (fun s=>(.normal,qeo_ x0 x2 x3 s)) (fun r=>qbt_ x0 x2 x3 r) o):=by
 obtain⟨x1,x4⟩:=st
 unfold qbu_ at h
 dsimp only at h
 obtain⟨hy1,h⟩:=gd h
 obtain⟨y2_,hy2,h⟩:=oB h
 have k0:=fun {A L l} (k:PL A L l)=>zz 5 (xk1 (x0).num (x0).off (x0).cap hy1) <|
  zz 6 (fk10 (x0).num (Nat.add (x0).off ((x3).toNat*8))) <|
  zz 7 (lk11 hy2 (qw_ hy1)) <|
  k
 by_cases hy3:x4<((((y2_.2.2.2.2.2.2.1)).l.length:Nat):Int)
 ·rw[if_pos hy3] at h
  obtain⟨hy4,h⟩:=gd h
  obtain⟨hy5,h⟩:=gd h
  obtain⟨y6_,hy6,h⟩:=oB h
  have k3:=fun {A L l} (k:PL A L l)=>zz 9 (xdT hy3) <|
   zz 17 (xk18 0 x2 hy4) <|
   zz 18 (ok19 hy6 (hy5)) <|
   k
  by_cases hy7:y6_=true
  ·rw[if_pos hy7] at h
   obtain rfl:=oI h
   exact runC2 hm (kW [0,3,4,5] [(0,0,true)] 1 0) (k0 <|
    k3 <|
    zz 19 (xbT hy7) <|
    zz 32 (xk18 0 x2 hy4) <|
    z2 33 (ste (k:=1) (qxd_ rwf_b (false) (i:=(x3).toNat) (j:=0) (l:=[(bO true)]) true ((x3).toNat*1) rfl (hy5) (Nat.le_of_ble_eq_true rfl) rfl)) <|
    ww (qb_ rwf_b ((x1).set (x3).toNat true) 4) <|
    ee) (by kernel_rfl)
  ·rw[if_neg hy7] at h
   obtain⟨hy8,h⟩:=gd h
   obtain⟨hy9,h⟩:=gd h
   obtain⟨y10_,hy10,h⟩:=oB h
   obtain⟨hy11,h⟩:=gd h
   obtain⟨hy12,h⟩:=gd h
   obtain⟨y13_,hy13,h⟩:=oB h
   obtain rfl:=oI h
   exact runC2 hm (kW [0,3,4,5] [(0,0,true)] 1 0) (k0 <|
    k3 <|
    zz 19 (xbF hy7) <|
    zz 23 (xk1 (x0).num (x0).off (x0).cap hy1) <|
    zz 24 (fk10 (x0).num (Nat.add (x0).off ((x3).toNat*8))) <|
    zz 25 (lk11 hy2 (qw_ hy1)) <|
    zz 27 (xk12 (Nat.add ((y2_.2.2.2.2.2.2.1)).num 64) ((y2_.2.2.2.2.2.2.1)).off ((y2_.2.2.2.2.2.2.1)).cap hy8) <|
    zz 28 (nk13 hy10 hy9) <|
    zz 29 (xk18 0 x2 hy11) <|
    zz 30 (ok19 hy13 (hy12)) <|
    zz 32 (xk18 0 x2 hy4) <|
    z2 33 (ste (k:=1) (qxd_ rwf_b (false) (i:=(x3).toNat) (j:=0) (l:=[(bO y13_)]) y13_ ((x3).toNat*1) rfl (hy5) (Nat.le_of_ble_eq_true rfl) rfl)) <|
    ww (qb_ rwf_b ((x1).set (x3).toNat y13_) 4) <|
    ee) (by kernel_rfl)
 ·rw[if_neg hy3] at h
  obtain rfl:=oI h
  exact runC2 hm (kW [0,3,4] [(0,0,true)] 1 0) (k0 <|
   zz 9 (xdF hy3) <|
   ww (qb_ rwf_b x1 4) <|
   ee) (by kernel_rfl)
theorem qhm_ (n:Nat){rnd:Option Nat}(x0:W8)(x2:Nat)(x3:Int)(st:List (Bool)×Int)(r:List (Bool))(h:qep_ n x0 x2 x3 st=some r):qqp_ rnd x0 x2 x3 st r:=
 CG.iter (b:=qx_ P 21 [false,false,true,true,false,false,true,false,false,true,false,true,true,true]) (by kernel_rfl) (body:=qbu_ n x0 x2 x3) (S:=qeo_ x0 x2 x3) (X:=qbt_ x0 x2 x3)
  (fun s s' h=>qjs_ n x0 x2 x3 s (.inl s') h)
  (fun s r h=>qjs_ n x0 x2 x3 s (.inr r) h)
  (fun r=>by intro hx; cases hx) h
def qeq_ (x0:W8)(x2:Nat)(st:List (Bool)×Int):XSt:=match st with
 | (x1,x3)=>(sT 59 [(0,(wlV x0)),(3,(sN 0 0 x2 x2)),(4,(i6 x3))],[],⟨sB [(0,(cB (rows rw_b x1) 4))],1,0⟩)
def qc6_ (x0:W8)(x2:Nat)(r:List (Bool)):Ex×XSt:=match r with
 | z0=>(.exit 0,(sT 59 [(3,(sN 0 0 x2 x2))],[],⟨sB [(0,(cB (rows rw_b z0) 4))],1,0⟩))
abbrev qqq_ (rnd:Option Nat)(x0:W8)(x2:Nat)(st:List (Bool)×Int)(c:Ex×XSt):Prop:=CG P rnd (fnN P 21) 0 (qx_ P 21 [false,false,true,false,true,true,true]) (qeq_ x0 x2 st) c
abbrev qqr_ (rd:Option Nat)(x0:W8)(x2:Nat)(st:List (Bool)×Int)(r:List (Bool)):Prop:=CG P rd (fnN P 21) 0 (qx_ P 21 [false,true,false,true,true,true]) (qeq_ x0 x2 st) (qc6_ x0 x2 r)
def qcc_ (n:Nat)(x0:W8)(x2:Nat)(st:List (Bool)×Int):Option ((List (Bool)×Int) ⊕ (List (Bool))):=match st with
 | (x1,x3)=>
  if x3 ≥ 0 then
   if 0≤x3∧x3<(((x0).l.length:Nat):Int) then
    ((some (((x0).l).getD (x3).toNat (0,0,0,0,0,0,nl0,0)))).bind fun y3_=>
    if (y3_.2.2.2.2.2.2.2)=0 then
     if 0≤x3∧x3<((x2:Nat):Int) then
      if (x3).toNat<(x1).length then
       (qep_ n x0 x2 x3 (((x1).set (x3).toNat false),0)).bind fun y7_=>
       some (.inl (y7_,(w64 (x3-1))))
      else none
     else none
    else
     if 0≤x3∧x3<((x2:Nat):Int) then
      if (x3).toNat<(x1).length then
       (qep_ n x0 x2 x3 (((x1).set (x3).toNat true),0)).bind fun y7_=>
       some (.inl (y7_,(w64 (x3-1))))
      else none
     else none
   else none
  else
   some (.inr x1)
def qf5_ (n:Nat)(x0:W8)(x2:Nat)(st:List (Bool)×Int):Option (List (Bool)):=iterM (qcc_ n x0 x2) n st
theorem qjt_ (n:Nat){rnd:Option Nat}(x0:W8)(x2:Nat)(st:List (Bool)×Int)(o:(List (Bool)×Int) ⊕ (List (Bool)))(h:qcc_ n x0 x2 st=some o):qqq_ rnd x0 x2 st (Sum.elim (fun s=>(.normal,qeq_ x0 x2 s)) (fun r=>qc6_ x0 x2 r) o):=by
 obtain⟨x1,x3⟩:=st
 unfold qcc_ at h
 dsimp only at h
 by_cases hy1:x3 ≥ 0
 ·rw[if_pos hy1] at h
  obtain⟨hy2,h⟩:=gd h
  obtain⟨y3_,hy3,h⟩:=oB h
  have k0:=fun {A L l} (k:PL A L l)=>zz 3 (xdT hy1) <|
   zz 12 (xk1 (x0).num (x0).off (x0).cap hy2) <|
   zz 13 (fk16 (x0).num (Nat.add (x0).off ((x3).toNat*8))) <|
   zz 14 (lk17 hy3 (qw_ hy2)) <|
   k
  by_cases hy4:(y3_.2.2.2.2.2.2.2)=0
  ·rw[if_pos hy4] at h
   obtain⟨hy5,h⟩:=gd h
   obtain⟨hy6,h⟩:=gd h
   obtain⟨y7_,hy7,h⟩:=oB h
   obtain rfl:=oI h
   exact runC2 hm (kW [0,3,4] [(0,0,true)] 1 0) (k0 <|
    zz 15 (xnF hy4) <|
    zz 16 (xk18 0 x2 hy5) <|
    z2 17 (ste (k:=1) (qxd_ rwf_b (false) (i:=(x3).toNat) (j:=0) (l:=[(bO false)]) false ((x3).toNat*1) rfl (hy6) (Nat.le_of_ble_eq_true rfl) rfl)) <|
    ww (qhm_ n (rnd:=rnd) x0 x2 x3 (((x1).set (x3).toNat false),0) y7_ hy7) <|
    ww (qb_ rwf_b ((x1).set (x3).toNat false) 4) <|
    ll 21 ⟨(kW [0,3,4,5] [(0,0,true)] 1 0),(qbt_ x0 x2 x3 y7_).1,(qbt_ x0 x2 x3 y7_).2⟩ <|
    ww (qb_ rwf_b y7_ 4) <|
    ee) (by kernel_rfl)
  ·rw[if_neg hy4] at h
   obtain⟨hy5,h⟩:=gd h
   obtain⟨hy6,h⟩:=gd h
   obtain⟨y7_,hy7,h⟩:=oB h
   obtain rfl:=oI h
   exact runC2 hm (kW [0,3,4] [(0,0,true)] 1 0) (k0 <|
    zz 15 (xnT hy4) <|
    zz 16 (xk18 0 x2 hy5) <|
    z2 17 (ste (k:=1) (qxd_ rwf_b (false) (i:=(x3).toNat) (j:=0) (l:=[(bO true)]) true ((x3).toNat*1) rfl (hy6) (Nat.le_of_ble_eq_true rfl) rfl)) <|
    ww (qhm_ n (rnd:=rnd) x0 x2 x3 (((x1).set (x3).toNat true),0) y7_ hy7) <|
    ww (qb_ rwf_b ((x1).set (x3).toNat true) 4) <|
    ll 21 ⟨(kW [0,3,4,5] [(0,0,true)] 1 0),(qbt_ x0 x2 x3 y7_).1,(qbt_ x0 x2 x3 y7_).2⟩ <|
    ww (qb_ rwf_b y7_ 4) <|
    ee) (by kernel_rfl)
 ·rw[if_neg hy1] at h
  obtain rfl:=oI h
  exact runC2 hm (kW [3] [(0,0,true)] 1 0) (zz 3 (xdF hy1) <|
   ww (qb_ rwf_b x1 4) <|
   ee) (by kernel_rfl)
theorem qn4_ (n:Nat){rnd:Option Nat}(x0:W8)(x2:Nat)(st:List (Bool)×Int)(r:List (Bool))(h:qf5_ n x0 x2 st=some r):qqr_ rnd x0 x2 st r:=
 CG.iter (b:=qx_ P 21 [false,false,true,false,true,true,true]) (by kernel_rfl) (body:=qcc_ n x0 x2) (S:=qeq_ x0 x2) (X:=qc6_ x0 x2)
  (fun s s' h=>qjt_ n x0 x2 s (.inl s') h)
  (fun s r h=>qjt_ n x0 x2 s (.inr r) h)
  (fun r=>by intro hx; cases hx) h
def qd2_ (n:Nat)(a0:W8):Option (List (Bool)):=
 (qc_ n a0).bind fun c1_=>
 if c1_=0 then
  if 0≤(((a0).l.length:Nat):Int) then
   if ((((a0).l.length:Nat):Int)).toNat*1≤140737488355328 then
    ((some (w64 ((((a0).l.length:Nat):Int)-1)))).bind fun c5_=>
    (qf5_ n a0 (((((a0).l.length:Nat):Int)).toNat) ((List.replicate ((((a0).l.length:Nat):Int)).toNat (false)),c5_)).bind fun c6_=>
    some c6_
   else none
  else none
 else
  none
theorem qpt_ (n:Nat)(a0:W8)(r:List (Bool))(h:qd2_ n a0=some r):qsv_ a0 r:=by
 unfold qd2_ at h
 obtain⟨c1_,hc1,h⟩:=oB h
 have k0:=fun {A L l} (k:PL A L l)=>yy 5 (.call (qbf_ a0 c1_ [] [])) <|
  ww (q0_ n a0 c1_ hc1) <|
  k
 by_cases hc2:c1_=0
 ·rw[if_pos hc2] at h
  obtain⟨hc3,h⟩:=gd h
  obtain⟨hc4,h⟩:=gd h
  obtain⟨c5_,hc5,h⟩:=oB h
  obtain⟨c6_,hc6,h⟩:=oB h
  obtain rfl:=oI h
  exact runF2 hm (kW [2] [(0,0,true)] 1 0) (k0 <|
   zz 6 (xnF hc2) <|
   yy 11 (.mk ((((a0).l.length:Nat):Int)).toNat (rows rw_b (List.replicate ((((a0).l.length:Nat):Int)).toNat (false)))) <|
   ww (p:=natOf (i6 (((a0).l.length:Nat):Int))=some ((((a0).l.length:Nat):Int)).toNat) (qgl_ hc3) <|
   ww (p:=natOf (i6 (((a0).l.length:Nat):Int))=some ((((a0).l.length:Nat):Int)).toNat) (qgl_ hc3) <|
   ww (p:=fits ((((a0).l.length:Nat):Int)).toNat 1=true) (ql8_ hc4 (by omega)) <|
   ww (p:=isZ8 [(bO false)]=false) (rfl) <|
   ww (p:=reps [(bO false)] ((((a0).l.length:Nat):Int)).toNat=(rows rw_b (List.replicate ((((a0).l.length:Nat):Int)).toNat (false)))) (reps_rows rw_b (false) _ rfl _) <|
   zz 17 (xnm hc5) <|
   ww (qn4_ n (rnd:=none) a0 (((((a0).l.length:Nat):Int)).toNat) ((List.replicate ((((a0).l.length:Nat):Int)).toNat (false)),c5_) c6_ hc6) <|
   ww (qb_ rwf_b (List.replicate ((((a0).l.length:Nat):Int)).toNat (false)) 4) <|
   ll 20 ⟨(kW [0,3,4] [(0,0,true)] 1 0),(qc6_ a0 (((((a0).l.length:Nat):Int)).toNat) c6_).1,(qc6_ a0 (((((a0).l.length:Nat):Int)).toNat) c6_).2⟩ <|
   ww (qb_ rwf_b c6_ 4) <|
   ee) (by kernel_rfl)
 ·rw[if_neg hc2] at h
  cases h

def qkk_ (a0:W8)(r:NL):Value:=match r with
 | o0=>(nlV o0)
def qkl_ (a0:W8)(r:NL):AH:=match r with
 | o0=>⟨sB [],0,0⟩
abbrev qrz_ (a0:W8)(r:NL):Prop:=Gv P (.func 11) [(wlV a0)] ⟨sB [],0,0⟩ (qkk_ a0 r) (qkl_ a0 r)
abbrev qkm_ (a0:W8)(r:NL)(ins outs:BL):CallA:=⟨0,ins,qkk_ a0 r,qkl_ a0 r,outs⟩
def qd7_ (x0:W8)(st:List Int×Int):XSt:=match st with
 | (x1,x2)=>(sT 27 [(0,(wlV x0)),(3,(slN x1 0)),(4,(i6 x2))],[],⟨sB [(0,(nblk x1 3))],1,0⟩)
def qbm_ (x0:W8)(r:List Int):Ex×XSt:=match r with
 | z0=>(.exit 0,(sT 27 [(3,(slN z0 0))],[],⟨sB [(0,(nblk z0 3))],1,0⟩))
abbrev qpu_ (rnd:Option Nat)(x0:W8)(st:List Int×Int)(c:Ex×XSt):Prop:=CG P rnd (fnN P 11) 0 (qx_ P 11 [false,false,true,false,true,true]) (qd7_ x0 st) c
abbrev qpv_ (rd:Option Nat)(x0:W8)(st:List Int×Int)(r:List Int):Prop:=CG P rd (fnN P 11) 0 (qx_ P 11 [false,true,false,true,true]) (qd7_ x0 st) (qbm_ x0 r)
def q5_ (n:Nat)(x0:W8)(st:List Int×Int):Option ((List Int×Int) ⊕ (List Int)):=match st with
 | (x1,x2)=>
  match x1 with
  | []=>
   if x2<(((x0).l.length:Nat):Int) then
    (qc_ n x0).bind fun y2_=>
    if y2_=0 then
     if 0≤x2∧x2<(((x0).l.length:Nat):Int) then
      ((some (((x0).l).getD (x2).toNat (0,0,0,0,0,0,nl0,0)))).bind fun y5_=>
      (qk_ n (y5_.2.1)).bind fun y6_=>
      if y6_=true then
       some (.inl ([x2],(w64 (x2+1))))
      else
       some (.inl (([]:List Int),(w64 (x2+1))))
     else none
    else
     some (.inr ([]:List Int))
   else
    some (.inr ([]:List Int))
  | x1a::x1t=>
   if x2<(((x0).l.length:Nat):Int) then
    (qc_ n x0).bind fun y2_=>
    if y2_=0 then
     if 0≤x2∧x2<(((x0).l.length:Nat):Int) then
      ((some (((x0).l).getD (x2).toNat (0,0,0,0,0,0,nl0,0)))).bind fun y5_=>
      (qk_ n (y5_.2.1)).bind fun y6_=>
      if y6_=true then
       if (((x1a::x1t)).length+1)*8≤140737488355328 then
        some (.inl (((x1a::x1t) ++ [x2]),(w64 (x2+1))))
       else none
      else
       some (.inl ((x1a::x1t),(w64 (x2+1))))
     else none
    else
     some (.inr (x1a::x1t))
   else
    some (.inr (x1a::x1t))
def qfv_ (n:Nat)(x0:W8)(st:List Int×Int):Option (List Int):=iterM (q5_ n x0) n st
theorem qi3_ (n:Nat){rnd:Option Nat}(x0:W8)(st:List Int×Int)(o:(List Int×Int) ⊕ (List Int))(h:q5_ n x0 st=some o):qpu_ rnd x0 st (Sum.elim (fun s=>(.normal,qd7_ x0 s)) (fun r=>qbm_ x0 r) o):=by
 obtain⟨x1,x2⟩:=st
 unfold q5_ at h
 dsimp only at h
 cases x1 with
 | nil=>
  dsimp only at h
  by_cases hy1:x2<(((x0).l.length:Nat):Int)
  ·rw[if_pos hy1] at h
   obtain⟨y2_,hy2,h⟩:=oB h
   have k0:=fun {A L l} (k:PL A L l)=>zz 5 (xdT hy1) <|
    yy 8 (.call (qbf_ x0 y2_ [] [])) <|
    ww (q0_ n x0 y2_ hy2) <|
    k
   by_cases hy3:y2_=0
   ·rw[if_pos hy3] at h
    obtain⟨hy4,h⟩:=gd h
    obtain⟨y5_,hy5,h⟩:=oB h
    obtain⟨y6_,hy6,h⟩:=oB h
    have k3:=fun {A L l} (k:PL A L l)=>zz 9 (xeT hy3) <|
     zz 17 (xk1 (x0).num (x0).off (x0).cap hy4) <|
     zz 18 (fk6 (x0).num (Nat.add (x0).off ((x2).toNat*8))) <|
     zz 19 (lk7 hy5 (qw_ hy4)) <|
     yy 20 (.call (q6_ (y5_.2.1) y6_ [] [])) <|
     ww (qu_ n (y5_.2.1) y6_ hy6) <|
     k
    by_cases hy7:y6_=true
    ·rw[if_pos hy7] at h
     obtain rfl:=oI h
     exact runC2 hm (kW [0,3,4] [(0,2,false)] 1 0) (k0 <|
      k3 <|
      zz 21 (xbT hy7) <|
      ee) (by kernel_rfl)
    ·rw[if_neg hy7] at h
     obtain rfl:=oI h
     exact runC2 hm (kW [0,3,4] [] 1 0) (k0 <|
      k3 <|
      zz 21 (xbF hy7) <|
      ee) (by kernel_rfl)
   ·rw[if_neg hy3] at h
    obtain rfl:=oI h
    exact runC2 hm (kW [3] [] 1 0) (k0 <|
     zz 9 (xeF hy3) <|
     ee) (by kernel_rfl)
  ·rw[if_neg hy1] at h
   obtain rfl:=oI h
   exact runC2 hm (kW [3] [] 1 0) (zz 5 (xdF hy1) <|
    ee) (by kernel_rfl)
 | cons x1a x1t=>
  dsimp only at h
  by_cases hy1:x2<(((x0).l.length:Nat):Int)
  ·rw[if_pos hy1] at h
   obtain⟨y2_,hy2,h⟩:=oB h
   have k0:=fun {A L l} (k:PL A L l)=>zz 5 (xdT hy1) <|
    yy 8 (.call (qbf_ x0 y2_ [] [])) <|
    ww (q0_ n x0 y2_ hy2) <|
    k
   by_cases hy3:y2_=0
   ·rw[if_pos hy3] at h
    obtain⟨hy4,h⟩:=gd h
    obtain⟨y5_,hy5,h⟩:=oB h
    obtain⟨y6_,hy6,h⟩:=oB h
    have k3:=fun {A L l} (k:PL A L l)=>zz 9 (xeT hy3) <|
     zz 17 (xk1 (x0).num (x0).off (x0).cap hy4) <|
     zz 18 (fk6 (x0).num (Nat.add (x0).off ((x2).toNat*8))) <|
     zz 19 (lk7 hy5 (qw_ hy4)) <|
     yy 20 (.call (q6_ (y5_.2.1) y6_ [] [])) <|
     ww (qu_ n (y5_.2.1) y6_ hy6) <|
     k
    by_cases hy7:y6_=true
    ·rw[if_pos hy7] at h
     obtain⟨hy8,h⟩:=gd h
     obtain rfl:=oI h
     exact runC2 hm (kW [0,3,4] [(0,2,true)] 1 0) (k0 <|
      k3 <|
      zz 21 (xbT hy7) <|
      yy 25 (.app ⟨none,iv (x1a::x1t),(iv ((x1a::x1t) ++ [x2])),(((x1a::x1t) ++ [x2])).length,false⟩) <|
      ww (p:=0<1) ((by decide)) <|
      ww (p:=rdT (layT (iv (x1a::x1t))) (Nat.mul ((x1a::x1t)).length 1) 0=some (iv (x1a::x1t))) (iv_rd _) <|
      ww (p:=fits (Nat.add ((x1a::x1t)).length 1) 8=true) (ql8_ hy8 (by have:=hy8; show (_:Nat)+_≤_; omega)) <|
      ww (p:=qbn_ [(i6 x2)]=true) (rfl) <|
      ww (p:=qbn_ (iv (x1a::x1t))=true) (iv_cells _) <|
      ww (p:=iv (x1a::x1t) ++ [(i6 x2)]=(iv ((x1a::x1t) ++ [x2]))) (by simp[iv]) <|
      ww (p:=Nat.add ((x1a::x1t)).length 1=(((x1a::x1t) ++ [x2])).length) (by simp) <|
      ww (qd_ ((x1a::x1t) ++ [x2]) 3) <|
      ee) (by kernel_rfl)
    ·rw[if_neg hy7] at h
     obtain rfl:=oI h
     exact runC2 hm (kW [0,3,4] [(0,0,true)] 1 0) (k0 <|
      k3 <|
      zz 21 (xbF hy7) <|
      ww (qd_ (x1a::x1t) 3) <|
      ee) (by kernel_rfl)
   ·rw[if_neg hy3] at h
    obtain rfl:=oI h
    exact runC2 hm (kW [3] [(0,0,true)] 1 0) (k0 <|
     zz 9 (xeF hy3) <|
     ww (qd_ (x1a::x1t) 3) <|
     ee) (by kernel_rfl)
  ·rw[if_neg hy1] at h
   obtain rfl:=oI h
   exact runC2 hm (kW [3] [(0,0,true)] 1 0) (zz 5 (xdF hy1) <|
    ww (qd_ (x1a::x1t) 3) <|
    ee) (by kernel_rfl)
theorem qg5_ (n:Nat){rnd:Option Nat}(x0:W8)(st:List Int×Int)(r:List Int)(h:qfv_ n x0 st=some r):qpv_ rnd x0 st r:=
 CG.iter (b:=qx_ P 11 [false,false,true,false,true,true]) (by kernel_rfl) (body:=q5_ n x0) (S:=qd7_ x0) (X:=qbm_ x0)
  (fun s s' h=>qi3_ n x0 s (.inl s') h)
  (fun s r h=>qi3_ n x0 s (.inr r) h)
  (fun r=>by intro hx; cases hx) h
def qb1_ (n:Nat)(a0:W8):Option (NL):=
 (qfv_ n a0 (([]:List Int),0)).bind fun c1_=>
 match c1_ with
 | []=>
  some nl0
 | c1_a::c1_t=>
  if hc2:(c1_a::c1_t).length≤140737488355328 then
   some (frzL (c1_a::c1_t) hc2)
  else none
theorem qh5_ (n:Nat)(a0:W8)(r:NL)(h:qb1_ n a0=some r):qrz_ a0 r:=by
 unfold qb1_ at h
 obtain⟨c1_,hc1,h⟩:=oB h
 cases c1_ with
 | nil=>
  dsimp only at h
  obtain rfl:=oI h
  exact runF2 hm ⟨[2],[],0,0,[],true,[],[],[2]⟩ (ww (qg5_ n (rnd:=none) a0 (([]:List Int),0) ([]:List Int) hc1) <|
   ll 8 ⟨(kW [0,3,4] [] 1 0),(qbm_ a0 ([]:List Int)).1,(qbm_ a0 ([]:List Int)).2⟩ <|
   ee) (by kernel_rfl)
 | cons c1_a c1_t=>
  dsimp only at h
  obtain⟨hc2,h⟩:=gdD h
  obtain rfl:=oI h
  exact runF2 hm ⟨[2],[],0,0,[(0,Nat.add (2*cod (c1_a::c1_t)+1) 64)],true,[],[],[]⟩ (ww (qg5_ n (rnd:=none) a0 (([]:List Int),0) (c1_a::c1_t) hc1) <|
   ll 8 ⟨(kW [0,3,4] [] 1 0),(qbm_ a0 (c1_a::c1_t)).1,(qbm_ a0 (c1_a::c1_t)).2⟩ <|
   ww (frz_ok qip_ qsp_ (c1_a::c1_t)) <|
   ee) (by kernel_rfl)

def qlo_ (a0:W8)(a1:NL)(a2 a3 r:Int):Value:=match r with
 | o0=>(i6 o0)
def qlp_ (a0:W8)(a1:NL)(a2 a3 r:Int):AH:=match r with
 | o0=>⟨sB [],0,0⟩
abbrev qsx_ (a0:W8)(a1:NL)(a2 a3 r:Int):Prop:=Gv P (.func 42) [(wlV a0),(nlV a1),(i6 a2),(i6 a3)] ⟨sB [],0,0⟩ (qlo_ a0 a1 a2 a3 r) (qlp_ a0 a1 a2 a3 r)
abbrev qsy_ (a0:W8)(a1:NL)(a2 a3 r:Int)(ins outs:BL):CallA:=⟨0,ins,qlo_ a0 a1 a2 a3 r,qlp_ a0 a1 a2 a3 r,outs⟩
def qer_ (x0:W8)(x1:NL)(st:Int×Int×Int):XSt:=match st with
 | (x2,x3,x4)=>(sT 61 [(0,(wlV x0)),(1,(nlV x1)),(3,(i6 x2)),(9,(i6 x3)),(11,(i6 x4))],[],⟨sB [],0,0⟩)
def qc7_ (x0:W8)(x1:NL)(r:Int):Ex×XSt:=match r with
 | z0=>(.exit 2,(sT 61 [(9,(i6 z0))],[],⟨sB [],0,0⟩))
abbrev qqs_ (rnd:Option Nat)(x0:W8)(x1:NL)(st:Int×Int×Int)(c:Ex×XSt):Prop:=CG P rnd (fnN P 42) 0 (qx_ P 42 [false,false,true,false,true,true,true]) (qer_ x0 x1 st) c
abbrev qqt_ (rd:Option Nat)(x0:W8)(x1:NL)(st:Int×Int×Int)(r:Int):Prop:=CG P rd (fnN P 42) 0 (qx_ P 42 [false,true,false,true,true,true]) (qer_ x0 x1 st) (qc7_ x0 x1 r)
def qcd_ (n:Nat)(x0:W8)(x1:NL)(st:Int×Int×Int):Option ((Int×Int×Int) ⊕ (Int)):=match st with
 | (x2,x3,x4)=>
  if x4<(((x1).l.length:Nat):Int) then
   if x2 > 0 then
    if 0≤x4∧x4<(((x1).l.length:Nat):Int) then
     if (x4).toNat<((x1).l).length then
      ((some (((x1).l).getD (x4).toNat 0))).bind fun y5_=>
      if 0≤y5_∧y5_<(((x0).l.length:Nat):Int) then
       ((some (((x0).l).getD (y5_).toNat (0,0,0,0,0,0,nl0,0)))).bind fun y7_=>
       if (y7_.2.1)=4 then
        some (.inl (x2,x3,(w64 (x4+1))))
       else
        some (.inl ((w64 (x2-1)),(maxB x3 (y7_.2.2.2.2.2.1)),(w64 (x4+1))))
      else none
     else none
    else none
   else
    some (.inr x3)
  else
   some (.inr x3)
def qf6_ (n:Nat)(x0:W8)(x1:NL)(st:Int×Int×Int):Option (Int):=iterM (qcd_ n x0 x1) n st
theorem qju_ (n:Nat){rnd:Option Nat}(x0:W8)(x1:NL)(st:Int×Int×Int)(o:(Int×Int×Int) ⊕ (Int))(h:qcd_ n x0 x1 st=some o):qqs_ rnd x0 x1 st (Sum.elim (fun s=>(.normal,qer_ x0 x1 s)) (fun r=>qc7_ x0 x1 r) o):=by
 obtain⟨x2,x3,x4⟩:=st
 unfold qcd_ at h
 dsimp only at h
 by_cases hy1:x4<(((x1).l.length:Nat):Int)
 ·rw[if_pos hy1] at h
  have k0:=fun {A L l} (k:PL A L l)=>zz 5 (xdT hy1) <|
   k
  by_cases hy2:x2 > 0
  ·rw[if_pos hy2] at h
   obtain⟨hy3,h⟩:=gd h
   obtain⟨hy4,h⟩:=gd h
   obtain⟨y5_,hy5,h⟩:=oB h
   obtain⟨hy6,h⟩:=gd h
   obtain⟨y7_,hy7,h⟩:=oB h
   have k1:=fun {A L l} (k:PL A L l)=>zz 8 (xdT hy2) <|
    zz 17 (xk12 (Nat.add (x1).num 64) (x1).off (x1).cap hy3) <|
    zz 18 (nk13 hy5 hy4) <|
    zz 19 (xk1 (x0).num (x0).off (x0).cap hy6) <|
    zz 20 (fk6 (x0).num (Nat.add (x0).off ((y5_).toNat*8))) <|
    zz 21 (lk7 hy7 (qw_ hy6)) <|
    k
   by_cases hy8:(y7_.2.1)=4
   ·rw[if_pos hy8] at h
    obtain rfl:=oI h
    exact runC2 hm (kW [0,1,3,9,11] [] 0 0) (k0 <|
     k1 <|
     zz 22 (xnF hy8) <|
     ee) (by kernel_rfl)
   ·rw[if_neg hy8] at h
    obtain rfl:=oI h
    exact runC2 hm (kW [0,1,3,9,11] [] 0 0) (k0 <|
     k1 <|
     zz 22 (xnT hy8) <|
     zz 29 (xk12 (Nat.add (x1).num 64) (x1).off (x1).cap hy3) <|
     zz 30 (nk13 hy5 hy4) <|
     zz 31 (xk1 (x0).num (x0).off (x0).cap hy6) <|
     zz 32 (fk20 (x0).num (Nat.add (x0).off ((y5_).toNat*8))) <|
     zz 33 (lk21 hy7 (qw_ hy6)) <|
     ee) (by kernel_rfl)
  ·rw[if_neg hy2] at h
   obtain rfl:=oI h
   exact runC2 hm (kW [9] [] 0 0) (k0 <|
    zz 8 (xdF hy2) <|
    ee) (by kernel_rfl)
 ·rw[if_neg hy1] at h
  obtain rfl:=oI h
  exact runC2 hm (kW [9] [] 0 0) (zz 5 (xdF hy1) <|
   ee) (by kernel_rfl)
theorem qn5_ (n:Nat){rnd:Option Nat}(x0:W8)(x1:NL)(st:Int×Int×Int)(r:Int)(h:qf6_ n x0 x1 st=some r):qqt_ rnd x0 x1 st r:=
 CG.iter (b:=qx_ P 42 [false,false,true,false,true,true,true]) (by kernel_rfl) (body:=qcd_ n x0 x1) (S:=qer_ x0 x1) (X:=qc7_ x0 x1)
  (fun s s' h=>qju_ n x0 x1 s (.inl s') h)
  (fun s r h=>qju_ n x0 x1 s (.inr r) h)
  (fun r=>by intro hx; cases hx) h
def qes_ (x0:W8)(x1:NL)(x2 x3:Int)(st:Int×Int):XSt:=match st with
 | (x4,x5)=>(sT 61 [(0,(wlV x0)),(1,(nlV x1)),(2,(i6 x2)),(3,(i6 x3)),(9,(i6 x4)),(10,(i6 x5))],[],⟨sB [],0,0⟩)
def qc8_ (x0:W8)(x1:NL)(x2 x3 r:Int):Ex×XSt:=match r with
 | z0=>(.exit 0,(sT 61 [(0,(wlV x0)),(1,(nlV x1)),(2,(i6 x2)),(3,(i6 x3)),(9,(i6 z0))],[],⟨sB [],0,0⟩))
abbrev qqu_ (rnd:Option Nat)(x0:W8)(x1:NL)(x2 x3:Int)(st:Int×Int)(c:Ex×XSt):Prop:=CG P rnd (fnN P 42) 0 (qx_ P 42 [false,false,true,false,true,true]) (qes_ x0 x1 x2 x3 st) c
abbrev qqv_ (rd:Option Nat)(x0:W8)(x1:NL)(x2 x3:Int)(st:Int×Int)(r:Int):Prop:=CG P rd (fnN P 42) 0 (qx_ P 42 [false,true,false,true,true]) (qes_ x0 x1 x2 x3 st) (qc8_ x0 x1 x2 x3 r)
def qbv_ (n:Nat)(x0:W8)(x1:NL)(x2 x3:Int)(st:Int×Int):Option ((Int×Int) ⊕ (Int)):=match st with
 | (x4,x5)=>
  if x5≤x2 then
   if 0≤x5∧x5<(((x1).l.length:Nat):Int) then
    if (x5).toNat<((x1).l).length then
     ((some (((x1).l).getD (x5).toNat 0))).bind fun y4_=>
     if 0≤y4_∧y4_<(((x0).l.length:Nat):Int) then
      ((some (((x0).l).getD (y4_).toNat (0,0,0,0,0,0,nl0,0)))).bind fun y6_=>
      some (.inl ((maxB x4 (y6_.2.2.2.2.2.1)),(w64 (x5+1))))
     else none
    else none
   else none
  else
   some (.inr x4)
def qf7_ (n:Nat)(x0:W8)(x1:NL)(x2 x3:Int)(st:Int×Int):Option (Int):=iterM (qbv_ n x0 x1 x2 x3) n st
theorem qjv_ (n:Nat){rnd:Option Nat}(x0:W8)(x1:NL)(x2 x3:Int)(st:Int×Int)(o:(Int×Int) ⊕ (Int))(h:qbv_ n x0 x1 x2 x3 st=some o):qqu_ rnd x0 x1 x2 x3 st (Sum.elim (fun s=>(.normal,qes_ x0 x1 x2 x3 s)) (fun r=>qc8_ x0 x1 x2 x3 r) o):=by
 obtain⟨x4,x5⟩:=st
 unfold qbv_ at h
 dsimp only at h
 by_cases hy1:x5≤x2
 ·rw[if_pos hy1] at h
  obtain⟨hy2,h⟩:=gd h
  obtain⟨hy3,h⟩:=gd h
  obtain⟨y4_,hy4,h⟩:=oB h
  obtain⟨hy5,h⟩:=gd h
  obtain⟨y6_,hy6,h⟩:=oB h
  obtain rfl:=oI h
  exact runC2 hm (kW [0,1,2,3,9,10] [] 0 0) (zz 4 (xdT hy1) <|
   zz 12 (xk12 (Nat.add (x1).num 64) (x1).off (x1).cap hy2) <|
   zz 13 (nk13 hy4 hy3) <|
   zz 14 (xk1 (x0).num (x0).off (x0).cap hy5) <|
   zz 15 (fk20 (x0).num (Nat.add (x0).off ((y4_).toNat*8))) <|
   zz 16 (lk21 hy6 (qw_ hy5)) <|
   ee) (by kernel_rfl)
 ·rw[if_neg hy1] at h
  obtain rfl:=oI h
  exact runC2 hm (kW [0,1,2,3,9] [] 0 0) (zz 4 (xdF hy1) <|
   ee) (by kernel_rfl)
theorem qn6_ (n:Nat){rnd:Option Nat}(x0:W8)(x1:NL)(x2 x3:Int)(st:Int×Int)(r:Int)(h:qf7_ n x0 x1 x2 x3 st=some r):qqv_ rnd x0 x1 x2 x3 st r:=
 CG.iter (b:=qx_ P 42 [false,false,true,false,true,true]) (by kernel_rfl) (body:=qbv_ n x0 x1 x2 x3) (S:=qes_ x0 x1 x2 x3) (X:=qc8_ x0 x1 x2 x3)
  (fun s s' h=>qjv_ n x0 x1 x2 x3 s (.inl s') h)
  (fun s r h=>qjv_ n x0 x1 x2 x3 s (.inr r) h)
  (fun r=>by intro hx; cases hx) h
def qd3_ (n:Nat)(a0:W8)(a1:NL)(a2 a3:Int):Option (Int):=
 (qf7_ n a0 a1 a2 a3 (0,0)).bind fun c1_=>
 (qf6_ n a0 a1 (a3,c1_,(w64 (a2+1)))).bind fun c2_=>
 some c2_
theorem qpw_ (n:Nat)(a0:W8)(a1:NL)(a2 a3 r:Int)(h:qd3_ n a0 a1 a2 a3=some r):qsx_ a0 a1 a2 a3 r:=by
 unfold qd3_ at h
 obtain⟨c1_,hc1,h⟩:=oB h
 obtain⟨c2_,hc2,h⟩:=oB h
 obtain rfl:=oI h
 exact runF2 hm (kW [8] [] 0 0) (ww (qn6_ n (rnd:=none) a0 a1 a2 a3 (0,0) c1_ hc1) <|
  ll 8 ⟨(kW [0,1,2,3,9,10] [] 0 0),(qc8_ a0 a1 a2 a3 c1_).1,(qc8_ a0 a1 a2 a3 c1_).2⟩ <|
  ww (qn5_ n (rnd:=none) a0 a1 (a3,c1_,(w64 (a2+1))) c2_ hc2) <|
  ll 15 ⟨(kW [0,1,3,9,11] [] 0 0),(qc7_ a0 a1 c2_).1,(qc7_ a0 a1 c2_).2⟩ <|
  ee) (by kernel_rfl)

def qlq_ (a0:W8)(a1:Int):List Value:=[(wlV a0),(i6 a1)]
def qlr_ (a0:W8)(a1:Int):AH:=⟨sB [],0,0⟩
def qls_ (a0:W8)(a1:Int)(r:NL):Value:=match r with
 | o0=>(nlV o0)
def qg6_ (a0:W8)(a1:Int)(r:NL):AH:=match r with
 | o0=>⟨sB [],0,0⟩
abbrev qsz_ (a0:W8)(a1:Int)(r:NL):Prop:=Gv P (.func 22) (qlq_ a0 a1) (qlr_ a0 a1) (qls_ a0 a1 r) (qg6_ a0 a1 r)
abbrev qs0_ (a0:W8)(a1:Int)(r:NL)(ins outs:BL):CallA:=⟨0,ins,qls_ a0 a1 r,qg6_ a0 a1 r,outs⟩
def qet_ (x0:W8)(x1:Int)(x3:Nat)(x4:NL)(st:List Int×Int):XSt:=match st with
 | (x2,x5)=>(sT 34 [(0,(wlV x0)),(1,(i6 x1)),(5,(sN 0 0 x3 x3)),(6,(nlV x4)),(7,(i6 x5))],[],⟨sB [(0,(cB (iv x2) 3))],1,0⟩)
def qc9_ (x0:W8)(x1:Int)(x3:Nat)(x4:NL)(r:List Int):Ex×XSt:=match r with
 | z0=>(.exit 0,(sT 34 [(5,(sN 0 0 x3 x3))],[],⟨sB [(0,(cB (iv z0) 3))],1,0⟩))
abbrev qqw_ (rnd:Option Nat)(x0:W8)(x1:Int)(x3:Nat)(x4:NL)(st:List Int×Int)(c:Ex×XSt):Prop:=CG P rnd (fnN P 22) 0 (qx_ P 22 [false,false,true,false,true,true,true,true]) (qet_ x0 x1 x3 x4 st) c
abbrev qqx_ (rd:Option Nat)(x0:W8)(x1:Int)(x3:Nat)(x4:NL)(st:List Int×Int)(r:List Int):Prop:=CG P rd (fnN P 22) 0 (qx_ P 22 [false,true,false,true,true,true,true]) (qet_ x0 x1 x3 x4 st) (qc9_ x0 x1 x3 x4 r)
def qbw_ (n:Nat)(x0:W8)(x1:Int)(x3:Nat)(x4:NL)(st:List Int×Int):Option ((List Int×Int) ⊕ (List Int)):=match st with
 | (x2,x5)=>
  if x5<(((x4).l.length:Nat):Int) then
   if 0≤x5∧x5<(((x4).l.length:Nat):Int) then
    if (x5).toNat<((x4).l).length then
     ((some (((x4).l).getD (x5).toNat 0))).bind fun y4_=>
     (qd3_ n x0 x4 x5 x1).bind fun y5_=>
     if 0≤y4_∧y4_<((x3:Nat):Int) then
      if (y4_).toNat<(x2).length then
       some (.inl (((x2).set (y4_).toNat y5_),(w64 (x5+1))))
      else none
     else none
    else none
   else none
  else
   some (.inr x2)
def qf8_ (n:Nat)(x0:W8)(x1:Int)(x3:Nat)(x4:NL)(st:List Int×Int):Option (List Int):=iterM (qbw_ n x0 x1 x3 x4) n st
theorem qjw_ (n:Nat){rnd:Option Nat}(x0:W8)(x1:Int)(x3:Nat)(x4:NL)(st:List Int×Int)(o:(List Int×Int) ⊕ (List Int))(h:qbw_ n x0 x1 x3 x4 st=some o):qqw_ rnd x0 x1 x3 x4 st (Sum.elim (fun s=>(.normal,qet_ x0 x1 x3 x4 s)) (fun r=>qc9_ x0 x1 x3 x4 r) o):=by
 obtain⟨x2,x5⟩:=st
 unfold qbw_ at h
 dsimp only at h
 by_cases hy1:x5<(((x4).l.length:Nat):Int)
 ·rw[if_pos hy1] at h
  obtain⟨hy2,h⟩:=gd h
  obtain⟨hy3,h⟩:=gd h
  obtain⟨y4_,hy4,h⟩:=oB h
  obtain⟨y5_,hy5,h⟩:=oB h
  obtain⟨hy6,h⟩:=gd h
  obtain⟨hy7,h⟩:=gd h
  obtain rfl:=oI h
  exact runC2 hm (kW [0,1,5,6,7] [(0,0,true)] 1 0) (zz 5 (xdT hy1) <|
   zz 12 (xk12 (Nat.add (x4).num 64) (x4).off (x4).cap hy2) <|
   zz 13 (nk13 hy4 hy3) <|
   yy 18 (.call (qsy_ x0 x4 x5 x1 y5_ [] [])) <|
   ww (qpw_ n x0 x4 x5 x1 y5_ hy5) <|
   zz 19 (xk22 0 x3 hy6) <|
   z2 20 (stI (y5_) hy7) <|
   ww (qd_ ((x2).set (y4_).toNat y5_) 3) <|
   ee) (by kernel_rfl)
 ·rw[if_neg hy1] at h
  obtain rfl:=oI h
  exact runC2 hm (kW [5] [(0,0,true)] 1 0) (zz 5 (xdF hy1) <|
   ww (qd_ x2 3) <|
   ee) (by kernel_rfl)
theorem qn7_ (n:Nat){rnd:Option Nat}(x0:W8)(x1:Int)(x3:Nat)(x4:NL)(st:List Int×Int)(r:List Int)(h:qf8_ n x0 x1 x3 x4 st=some r):qqx_ rnd x0 x1 x3 x4 st r:=
 CG.iter (b:=qx_ P 22 [false,false,true,false,true,true,true,true]) (by kernel_rfl) (body:=qbw_ n x0 x1 x3 x4) (S:=qet_ x0 x1 x3 x4) (X:=qc9_ x0 x1 x3 x4)
  (fun s s' h=>qjw_ n x0 x1 x3 x4 s (.inl s') h)
  (fun s r h=>qjw_ n x0 x1 x3 x4 s (.inr r) h)
  (fun r=>by intro hx; cases hx) h
def qd4_ (n:Nat)(a0:W8)(a1:Int):Option (NL):=
 (qc_ n a0).bind fun c1_=>
 if c1_=0 then
  if 0≤(((a0).l.length:Nat):Int) then
   if ((((a0).l.length:Nat):Int)).toNat*8≤140737488355328 then
    (qb1_ n a0).bind fun c5_=>
    (qf8_ n a0 a1 (((((a0).l.length:Nat):Int)).toNat) c5_ ((List.replicate ((((a0).l.length:Nat):Int)).toNat (0:Int)),0)).bind fun c6_=>
    if (((((a0).l.length:Nat):Int)).toNat)=c6_.length then
     if hc8:c6_.length≤140737488355328 then
      some (frzL c6_ hc8)
     else none
    else none
   else none
  else none
 else
  none
theorem qpx_ (n:Nat)(a0:W8)(a1:Int)(r:NL)(h:qd4_ n a0 a1=some r):qsz_ a0 a1 r:=by
 unfold qd4_ at h
 obtain⟨c1_,hc1,h⟩:=oB h
 have k0:=fun {A L l} (k:PL A L l)=>yy 5 (.call (qbf_ a0 c1_ [] [])) <|
  ww (q0_ n a0 c1_ hc1) <|
  k
 by_cases hc2:c1_=0
 ·rw[if_pos hc2] at h
  obtain⟨hc3,h⟩:=gd h
  obtain⟨hc4,h⟩:=gd h
  obtain⟨c5_,hc5,h⟩:=oB h
  obtain⟨c6_,hc6,h⟩:=oB h
  obtain⟨hc7,h⟩:=gd h
  obtain⟨hc8,h⟩:=gdD h
  obtain rfl:=oI h
  have k0_:Gv P (.func 22) (qlq_ a0 a1) (qlr_ a0 a1) (Value.slice (some ⟨Nat.add (2*cod c6_+1) 64,0,some 1⟩) (((((a0).l.length:Nat):Int)).toNat) (Nat.add big (((((a0).l.length:Nat):Int)).toNat))) (qg6_ a0 a1 (frzL c6_ hc8)):=runF2 hm ⟨[4],[],0,0,[(0,Nat.add (2*cod c6_+1) 64)],true,[],[],[]⟩ (k0 <|
  zz 6 (xnF hc2) <|
  yy 11 (.mk ((((a0).l.length:Nat):Int)).toNat (iv (List.replicate ((((a0).l.length:Nat):Int)).toNat (0:Int)))) <|
  ww (p:=natOf (i6 (((a0).l.length:Nat):Int))=some ((((a0).l.length:Nat):Int)).toNat) (qgl_ hc3) <|
  ww (p:=natOf (i6 (((a0).l.length:Nat):Int))=some ((((a0).l.length:Nat):Int)).toNat) (qgl_ hc3) <|
  ww (p:=fits ((((a0).l.length:Nat):Int)).toNat 8=true) (ql8_ hc4 (by omega)) <|
  ww (p:=isZ8 [(i6 (0:Int))]=false) (rfl) <|
  ww (p:=reps [(i6 (0:Int))] ((((a0).l.length:Nat):Int)).toNat=(iv (List.replicate ((((a0).l.length:Nat):Int)).toNat (0:Int)))) (reps_iv _) <|
  yy 15 (.call (qkm_ a0 c5_ [] [])) <|
  ww (qh5_ n a0 c5_ hc5) <|
  ww (qn7_ n (rnd:=none) a0 a1 (((((a0).l.length:Nat):Int)).toNat) c5_ ((List.replicate ((((a0).l.length:Nat):Int)).toNat (0:Int)),0) c6_ hc6) <|
  ww (qd_ (List.replicate ((((a0).l.length:Nat):Int)).toNat (0:Int)) 3) <|
  ll 21 ⟨(kW [0,1,5,6,7] [(0,0,true)] 1 0),(qc9_ a0 a1 (((((a0).l.length:Nat):Int)).toNat) c5_ c6_).1,(qc9_ a0 a1 (((((a0).l.length:Nat):Int)).toNat) c5_ c6_).2⟩ <|
  ww (frz_ok qip_ qsp_ c6_) <|
  ee) (by kernel_rfl)
  have k1_:=gvLen (fn:=fun m_=>(Value.slice (some ⟨Nat.add (2*cod c6_+1) 64,0,some 1⟩) m_ (Nat.add big m_))) hc7 k0_
  exact k1_
 ·rw[if_neg hc2] at h
  cases h

def qlt_ (a0:W8)(a1 a2:Int):List Value:=[(wlV a0),(i6 a1),(i6 a2)]
def qlu_ (a0:W8)(a1 a2:Int):AH:=⟨sB [],0,0⟩
def qlv_ (a0:W8)(a1 a2:Int)(r:NL):Value:=match r with
 | o0=>(nlV o0)
def qg7_ (a0:W8)(a1 a2:Int)(r:NL):AH:=match r with
 | o0=>⟨sB [],0,0⟩
abbrev qs1_ (a0:W8)(a1 a2:Int)(r:NL):Prop:=Gv P (.func 7) (qlt_ a0 a1 a2) (qlu_ a0 a1 a2) (qlv_ a0 a1 a2 r) (qg7_ a0 a1 a2 r)
abbrev qs2_ (a0:W8)(a1 a2:Int)(r:NL)(ins outs:BL):CallA:=⟨0,ins,qlv_ a0 a1 a2 r,qg7_ a0 a1 a2 r,outs⟩
def qeu_ (x0:W8)(x1:Int)(x2:List (Bool))(x3:Nat)(x4:NL)(x5:List Int)(x6:Nat)(x7:Int)(st:Bool×Int):XSt:=match st with
 | (x8,x9)=>(sT 111 [(0,(wlV x0)),(2,(i6 x1)),(7,(sN 0 0 x3 x3)),(8,(nlV x4)),(9,(sN 1 0 x6 x6)),(10,(i6 x7)),(11,(bO x8)),(12,(i6 x9))],[],⟨sB [(0,(cB (rows rw_b x2) 4)),(1,(cB (iv x5) 3))],2,0⟩)
def qf_ (x0:W8)(x1:Int)(x2:List (Bool))(x3:Nat)(x4:NL)(x5:List Int)(x6:Nat)(x7:Int)(r:Bool):Ex×XSt:=match r with
 | z0=>(.exit 3,(sT 111 [(0,(wlV x0)),(2,(i6 x1)),(7,(sN 0 0 x3 x3)),(8,(nlV x4)),(9,(sN 1 0 x6 x6)),(10,(i6 x7)),(11,(bO z0))],[],⟨sB [(0,(cB (rows rw_b x2) 4)),(1,(cB (iv x5) 3))],2,0⟩))
abbrev qqy_ (rnd:Option Nat)(x0:W8)(x1:Int)(x2:List (Bool))(x3:Nat)(x4:NL)(x5:List Int)(x6:Nat)(x7:Int)(st:Bool×Int)(c:Ex×XSt):Prop:=CG P rnd (fnN P 7) 0 (qx_ P 7 [false,false,true,false,true,true,true,true,true,false,true,false,false,true,false,false,true,false,true,true,true,true]) (qeu_ x0 x1 x2 x3 x4 x5 x6 x7 st) c
abbrev qqz_ (rd:Option Nat)(x0:W8)(x1:Int)(x2:List (Bool))(x3:Nat)(x4:NL)(x5:List Int)(x6:Nat)(x7:Int)(st:Bool×Int)(r:Bool):Prop:=CG P rd (fnN P 7) 0 (qx_ P 7 [false,true,false,true,true,true,true,true,false,true,false,false,true,false,false,true,false,true,true,true,true]) (qeu_ x0 x1 x2 x3 x4 x5 x6 x7 st) (qf_ x0 x1 x2 x3 x4 x5 x6 x7 r)
def qbx_ (n:Nat)(x0:W8)(x1:Int)(x2:List (Bool))(x3:Nat)(x4:NL)(x5:List Int)(x6:Nat)(x7:Int)(st:Bool×Int):Option ((Bool×Int) ⊕ (Bool)):=match st with
 | (x8,x9)=>
  if 0≤x7∧x7<(((x0).l.length:Nat):Int) then
   ((some (((x0).l).getD (x7).toNat (0,0,0,0,0,0,nl0,0)))).bind fun y2_=>
   if x9<((((y2_.2.2.2.2.2.2.1)).l.length:Nat):Int) then
    if x8=true then
     if 0≤x9∧x9<((((y2_.2.2.2.2.2.2.1)).l.length:Nat):Int) then
      if (x9).toNat<(((y2_.2.2.2.2.2.2.1)).l).length then
       ((some ((((y2_.2.2.2.2.2.2.1)).l).getD (x9).toNat 0))).bind fun y7_=>
       if 0≤y7_∧y7_<((x6:Nat):Int) then
        if (y7_).toNat<(x5).length then
         ((some ((x5).getD (y7_).toNat 0))).bind fun y10_=>
         if y10_=3 then
          some (.inl (true,(w64 (x9+1))))
         else
          some (.inl (false,(w64 (x9+1))))
        else none
       else none
      else none
     else none
    else
     some (.inl (false,(w64 (x9+1))))
   else
    some (.inr x8)
  else none
def ql_ (n:Nat)(x0:W8)(x1:Int)(x2:List (Bool))(x3:Nat)(x4:NL)(x5:List Int)(x6:Nat)(x7:Int)(st:Bool×Int):Option (Bool):=iterM (qbx_ n x0 x1 x2 x3 x4 x5 x6 x7) n st
theorem qjx_ (n:Nat){rnd:Option Nat}(x0:W8)(x1:Int)(x2:List (Bool))(x3:Nat)(x4:NL)(x5:List Int)(x6:Nat)(x7:Int)(st:Bool×Int)(o:(Bool×Int) ⊕ (Bool))(h:qbx_ n x0 x1 x2 x3 x4 x5 x6 x7 st=some o):qqy_ rnd x0 x1 x2 x3 x4 x5 x6 x7 st (Sum.elim (fun s=>(.normal,qeu_ x0 x1 x2 x3 x4 x5 x6 x7 s)) (fun r=>qf_ x0 x1 x2 x3 x4 x5 x6 x7 r) o):=by
 obtain⟨x8,x9⟩:=st
 unfold qbx_ at h
 dsimp only at h
 obtain⟨hy1,h⟩:=gd h
 obtain⟨y2_,hy2,h⟩:=oB h
 have k0:=fun {A L l} (k:PL A L l)=>zz 5 (xk1 (x0).num (x0).off (x0).cap hy1) <|
  zz 6 (fk10 (x0).num (Nat.add (x0).off ((x7).toNat*8))) <|
  zz 7 (lk11 hy2 (qw_ hy1)) <|
  k
 by_cases hy3:x9<((((y2_.2.2.2.2.2.2.1)).l.length:Nat):Int)
 ·rw[if_pos hy3] at h
  have k3:=fun {A L l} (k:PL A L l)=>zz 9 (xdT hy3) <|
   k
  by_cases hy4:x8=true
  ·rw[if_pos hy4] at h
   obtain⟨hy5,h⟩:=gd h
   obtain⟨hy6,h⟩:=gd h
   obtain⟨y7_,hy7,h⟩:=oB h
   obtain⟨hy8,h⟩:=gd h
   obtain⟨hy9,h⟩:=gd h
   obtain⟨y10_,hy10,h⟩:=oB h
   have k4:=fun {A L l} (k:PL A L l)=>zz 14 (xbT hy4) <|
    zz 18 (xk1 (x0).num (x0).off (x0).cap hy1) <|
    zz 19 (fk10 (x0).num (Nat.add (x0).off ((x7).toNat*8))) <|
    zz 20 (lk11 hy2 (qw_ hy1)) <|
    zz 22 (xk12 (Nat.add ((y2_.2.2.2.2.2.2.1)).num 64) ((y2_.2.2.2.2.2.2.1)).off ((y2_.2.2.2.2.2.2.1)).cap hy5) <|
    zz 23 (nk13 hy7 hy6) <|
    zz 24 (xk22 1 x6 hy8) <|
    zz 25 (xivN hy10 hy9) <|
    k
   by_cases hy11:y10_=3
   ·rw[if_pos hy11] at h
    obtain rfl:=oI h
    exact runC2 hm (kW [0,2,7,8,9,10,11,12] [(0,0,true),(1,1,true)] 2 0) (k0 <|
     k3 <|
     k4 <|
     zz 26 (xeT hy11) <|
     ww (qb_ rwf_b x2 4) <|
     ww (qd_ x5 3) <|
     ee) (by kernel_rfl)
   ·rw[if_neg hy11] at h
    obtain rfl:=oI h
    exact runC2 hm (kW [0,2,7,8,9,10,11,12] [(0,0,true),(1,1,true)] 2 0) (k0 <|
     k3 <|
     k4 <|
     zz 26 (xeF hy11) <|
     ww (qb_ rwf_b x2 4) <|
     ww (qd_ x5 3) <|
     ee) (by kernel_rfl)
  ·rw[if_neg hy4] at h
   obtain rfl:=oI h
   exact runC2 hm (kW [0,2,7,8,9,10,11,12] [(0,0,true),(1,1,true)] 2 0) (k0 <|
    k3 <|
    zz 14 (xbF hy4) <|
    ww (qb_ rwf_b x2 4) <|
    ww (qd_ x5 3) <|
    ee) (by kernel_rfl)
 ·rw[if_neg hy3] at h
  obtain rfl:=oI h
  exact runC2 hm (kW [0,2,7,8,9,10,11] [(0,0,true),(1,1,true)] 2 0) (k0 <|
   zz 9 (xdF hy3) <|
   ww (qb_ rwf_b x2 4) <|
   ww (qd_ x5 3) <|
   ee) (by kernel_rfl)
theorem qbq_ (n:Nat){rnd:Option Nat}(x0:W8)(x1:Int)(x2:List (Bool))(x3:Nat)(x4:NL)(x5:List Int)(x6:Nat)(x7:Int)(st:Bool×Int)(r:Bool)(h:ql_ n x0 x1 x2 x3 x4 x5 x6 x7 st=some r):qqz_ rnd x0 x1 x2 x3 x4 x5 x6 x7 st r:=
 CG.iter (b:=qx_ P 7 [false,false,true,false,true,true,true,true,true,false,true,false,false,true,false,false,true,false,true,true,true,true]) (by kernel_rfl) (body:=qbx_ n x0 x1 x2 x3 x4 x5 x6 x7) (S:=qeu_ x0 x1 x2 x3 x4 x5 x6 x7) (X:=qf_ x0 x1 x2 x3 x4 x5 x6 x7)
  (fun s s' h=>qjx_ n x0 x1 x2 x3 x4 x5 x6 x7 s (.inl s') h)
  (fun s r h=>qjx_ n x0 x1 x2 x3 x4 x5 x6 x7 s (.inr r) h)
  (fun r=>by intro hx; cases hx) h
def qev_ (x0:W8)(x1:Int)(x2:List (Bool))(x3:Nat)(x4:NL)(x6:Nat)(st:List Int×Int):XSt:=match st with
 | (x5,x7)=>(sT 111 [(0,(wlV x0)),(2,(i6 x1)),(7,(sN 0 0 x3 x3)),(8,(nlV x4)),(9,(sN 1 0 x6 x6)),(10,(i6 x7))],[],⟨sB [(0,(cB (rows rw_b x2) 4)),(1,(cB (iv x5) 3))],2,0⟩)
def qda_ (x0:W8)(x1:Int)(x2:List (Bool))(x3:Nat)(x4:NL)(x6:Nat)(r:List Int):Ex×XSt:=match r with
 | z0=>(.exit 0,(sT 111 [(9,(sN 0 0 x6 x6))],[],⟨sB [(0,(cB (iv z0) 3))],1,0⟩))
abbrev qq0_ (rnd:Option Nat)(x0:W8)(x1:Int)(x2:List (Bool))(x3:Nat)(x4:NL)(x6:Nat)(st:List Int×Int)(c:Ex×XSt):Prop:=CG P rnd (fnN P 7) 0 (qx_ P 7 [false,false,true,false,true,true,true,true]) (qev_ x0 x1 x2 x3 x4 x6 st) c
abbrev qq1_ (rd:Option Nat)(x0:W8)(x1:Int)(x2:List (Bool))(x3:Nat)(x4:NL)(x6:Nat)(st:List Int×Int)(r:List Int):Prop:=CG P rd (fnN P 7) 0 (qx_ P 7 [false,true,false,true,true,true,true]) (qev_ x0 x1 x2 x3 x4 x6 st) (qda_ x0 x1 x2 x3 x4 x6 r)
def qbh_ (n:Nat)(x0:W8)(x1:Int)(x2:List (Bool))(x3:Nat)(x4:NL)(x6:Nat)(st:List Int×Int):Option ((List Int×Int) ⊕ (List Int)):=match st with
 | (x5,x7)=>
  if x7 ≥ 0 then
   if 0≤x7∧x7<((x6:Nat):Int) then
    if (x7).toNat<(x5).length then
     if 0≤x7∧x7<((x3:Nat):Int) then
      if (x7).toNat<(x2).length then
       ((some ((x2).getD (x7).toNat (false)))).bind fun y6_=>
       if y6_=true then
        if (x7).toNat<(((x5).set (x7).toNat (2:Int))).length then
         some (.inl (((((x5).set (x7).toNat (2:Int))).set (x7).toNat (1:Int)),(w64 (x7-1))))
        else none
       else
        if 0≤x7∧x7<(((x0).l.length:Nat):Int) then
         ((some (((x0).l).getD (x7).toNat (0,0,0,0,0,0,nl0,0)))).bind fun y9_=>
         if (y9_.2.1)=1 then
          if x1=(-1:Int) then
           (ql_ n x0 x1 x2 x3 x4 ((x5).set (x7).toNat (2:Int)) x6 x7 (true,0)).bind fun y12_=>
           if y12_=true then
            if (x7).toNat<(((x5).set (x7).toNat (2:Int))).length then
             some (.inl (((((x5).set (x7).toNat (2:Int))).set (x7).toNat (3:Int)),(w64 (x7-1))))
            else none
           else
            some (.inl (((x5).set (x7).toNat (2:Int)),(w64 (x7-1))))
          else
           if (y9_.2.2.2.2.2.1)≤x1 then
            (ql_ n x0 x1 x2 x3 x4 ((x5).set (x7).toNat (2:Int)) x6 x7 (true,0)).bind fun y13_=>
            if y13_=true then
             if (x7).toNat<(((x5).set (x7).toNat (2:Int))).length then
              some (.inl (((((x5).set (x7).toNat (2:Int))).set (x7).toNat (3:Int)),(w64 (x7-1))))
             else none
            else
             some (.inl (((x5).set (x7).toNat (2:Int)),(w64 (x7-1))))
           else
            (ql_ n x0 x1 x2 x3 x4 ((x5).set (x7).toNat (2:Int)) x6 x7 (false,0)).bind fun y13_=>
            if y13_=true then
             if (x7).toNat<(((x5).set (x7).toNat (2:Int))).length then
              some (.inl (((((x5).set (x7).toNat (2:Int))).set (x7).toNat (3:Int)),(w64 (x7-1))))
             else none
            else
             some (.inl (((x5).set (x7).toNat (2:Int)),(w64 (x7-1))))
         else
          if (y9_.2.1)=2 then
           if x1=(-1:Int) then
            (ql_ n x0 x1 x2 x3 x4 ((x5).set (x7).toNat (2:Int)) x6 x7 (true,0)).bind fun y13_=>
            if y13_=true then
             if (x7).toNat<(((x5).set (x7).toNat (2:Int))).length then
              some (.inl (((((x5).set (x7).toNat (2:Int))).set (x7).toNat (3:Int)),(w64 (x7-1))))
             else none
            else
             some (.inl (((x5).set (x7).toNat (2:Int)),(w64 (x7-1))))
           else
            if (y9_.2.2.2.2.2.1)≤x1 then
             (ql_ n x0 x1 x2 x3 x4 ((x5).set (x7).toNat (2:Int)) x6 x7 (true,0)).bind fun y14_=>
             if y14_=true then
              if (x7).toNat<(((x5).set (x7).toNat (2:Int))).length then
               some (.inl (((((x5).set (x7).toNat (2:Int))).set (x7).toNat (3:Int)),(w64 (x7-1))))
              else none
             else
              some (.inl (((x5).set (x7).toNat (2:Int)),(w64 (x7-1))))
            else
             (ql_ n x0 x1 x2 x3 x4 ((x5).set (x7).toNat (2:Int)) x6 x7 (false,0)).bind fun y14_=>
             if y14_=true then
              if (x7).toNat<(((x5).set (x7).toNat (2:Int))).length then
               some (.inl (((((x5).set (x7).toNat (2:Int))).set (x7).toNat (3:Int)),(w64 (x7-1))))
              else none
             else
              some (.inl (((x5).set (x7).toNat (2:Int)),(w64 (x7-1))))
          else
           if x1=(-1:Int) then
            if (x7).toNat<(((x5).set (x7).toNat (2:Int))).length then
             some (.inl (((((x5).set (x7).toNat (2:Int))).set (x7).toNat (3:Int)),(w64 (x7-1))))
            else none
           else
            if 0≤x7∧x7<(((x4).l.length:Nat):Int) then
             if (x7).toNat<((x4).l).length then
              ((some (((x4).l).getD (x7).toNat 0))).bind fun y15_=>
              if y15_≤x1 then
               if (x7).toNat<(((x5).set (x7).toNat (2:Int))).length then
                some (.inl (((((x5).set (x7).toNat (2:Int))).set (x7).toNat (3:Int)),(w64 (x7-1))))
               else none
              else
               some (.inl (((x5).set (x7).toNat (2:Int)),(w64 (x7-1))))
             else none
            else none
        else none
      else none
     else none
    else none
   else none
  else
   some (.inr x5)
def qf9_ (n:Nat)(x0:W8)(x1:Int)(x2:List (Bool))(x3:Nat)(x4:NL)(x6:Nat)(st:List Int×Int):Option (List Int):=iterM (qbh_ n x0 x1 x2 x3 x4 x6) n st
theorem qjy_ (n:Nat){rnd:Option Nat}(x0:W8)(x1:Int)(x2:List (Bool))(x3:Nat)(x4:NL)(x6:Nat)(st:List Int×Int)(o:(List Int×Int) ⊕ (List Int))(h:qbh_ n x0 x1 x2 x3 x4 x6 st=some o):qq0_ rnd x0 x1 x2 x3 x4 x6 st (Sum.elim (fun s=>(.normal,qev_ x0 x1 x2 x3 x4 x6 s)) (fun r=>qda_ x0 x1 x2 x3 x4 x6 r) o):=by
 obtain⟨x5,x7⟩:=st
 unfold qbh_ at h
 dsimp only at h
 by_cases hy1:x7 ≥ 0
 ·rw[if_pos hy1] at h
  obtain⟨hy2,h⟩:=gd h
  obtain⟨hy3,h⟩:=gd h
  obtain⟨hy4,h⟩:=gd h
  obtain⟨hy5,h⟩:=gd h
  obtain⟨y6_,hy6,h⟩:=oB h
  have k0:=fun {A L l} (k:PL A L l)=>zz 3 (xdT hy1) <|
   zz 10 (xk22 1 x6 hy2) <|
   z2 11 (stI ((2:Int)) hy3) <|
   zz 16 (xk18 0 x3 hy4) <|
   zz 17 (ok19 hy6 (hy5)) <|
   k
  by_cases hy7:y6_=true
  ·rw[if_pos hy7] at h
   obtain⟨hy8,h⟩:=gd h
   obtain rfl:=oI h
   exact runC2 hm (kW [0,2,7,8,9,10] [(0,0,true),(1,1,true)] 2 0) (k0 <|
    zz 19 (xbT hy7) <|
    zz 22 (xk22 1 x6 hy2) <|
    z2 23 (stI ((1:Int)) hy8) <|
    ww (qb_ rwf_b x2 4) <|
    ww (qd_ ((((x5).set (x7).toNat (2:Int))).set (x7).toNat (1:Int)) 3) <|
    ee) (by kernel_rfl)
  ·rw[if_neg hy7] at h
   obtain⟨hy8,h⟩:=gd h
   obtain⟨y9_,hy9,h⟩:=oB h
   have k5:=fun {A L l} (k:PL A L l)=>zz 19 (xbF hy7) <|
    zz 23 (xk1 (x0).num (x0).off (x0).cap hy8) <|
    zz 24 (fk6 (x0).num (Nat.add (x0).off ((x7).toNat*8))) <|
    zz 25 (lk7 hy9 (qw_ hy8)) <|
    k
   by_cases hy10:(y9_.2.1)=1
   ·rw[if_pos hy10] at h
    have k9:=fun {A L l} (k:PL A L l)=>zz 26 (xnF hy10) <|
     k
    by_cases hy11:x1=(-1:Int)
    ·rw[if_pos hy11] at h
     obtain⟨y12_,hy12,h⟩:=oB h
     have k10:=fun {A L l} (k:PL A L l)=>zz 39 (xeT hy11) <|
      ww (qbq_ n (rnd:=rnd) x0 x1 x2 x3 x4 ((x5).set (x7).toNat (2:Int)) x6 x7 (true,0) y12_ hy12) <|
      ww (qb_ rwf_b x2 4) <|
      ww (qd_ ((x5).set (x7).toNat (2:Int)) 3) <|
      ll 54 ⟨(kW [0,2,7,8,9,10,11,12] [(0,0,true),(1,1,true)] 2 0),(qf_ x0 x1 x2 x3 x4 ((x5).set (x7).toNat (2:Int)) x6 x7 y12_).1,(qf_ x0 x1 x2 x3 x4 ((x5).set (x7).toNat (2:Int)) x6 x7 y12_).2⟩ <|
      k
     by_cases hy13:y12_=true
     ·rw[if_pos hy13] at h
      obtain⟨hy14,h⟩:=gd h
      obtain rfl:=oI h
      exact runC2 hm (kW [0,2,7,8,9,10] [(0,0,true),(1,1,true)] 2 0) (k0 <|
       k5 <|
       k9 <|
       k10 <|
       zz 57 (xbT hy13) <|
       zz 60 (xk22 1 x6 hy2) <|
       z2 61 (stI ((3:Int)) hy14) <|
       ww (qb_ rwf_b x2 4) <|
       ww (qd_ ((((x5).set (x7).toNat (2:Int))).set (x7).toNat (3:Int)) 3) <|
       ee) (by kernel_rfl)
     ·rw[if_neg hy13] at h
      obtain rfl:=oI h
      exact runC2 hm (kW [0,2,7,8,9,10] [(0,0,true),(1,1,true)] 2 0) (k0 <|
       k5 <|
       k9 <|
       k10 <|
       zz 57 (xbF hy13) <|
       ww (qb_ rwf_b x2 4) <|
       ww (qd_ ((x5).set (x7).toNat (2:Int)) 3) <|
       ee) (by kernel_rfl)
    ·rw[if_neg hy11] at h
     have k10:=fun {A L l} (k:PL A L l)=>zz 39 (xeF hy11) <|
      zz 43 (xk1 (x0).num (x0).off (x0).cap hy8) <|
      zz 44 (fk20 (x0).num (Nat.add (x0).off ((x7).toNat*8))) <|
      zz 45 (lk21 hy9 (qw_ hy8)) <|
      k
     by_cases hy12:(y9_.2.2.2.2.2.1)≤x1
     ·rw[if_pos hy12] at h
      obtain⟨y13_,hy13,h⟩:=oB h
      have k14:=fun {A L l} (k:PL A L l)=>zz 47 (xdT hy12) <|
       ww (qbq_ n (rnd:=rnd) x0 x1 x2 x3 x4 ((x5).set (x7).toNat (2:Int)) x6 x7 (true,0) y13_ hy13) <|
       ww (qb_ rwf_b x2 4) <|
       ww (qd_ ((x5).set (x7).toNat (2:Int)) 3) <|
       ll 54 ⟨(kW [0,2,7,8,9,10,11,12] [(0,0,true),(1,1,true)] 2 0),(qf_ x0 x1 x2 x3 x4 ((x5).set (x7).toNat (2:Int)) x6 x7 y13_).1,(qf_ x0 x1 x2 x3 x4 ((x5).set (x7).toNat (2:Int)) x6 x7 y13_).2⟩ <|
       k
      by_cases hy14:y13_=true
      ·rw[if_pos hy14] at h
       obtain⟨hy15,h⟩:=gd h
       obtain rfl:=oI h
       exact runC2 hm (kW [0,2,7,8,9,10] [(0,0,true),(1,1,true)] 2 0) (k0 <|
        k5 <|
        k9 <|
        k10 <|
        k14 <|
        zz 57 (xbT hy14) <|
        zz 60 (xk22 1 x6 hy2) <|
        z2 61 (stI ((3:Int)) hy15) <|
        ww (qb_ rwf_b x2 4) <|
        ww (qd_ ((((x5).set (x7).toNat (2:Int))).set (x7).toNat (3:Int)) 3) <|
        ee) (by kernel_rfl)
      ·rw[if_neg hy14] at h
       obtain rfl:=oI h
       exact runC2 hm (kW [0,2,7,8,9,10] [(0,0,true),(1,1,true)] 2 0) (k0 <|
        k5 <|
        k9 <|
        k10 <|
        k14 <|
        zz 57 (xbF hy14) <|
        ww (qb_ rwf_b x2 4) <|
        ww (qd_ ((x5).set (x7).toNat (2:Int)) 3) <|
        ee) (by kernel_rfl)
     ·rw[if_neg hy12] at h
      obtain⟨y13_,hy13,h⟩:=oB h
      have k14:=fun {A L l} (k:PL A L l)=>zz 47 (xdF hy12) <|
       ww (qbq_ n (rnd:=rnd) x0 x1 x2 x3 x4 ((x5).set (x7).toNat (2:Int)) x6 x7 (false,0) y13_ hy13) <|
       ww (qb_ rwf_b x2 4) <|
       ww (qd_ ((x5).set (x7).toNat (2:Int)) 3) <|
       ll 54 ⟨(kW [0,2,7,8,9,10,11,12] [(0,0,true),(1,1,true)] 2 0),(qf_ x0 x1 x2 x3 x4 ((x5).set (x7).toNat (2:Int)) x6 x7 y13_).1,(qf_ x0 x1 x2 x3 x4 ((x5).set (x7).toNat (2:Int)) x6 x7 y13_).2⟩ <|
       k
      by_cases hy14:y13_=true
      ·rw[if_pos hy14] at h
       obtain⟨hy15,h⟩:=gd h
       obtain rfl:=oI h
       exact runC2 hm (kW [0,2,7,8,9,10] [(0,0,true),(1,1,true)] 2 0) (k0 <|
        k5 <|
        k9 <|
        k10 <|
        k14 <|
        zz 57 (xbT hy14) <|
        zz 60 (xk22 1 x6 hy2) <|
        z2 61 (stI ((3:Int)) hy15) <|
        ww (qb_ rwf_b x2 4) <|
        ww (qd_ ((((x5).set (x7).toNat (2:Int))).set (x7).toNat (3:Int)) 3) <|
        ee) (by kernel_rfl)
      ·rw[if_neg hy14] at h
       obtain rfl:=oI h
       exact runC2 hm (kW [0,2,7,8,9,10] [(0,0,true),(1,1,true)] 2 0) (k0 <|
        k5 <|
        k9 <|
        k10 <|
        k14 <|
        zz 57 (xbF hy14) <|
        ww (qb_ rwf_b x2 4) <|
        ww (qd_ ((x5).set (x7).toNat (2:Int)) 3) <|
        ee) (by kernel_rfl)
   ·rw[if_neg hy10] at h
    have k9:=fun {A L l} (k:PL A L l)=>zz 26 (xnT hy10) <|
     zz 30 (xk1 (x0).num (x0).off (x0).cap hy8) <|
     zz 31 (fk6 (x0).num (Nat.add (x0).off ((x7).toNat*8))) <|
     zz 32 (lk7 hy9 (qw_ hy8)) <|
     k
    by_cases hy11:(y9_.2.1)=2
    ·rw[if_pos hy11] at h
     have k13:=fun {A L l} (k:PL A L l)=>zz 33 (xnF hy11) <|
      k
     by_cases hy12:x1=(-1:Int)
     ·rw[if_pos hy12] at h
      obtain⟨y13_,hy13,h⟩:=oB h
      have k14:=fun {A L l} (k:PL A L l)=>zz 39 (xeT hy12) <|
       ww (qbq_ n (rnd:=rnd) x0 x1 x2 x3 x4 ((x5).set (x7).toNat (2:Int)) x6 x7 (true,0) y13_ hy13) <|
       ww (qb_ rwf_b x2 4) <|
       ww (qd_ ((x5).set (x7).toNat (2:Int)) 3) <|
       ll 54 ⟨(kW [0,2,7,8,9,10,11,12] [(0,0,true),(1,1,true)] 2 0),(qf_ x0 x1 x2 x3 x4 ((x5).set (x7).toNat (2:Int)) x6 x7 y13_).1,(qf_ x0 x1 x2 x3 x4 ((x5).set (x7).toNat (2:Int)) x6 x7 y13_).2⟩ <|
       k
      by_cases hy14:y13_=true
      ·rw[if_pos hy14] at h
       obtain⟨hy15,h⟩:=gd h
       obtain rfl:=oI h
       exact runC2 hm (kW [0,2,7,8,9,10] [(0,0,true),(1,1,true)] 2 0) (k0 <|
        k5 <|
        k9 <|
        k13 <|
        k14 <|
        zz 57 (xbT hy14) <|
        zz 60 (xk22 1 x6 hy2) <|
        z2 61 (stI ((3:Int)) hy15) <|
        ww (qb_ rwf_b x2 4) <|
        ww (qd_ ((((x5).set (x7).toNat (2:Int))).set (x7).toNat (3:Int)) 3) <|
        ee) (by kernel_rfl)
      ·rw[if_neg hy14] at h
       obtain rfl:=oI h
       exact runC2 hm (kW [0,2,7,8,9,10] [(0,0,true),(1,1,true)] 2 0) (k0 <|
        k5 <|
        k9 <|
        k13 <|
        k14 <|
        zz 57 (xbF hy14) <|
        ww (qb_ rwf_b x2 4) <|
        ww (qd_ ((x5).set (x7).toNat (2:Int)) 3) <|
        ee) (by kernel_rfl)
     ·rw[if_neg hy12] at h
      have k14:=fun {A L l} (k:PL A L l)=>zz 39 (xeF hy12) <|
       zz 43 (xk1 (x0).num (x0).off (x0).cap hy8) <|
       zz 44 (fk20 (x0).num (Nat.add (x0).off ((x7).toNat*8))) <|
       zz 45 (lk21 hy9 (qw_ hy8)) <|
       k
      by_cases hy13:(y9_.2.2.2.2.2.1)≤x1
      ·rw[if_pos hy13] at h
       obtain⟨y14_,hy14,h⟩:=oB h
       have k18:=fun {A L l} (k:PL A L l)=>zz 47 (xdT hy13) <|
        ww (qbq_ n (rnd:=rnd) x0 x1 x2 x3 x4 ((x5).set (x7).toNat (2:Int)) x6 x7 (true,0) y14_ hy14) <|
        ww (qb_ rwf_b x2 4) <|
        ww (qd_ ((x5).set (x7).toNat (2:Int)) 3) <|
        ll 54 ⟨(kW [0,2,7,8,9,10,11,12] [(0,0,true),(1,1,true)] 2 0),(qf_ x0 x1 x2 x3 x4 ((x5).set (x7).toNat (2:Int)) x6 x7 y14_).1,(qf_ x0 x1 x2 x3 x4 ((x5).set (x7).toNat (2:Int)) x6 x7 y14_).2⟩ <|
        k
       by_cases hy15:y14_=true
       ·rw[if_pos hy15] at h
        obtain⟨hy16,h⟩:=gd h
        obtain rfl:=oI h
        exact runC2 hm (kW [0,2,7,8,9,10] [(0,0,true),(1,1,true)] 2 0) (k0 <|
         k5 <|
         k9 <|
         k13 <|
         k14 <|
         k18 <|
         zz 57 (xbT hy15) <|
         zz 60 (xk22 1 x6 hy2) <|
         z2 61 (stI ((3:Int)) hy16) <|
         ww (qb_ rwf_b x2 4) <|
         ww (qd_ ((((x5).set (x7).toNat (2:Int))).set (x7).toNat (3:Int)) 3) <|
         ee) (by kernel_rfl)
       ·rw[if_neg hy15] at h
        obtain rfl:=oI h
        exact runC2 hm (kW [0,2,7,8,9,10] [(0,0,true),(1,1,true)] 2 0) (k0 <|
         k5 <|
         k9 <|
         k13 <|
         k14 <|
         k18 <|
         zz 57 (xbF hy15) <|
         ww (qb_ rwf_b x2 4) <|
         ww (qd_ ((x5).set (x7).toNat (2:Int)) 3) <|
         ee) (by kernel_rfl)
      ·rw[if_neg hy13] at h
       obtain⟨y14_,hy14,h⟩:=oB h
       have k18:=fun {A L l} (k:PL A L l)=>zz 47 (xdF hy13) <|
        ww (qbq_ n (rnd:=rnd) x0 x1 x2 x3 x4 ((x5).set (x7).toNat (2:Int)) x6 x7 (false,0) y14_ hy14) <|
        ww (qb_ rwf_b x2 4) <|
        ww (qd_ ((x5).set (x7).toNat (2:Int)) 3) <|
        ll 54 ⟨(kW [0,2,7,8,9,10,11,12] [(0,0,true),(1,1,true)] 2 0),(qf_ x0 x1 x2 x3 x4 ((x5).set (x7).toNat (2:Int)) x6 x7 y14_).1,(qf_ x0 x1 x2 x3 x4 ((x5).set (x7).toNat (2:Int)) x6 x7 y14_).2⟩ <|
        k
       by_cases hy15:y14_=true
       ·rw[if_pos hy15] at h
        obtain⟨hy16,h⟩:=gd h
        obtain rfl:=oI h
        exact runC2 hm (kW [0,2,7,8,9,10] [(0,0,true),(1,1,true)] 2 0) (k0 <|
         k5 <|
         k9 <|
         k13 <|
         k14 <|
         k18 <|
         zz 57 (xbT hy15) <|
         zz 60 (xk22 1 x6 hy2) <|
         z2 61 (stI ((3:Int)) hy16) <|
         ww (qb_ rwf_b x2 4) <|
         ww (qd_ ((((x5).set (x7).toNat (2:Int))).set (x7).toNat (3:Int)) 3) <|
         ee) (by kernel_rfl)
       ·rw[if_neg hy15] at h
        obtain rfl:=oI h
        exact runC2 hm (kW [0,2,7,8,9,10] [(0,0,true),(1,1,true)] 2 0) (k0 <|
         k5 <|
         k9 <|
         k13 <|
         k14 <|
         k18 <|
         zz 57 (xbF hy15) <|
         ww (qb_ rwf_b x2 4) <|
         ww (qd_ ((x5).set (x7).toNat (2:Int)) 3) <|
         ee) (by kernel_rfl)
    ·rw[if_neg hy11] at h
     have k13:=fun {A L l} (k:PL A L l)=>zz 33 (xnT hy11) <|
      k
     by_cases hy12:x1=(-1:Int)
     ·rw[if_pos hy12] at h
      obtain⟨hy13,h⟩:=gd h
      obtain rfl:=oI h
      exact runC2 hm (kW [0,2,7,8,9,10] [(0,0,true),(1,1,true)] 2 0) (k0 <|
       k5 <|
       k9 <|
       k13 <|
       zz 39 (xeT hy12) <|
       zz 51 (xk22 1 x6 hy2) <|
       z2 52 (stI ((3:Int)) hy13) <|
       ww (qb_ rwf_b x2 4) <|
       ww (qd_ ((((x5).set (x7).toNat (2:Int))).set (x7).toNat (3:Int)) 3) <|
       ee) (by kernel_rfl)
     ·rw[if_neg hy12] at h
      obtain⟨hy13,h⟩:=gd h
      obtain⟨hy14,h⟩:=gd h
      obtain⟨y15_,hy15,h⟩:=oB h
      have k14:=fun {A L l} (k:PL A L l)=>zz 39 (xeF hy12) <|
       zz 43 (xk12 (Nat.add (x4).num 64) (x4).off (x4).cap hy13) <|
       zz 44 (nk13 hy15 hy14) <|
       k
      by_cases hy16:y15_≤x1
      ·rw[if_pos hy16] at h
       obtain⟨hy17,h⟩:=gd h
       obtain rfl:=oI h
       exact runC2 hm (kW [0,2,7,8,9,10] [(0,0,true),(1,1,true)] 2 0) (k0 <|
        k5 <|
        k9 <|
        k13 <|
        k14 <|
        zz 46 (xdT hy16) <|
        zz 51 (xk22 1 x6 hy2) <|
        z2 52 (stI ((3:Int)) hy17) <|
        ww (qb_ rwf_b x2 4) <|
        ww (qd_ ((((x5).set (x7).toNat (2:Int))).set (x7).toNat (3:Int)) 3) <|
        ee) (by kernel_rfl)
      ·rw[if_neg hy16] at h
       obtain rfl:=oI h
       exact runC2 hm (kW [0,2,7,8,9,10] [(0,0,true),(1,1,true)] 2 0) (k0 <|
        k5 <|
        k9 <|
        k13 <|
        k14 <|
        zz 46 (xdF hy16) <|
        ww (qb_ rwf_b x2 4) <|
        ww (qd_ ((x5).set (x7).toNat (2:Int)) 3) <|
        ee) (by kernel_rfl)
 ·rw[if_neg hy1] at h
  obtain rfl:=oI h
  exact runC2 hm (kW [9] [(0,1,true)] 1 0) (zz 3 (xdF hy1) <|
   ww (qd_ x5 3) <|
   ee) (by kernel_rfl)
theorem qn8_ (n:Nat){rnd:Option Nat}(x0:W8)(x1:Int)(x2:List (Bool))(x3:Nat)(x4:NL)(x6:Nat)(st:List Int×Int)(r:List Int)(h:qf9_ n x0 x1 x2 x3 x4 x6 st=some r):qq1_ rnd x0 x1 x2 x3 x4 x6 st r:=
 CG.iter (b:=qx_ P 7 [false,false,true,false,true,true,true,true]) (by kernel_rfl) (body:=qbh_ n x0 x1 x2 x3 x4 x6) (S:=qev_ x0 x1 x2 x3 x4 x6) (X:=qda_ x0 x1 x2 x3 x4 x6)
  (fun s s' h=>qjy_ n x0 x1 x2 x3 x4 x6 s (.inl s') h)
  (fun s r h=>qjy_ n x0 x1 x2 x3 x4 x6 s (.inr r) h)
  (fun r=>by intro hx; cases hx) h
def qct_ (n:Nat)(a0:W8)(a1 a2:Int):Option (NL):=
 (qc_ n a0).bind fun c1_=>
 if c1_=0 then
  (qd2_ n a0).bind fun c3_=>
  (qd4_ n a0 a1).bind fun c4_=>
  if 0≤(((a0).l.length:Nat):Int) then
   if ((((a0).l.length:Nat):Int)).toNat*8≤140737488355328 then
    ((some (w64 ((((a0).l.length:Nat):Int)-1)))).bind fun c7_=>
    (qf9_ n a0 a2 c3_ (((((a0).l.length:Nat):Int)).toNat) c4_ (((((a0).l.length:Nat):Int)).toNat) ((List.replicate ((((a0).l.length:Nat):Int)).toNat (0:Int)),c7_)).bind fun c8_=>
    if (((((a0).l.length:Nat):Int)).toNat)=c8_.length then
     if hc10:c8_.length≤140737488355328 then
      some (frzL c8_ hc10)
     else none
    else none
   else none
  else none
 else
  none
theorem qpy_ (n:Nat)(a0:W8)(a1 a2:Int)(r:NL)(h:qct_ n a0 a1 a2=some r):qs1_ a0 a1 a2 r:=by
 unfold qct_ at h
 obtain⟨c1_,hc1,h⟩:=oB h
 have k0:=fun {A L l} (k:PL A L l)=>yy 5 (.call (qbf_ a0 c1_ [] [])) <|
  ww (q0_ n a0 c1_ hc1) <|
  k
 by_cases hc2:c1_=0
 ·rw[if_pos hc2] at h
  obtain⟨c3_,hc3,h⟩:=oB h
  obtain⟨c4_,hc4,h⟩:=oB h
  obtain⟨hc5,h⟩:=gd h
  obtain⟨hc6,h⟩:=gd h
  obtain⟨c7_,hc7,h⟩:=oB h
  obtain⟨c8_,hc8,h⟩:=oB h
  obtain⟨hc9,h⟩:=gd h
  obtain⟨hc10,h⟩:=gdD h
  obtain rfl:=oI h
  have k0_:Gv P (.func 7) (qlt_ a0 a1 a2) (qlu_ a0 a1 a2) (Value.slice (some ⟨Nat.add (2*cod c8_+1) 64,0,some 1⟩) (((((a0).l.length:Nat):Int)).toNat) (Nat.add big (((((a0).l.length:Nat):Int)).toNat))) (qg7_ a0 a1 a2 (frzL c8_ hc10)):=runF2 hm ⟨[6],[],0,0,[(0,Nat.add (2*cod c8_+1) 64)],true,[],[],[]⟩ (k0 <|
  zz 6 (xnF hc2) <|
  yy 10 (.call (qsw_ a0 c3_ [] [(0,0,true)])) <|
  ww (qpt_ n a0 c3_ hc3) <|
  ww (qb_ rwf_b c3_ 4) <|
  yy 13 (.call (qs0_ a0 a1 c4_ [] [])) <|
  ww (qpx_ n a0 a1 c4_ hc4) <|
  yy 19 (.mk ((((a0).l.length:Nat):Int)).toNat (iv (List.replicate ((((a0).l.length:Nat):Int)).toNat (0:Int)))) <|
  ww (p:=natOf (i6 (((a0).l.length:Nat):Int))=some ((((a0).l.length:Nat):Int)).toNat) (qgl_ hc5) <|
  ww (p:=natOf (i6 (((a0).l.length:Nat):Int))=some ((((a0).l.length:Nat):Int)).toNat) (qgl_ hc5) <|
  ww (p:=fits ((((a0).l.length:Nat):Int)).toNat 8=true) (ql8_ hc6 (by omega)) <|
  ww (p:=isZ8 [(i6 (0:Int))]=false) (rfl) <|
  ww (p:=reps [(i6 (0:Int))] ((((a0).l.length:Nat):Int)).toNat=(iv (List.replicate ((((a0).l.length:Nat):Int)).toNat (0:Int)))) (reps_iv _) <|
  zz 25 (xnm hc7) <|
  ww (qn8_ n (rnd:=none) a0 a2 c3_ (((((a0).l.length:Nat):Int)).toNat) c4_ (((((a0).l.length:Nat):Int)).toNat) ((List.replicate ((((a0).l.length:Nat):Int)).toNat (0:Int)),c7_) c8_ hc8) <|
  ww (qb_ rwf_b c3_ 4) <|
  ww (qd_ (List.replicate ((((a0).l.length:Nat):Int)).toNat (0:Int)) 3) <|
  ll 28 ⟨(kW [0,2,7,8,9,10] [(0,0,true),(1,1,true)] 2 0),(qda_ a0 a2 c3_ (((((a0).l.length:Nat):Int)).toNat) c4_ (((((a0).l.length:Nat):Int)).toNat) c8_).1,(qda_ a0 a2 c3_ (((((a0).l.length:Nat):Int)).toNat) c4_ (((((a0).l.length:Nat):Int)).toNat) c8_).2⟩ <|
  ww (frz_ok qip_ qsp_ c8_) <|
  ee) (by kernel_rfl)
  have k1_:=gvLen (fn:=fun m_=>(Value.slice (some ⟨Nat.add (2*cod c8_+1) 64,0,some 1⟩) m_ (Nat.add big m_))) hc9 k0_
  exact k1_
 ·rw[if_neg hc2] at h
  cases h

def qow_ (a0 a1 r:Int):Value:=match r with
 | o0=>(i6 o0)
def qox_ (a0 a1 r:Int):AH:=match r with
 | o0=>⟨sB [],0,0⟩
abbrev qvy_ (a0 a1 r:Int):Prop:=Gv P (.func 8) [(i6 a0),(i6 a1)] ⟨sB [],0,0⟩ (qow_ a0 a1 r) (qox_ a0 a1 r)
abbrev qvz_ (a0 a1 r:Int)(ins outs:BL):CallA:=⟨0,ins,qow_ a0 a1 r,qox_ a0 a1 r,outs⟩
def qfi_ (n:Nat)(a0 a1:Int):Option (Int):=
 if a1<1 then
  some 0
 else
  if ¬ (a1=0) then
   if (Int.tmod a0 a1)<0 then
    some (w64 ((Int.tmod a0 a1)+a1))
   else
    some (Int.tmod a0 a1)
  else none
theorem qs3_ (n:Nat)(a0 a1 r:Int)(h:qfi_ n a0 a1=some r):qvy_ a0 a1 r:=by
 unfold qfi_ at h
 by_cases hc1:a1<1
 ·rw[if_pos hc1] at h
  obtain rfl:=oI h
  exact runF2 hm (kW [4] [] 0 0) (zz 5 (xdT hc1) <|
   ee) (by kernel_rfl)
 ·rw[if_neg hc1] at h
  obtain⟨hc2,h⟩:=gd h
  have k0:=fun {A L l} (k:PL A L l)=>zz 5 (xdF hc1) <|
   yy 10 (.pur (i6 (Int.tmod a0 a1))) <|
   ww (p:=opBin P .rem 3 (.tmp 8) (.tmp 9) (i6 a0) (i6 a1) Ax.h0=some ((i6 (Int.tmod a0 a1)),Ax.h0)) (remI hc2) <|
   k
  by_cases hc3:(Int.tmod a0 a1)<0
  ·rw[if_pos hc3] at h
   obtain rfl:=oI h
   exact runF2 hm (kW [4] [] 0 0) (k0 <|
    zz 15 (xdT hc3) <|
    ee) (by kernel_rfl)
  ·rw[if_neg hc3] at h
   obtain rfl:=oI h
   exact runF2 hm (kW [4] [] 0 0) (k0 <|
    zz 15 (xdF hc3) <|
    ee) (by kernel_rfl)

def qug_ (a0:W8)(r:Bool):Value:=match r with
 | o0=>(bO o0)
def quh_ (a0:W8)(r:Bool):AH:=match r with
 | o0=>⟨sB [],0,0⟩
abbrev qz2_ (a0:W8)(r:Bool):Prop:=Gv P (.func 43) [(wlV a0)] ⟨sB [],0,0⟩ (qug_ a0 r) (quh_ a0 r)
abbrev qz3_ (a0:W8)(r:Bool)(ins outs:BL):CallA:=⟨0,ins,qug_ a0 r,quh_ a0 r,outs⟩
def qiq_ (x0:W8)(x3:Int)(st:List (Int×Int×Int)×Nat×Int):XSt:=match st with
 | (x1,x2,x4)=>(sT 99 [(0,(wlV x0)),(3,(slQ x1 0 x2 3)),(8,(wlV x0)),(9,(i6 x3)),(10,(i6 x4))],[],⟨sB [(0,(nblkR qh2_ x1 145))],1,0⟩)
def qcq_ (x0:W8)(x3:Int)(r:(Unit) ⊕ (List (Int×Int×Int)×Nat)):Ex×XSt:=match r with
 | .inl _=>(.ret,(sT 99 [(2,(bO false))],[],⟨sB [],0,0⟩))
 | .inr (z0,z1)=>(.exit 0,(sT 99 [(3,(slQ z0 0 z1 3))],[],⟨sB [(0,(nblkR qh2_ z0 145))],1,0⟩))
abbrev qxo_ (rnd:Option Nat)(x0:W8)(x3:Int)(st:List (Int×Int×Int)×Nat×Int)(c:Ex×XSt):Prop:=CG P rnd (fnN P 43) 0 (qx_ P 43 [false,false,true,false,true,true]) (qiq_ x0 x3 st) c
abbrev qxp_ (rd:Option Nat)(x0:W8)(x3:Int)(st:List (Int×Int×Int)×Nat×Int)(r:(Unit) ⊕ (List (Int×Int×Int)×Nat)):Prop:=CG P rd (fnN P 43) 0 (qx_ P 43 [false,true,false,true,true]) (qiq_ x0 x3 st) (qcq_ x0 x3 r)
def qr_ (n:Nat)(x0:W8)(x3:Int)(st:List (Int×Int×Int)×Nat×Int):Option ((List (Int×Int×Int)×Nat×Int) ⊕ ((Unit) ⊕ (List (Int×Int×Int)×Nat))):=match st with
 | (x1,x2,x4)=>
  match x1 with
  | []=>
   if x4<x3 then
    if 0≤x4∧x4<(((x0).l.length:Nat):Int) then
     ((some (((x0).l).getD (x4).toNat (0,0,0,0,0,0,nl0,0)))).bind fun y3_=>
     if x4 > 0 then
      some (.inr (.inl ()))
     else
      if ((((y3_.2.2.2.2.2.2.1)).l.length:Nat):Int) > 0 then
       some (.inl ([(x4,(0:Int),(y3_.2.2.1))],1,(w64 (x4+1))))
      else
       some (.inl (([]:List (Int×Int×Int)),0,(w64 (x4+1))))
    else none
   else
    some (.inr (.inr (([]:List (Int×Int×Int)),0)))
  | x1a::x1t=>
   if x4<x3 then
    if 0≤x4∧x4<(((x0).l.length:Nat):Int) then
     ((some (((x0).l).getD (x4).toNat (0,0,0,0,0,0,nl0,0)))).bind fun y3_=>
     if x4 > 0 then
      if ((x2:Nat):Int)=0 then
       some (.inr (.inl ()))
      else
       ((some (w64 (((x2:Nat):Int)-1)))).bind fun y6_=>
       if 0≤y6_∧y6_<((x2:Nat):Int) then
        if (y6_).toNat<((x1a::x1t)).length then
         ((some (((x1a::x1t)).getD (y6_).toNat (0,0,0)))).bind fun y9_=>
         if 0≤(y9_.1)∧(y9_.1)<(((x0).l.length:Nat):Int) then
          ((some (((x0).l).getD ((y9_.1)).toNat (0,0,0,0,0,0,nl0,0)))).bind fun y11_=>
          if 0≤(y9_.2.1)∧(y9_.2.1)<((((y11_.2.2.2.2.2.2.1)).l.length:Nat):Int) then
           if ((y9_.2.1)).toNat<(((y11_.2.2.2.2.2.2.1)).l).length then
            ((some ((((y11_.2.2.2.2.2.2.1)).l).getD ((y9_.2.1)).toNat 0))).bind fun y14_=>
            if y14_=x4 then
             if (y3_.2.2.1)<(y9_.2.2) then
              some (.inr (.inl ()))
             else
              if (y3_.2.2.2.2.1) > (y11_.2.2.2.2.1) then
               some (.inr (.inl ()))
              else
               if (w64 ((y9_.2.1)+1))=((((y11_.2.2.2.2.2.2.1)).l.length:Nat):Int) then
                if 0≤y6_∧y6_≤((x2:Nat):Int) then
                 if ((((y3_.2.2.2.2.2.2.1)).l.length:Nat):Int) > 0 then
                  if (y6_).toNat≤((((x1a::x1t)).set (y6_).toNat ((y9_.1),(w64 ((y9_.2.1)+1)),(y3_.2.2.2.2.1)))).length then
                   if ((y6_).toNat+1)*24≤140737488355328 then
                    some (.inl (((List.take (y6_).toNat (((x1a::x1t)).set (y6_).toNat ((y9_.1),(w64 ((y9_.2.1)+1)),(y3_.2.2.2.2.1)))) ++ [(x4,(0:Int),(y3_.2.2.1))]),((((List.take (y6_).toNat (((x1a::x1t)).set (y6_).toNat ((y9_.1),(w64 ((y9_.2.1)+1)),(y3_.2.2.2.2.1)))) ++ [(x4,(0:Int),(y3_.2.2.1))])).length),(w64 (x4+1))))
                   else none
                  else none
                 else
                  some (.inl ((((x1a::x1t)).set (y6_).toNat ((y9_.1),(w64 ((y9_.2.1)+1)),(y3_.2.2.2.2.1))),((y6_).toNat),(w64 (x4+1))))
                else none
               else
                if ((((y3_.2.2.2.2.2.2.1)).l.length:Nat):Int) > 0 then
                 if x2≤((((x1a::x1t)).set (y6_).toNat ((y9_.1),(w64 ((y9_.2.1)+1)),(y3_.2.2.2.2.1)))).length then
                  if (x2+1)*24≤140737488355328 then
                   some (.inl (((List.take x2 (((x1a::x1t)).set (y6_).toNat ((y9_.1),(w64 ((y9_.2.1)+1)),(y3_.2.2.2.2.1)))) ++ [(x4,(0:Int),(y3_.2.2.1))]),((((List.take x2 (((x1a::x1t)).set (y6_).toNat ((y9_.1),(w64 ((y9_.2.1)+1)),(y3_.2.2.2.2.1)))) ++ [(x4,(0:Int),(y3_.2.2.1))])).length),(w64 (x4+1))))
                  else none
                 else none
                else
                 some (.inl ((((x1a::x1t)).set (y6_).toNat ((y9_.1),(w64 ((y9_.2.1)+1)),(y3_.2.2.2.2.1))),x2,(w64 (x4+1))))
            else
             some (.inr (.inl ()))
           else none
          else none
         else none
        else none
       else none
     else
      if ((((y3_.2.2.2.2.2.2.1)).l.length:Nat):Int) > 0 then
       if x2≤((x1a::x1t)).length then
        if (x2+1)*24≤140737488355328 then
         some (.inl (((List.take x2 (x1a::x1t)) ++ [(x4,(0:Int),(y3_.2.2.1))]),((((List.take x2 (x1a::x1t)) ++ [(x4,(0:Int),(y3_.2.2.1))])).length),(w64 (x4+1))))
        else none
       else none
      else
       some (.inl ((x1a::x1t),x2,(w64 (x4+1))))
    else none
   else
    some (.inr (.inr ((x1a::x1t),x2)))
def qir_ (n:Nat)(x0:W8)(x3:Int)(st:List (Int×Int×Int)×Nat×Int):Option ((Unit) ⊕ (List (Int×Int×Int)×Nat)):=iterM (qr_ n x0 x3) n st
theorem qrm_ (n:Nat){rnd:Option Nat}(x0:W8)(x3:Int)(st:List (Int×Int×Int)×Nat×Int)(o:(List (Int×Int×Int)×Nat×Int) ⊕ ((Unit) ⊕ (List (Int×Int×Int)×Nat)))(h:qr_ n x0 x3 st=some o):qxo_ rnd x0 x3 st (Sum.elim (fun s=>(.normal,qiq_ x0 x3 s)) (fun r=>qcq_ x0 x3 r) o):=by
 obtain⟨x1,x2,x4⟩:=st
 unfold qr_ at h
 dsimp only at h
 cases x1 with
 | nil=>
  dsimp only at h
  by_cases hy1:x4<x3
  ·rw[if_pos hy1] at h
   obtain⟨hy2,h⟩:=gd h
   obtain⟨y3_,hy3,h⟩:=oB h
   have k0:=fun {A L l} (k:PL A L l)=>zz 1 (xdT hy1) <|
    zz 8 (xk1 (x0).num (x0).off (x0).cap hy2) <|
    zz 9 (lk2 hy3 (qw_ hy2)) <|
    k
   by_cases hy4:x4 > 0
   ·rw[if_pos hy4] at h
    obtain rfl:=oI h
    exact runC2 hm (kW [2] [] 0 0) (k0 <|
     zz 16 (xdT hy4) <|
     ee) (by kernel_rfl)
   ·rw[if_neg hy4] at h
    have k3:=fun {A L l} (k:PL A L l)=>zz 16 (xdF hy4) <|
     k
    by_cases hy5:((((y3_.2.2.2.2.2.2.1)).l.length:Nat):Int) > 0
    ·rw[if_pos hy5] at h
     obtain rfl:=oI h
     exact runC2 hm (kW [0,3,8,9,10] [(0,3,false)] 1 0) (k0 <|
      k3 <|
      zz 22 (xdT hy5) <|
      ee) (by kernel_rfl)
    ·rw[if_neg hy5] at h
     obtain rfl:=oI h
     exact runC2 hm (kW [0,3,8,9,10] [] 1 0) (k0 <|
      k3 <|
      zz 22 (xdF hy5) <|
      ee) (by kernel_rfl)
  ·rw[if_neg hy1] at h
   obtain rfl:=oI h
   exact runC2 hm (kW [3] [] 1 0) (zz 1 (xdF hy1) <|
    ee) (by kernel_rfl)
 | cons x1a x1t=>
  dsimp only at h
  by_cases hy1:x4<x3
  ·rw[if_pos hy1] at h
   obtain⟨hy2,h⟩:=gd h
   obtain⟨y3_,hy3,h⟩:=oB h
   have k0:=fun {A L l} (k:PL A L l)=>zz 1 (xdT hy1) <|
    zz 8 (xk1 (x0).num (x0).off (x0).cap hy2) <|
    zz 9 (lk2 hy3 (qw_ hy2)) <|
    k
   by_cases hy4:x4 > 0
   ·rw[if_pos hy4] at h
    have k3:=fun {A L l} (k:PL A L l)=>zz 16 (xdT hy4) <|
     k
    by_cases hy5:((x2:Nat):Int)=0
    ·rw[if_pos hy5] at h
     obtain rfl:=oI h
     exact runC2 hm (kW [2] [] 0 0) (k0 <|
      k3 <|
      zz 22 (xeT hy5) <|
      ee) (by kernel_rfl)
    ·rw[if_neg hy5] at h
     obtain⟨y6_,hy6,h⟩:=oB h
     obtain⟨hy7,h⟩:=gd h
     obtain⟨hy8,h⟩:=gd h
     obtain⟨y9_,hy9,h⟩:=oB h
     obtain⟨hy10,h⟩:=gd h
     obtain⟨y11_,hy11,h⟩:=oB h
     obtain⟨hy12,h⟩:=gd h
     obtain⟨hy13,h⟩:=gd h
     obtain⟨y14_,hy14,h⟩:=oB h
     have k4:=fun {A L l} (k:PL A L l)=>zz 22 (xeF hy5) <|
      zz 28 (xnm hy6) <|
      zz 29 (xk23 0 U3 hy7) <|
      zz 36 (ok24 hy9 (hy8)) <|
      zz 37 (xk1 (x0).num (x0).off (x0).cap hy10) <|
      zz 38 (lk2 hy11 (qw_ hy10)) <|
      zz 48 (ok25 hy9 (hy8)) <|
      zz 49 (xk12 (Nat.add ((y11_.2.2.2.2.2.2.1)).num 64) ((y11_.2.2.2.2.2.2.1)).off ((y11_.2.2.2.2.2.2.1)).cap hy12) <|
      zz 50 (nk13 hy14 hy13) <|
      k
     by_cases hy15:y14_=x4
     ·rw[if_pos hy15] at h
      have k13:=fun {A L l} (k:PL A L l)=>zz 52 (xnF hy15) <|
       zz 59 (ok26 hy9 (hy8)) <|
       k
      by_cases hy16:(y3_.2.2.1)<(y9_.2.2)
      ·rw[if_pos hy16] at h
       obtain rfl:=oI h
       exact runC2 hm (kW [2] [] 0 0) (k0 <|
        k3 <|
        k4 <|
        k13 <|
        zz 60 (xdT hy16) <|
        ee) (by kernel_rfl)
      ·rw[if_neg hy16] at h
       have k15:=fun {A L l} (k:PL A L l)=>zz 60 (xdF hy16) <|
        k
       by_cases hy17:(y3_.2.2.2.2.1) > (y11_.2.2.2.2.1)
       ·rw[if_pos hy17] at h
        obtain rfl:=oI h
        exact runC2 hm (kW [2] [] 0 0) (k0 <|
         k3 <|
         k4 <|
         k13 <|
         k15 <|
         zz 67 (xdT hy17) <|
         ee) (by kernel_rfl)
       ·rw[if_neg hy17] at h
        have k16:=fun {A L l} (k:PL A L l)=>zz 67 (xdF hy17) <|
         zz 76 (ok25 hy9 (hy8)) <|
         z2 82 (ste (k:=1) (rows_stN qjq_ (0,0,0) (hr:=hy9) (i:=(y6_).toNat) (j:=1) (l:=[(i6 (w64 ((y9_.2.1)+1)))]) ((y9_.1),(w64 ((y9_.2.1)+1)),(y9_.2.2)) (Nat.add ((y6_).toNat*3) 1) rfl (hy8) (Nat.le_of_ble_eq_true rfl) rfl)) <|
         z2 85 (ste (k:=1) (rows_stS qjq_ (i:=(y6_).toNat) (j:=2) (l:=[(i6 (y3_.2.2.2.2.1))]) ((y9_.1),(w64 ((y9_.2.1)+1)),(y9_.2.2)) ((y9_.1),(w64 ((y9_.2.1)+1)),(y3_.2.2.2.2.1)) (Nat.add ((y6_).toNat*3) 2) rfl (hy8) (Nat.le_of_ble_eq_true rfl) rfl)) <|
         yy 90 (.ld (i6 (w64 ((y9_.2.1)+1)))) <|
         ww (p:=(layT (rows qh2_ (((x1a::x1t)).set (y6_).toNat ((y9_.1),(w64 ((y9_.2.1)+1)),(y3_.2.2.2.2.1))))).get (Nat.add ((y6_).toNat*3) 1)=some (i6 (w64 ((y9_.2.1)+1)))) (rows_ldS qjq_ (i:=(y6_).toNat) (j:=1) ((y9_.1),(w64 ((y9_.2.1)+1)),(y3_.2.2.2.2.1)) (Nat.add ((y6_).toNat*3) 1) rfl (hy8) (by decide) rfl) <|
         k
        by_cases hy18:(w64 ((y9_.2.1)+1))=((((y11_.2.2.2.2.2.2.1)).l.length:Nat):Int)
        ·rw[if_pos hy18] at h
         obtain⟨hy19,h⟩:=gd h
         have k22:=fun {A L l} (k:PL A L l)=>zz 94 (xeT hy18) <|
          zz 99 (xnm hy6) <|
          yy 100 (.pur (sN 0 0 (y6_).toNat (Nat.add big 3))) <|
          ww (p:=qki_ P 142 (sN 0 0 x2 (Nat.add big 3)) none (some (i6 y6_)) none Ax.h0=some ((sN 0 0 (y6_).toNat (Nat.add big 3)),Ax.h0)) (slRowHi (e:=145) (es:=3) (by kernel_rfl) (by kernel_rfl) rfl rfl hy19) <|
          k
         by_cases hy20:((((y3_.2.2.2.2.2.2.1)).l.length:Nat):Int) > 0
         ·rw[if_pos hy20] at h
          obtain⟨hy21,h⟩:=gd h
          obtain⟨hy22,h⟩:=gd h
          obtain rfl:=oI h
          obtain⟨za,zt,hz⟩:∃ a t,((List.take (y6_).toNat (((x1a::x1t)).set (y6_).toNat ((y9_.1),(w64 ((y9_.2.1)+1)),(y3_.2.2.2.2.1)))) ++ [(x4,(0:Int),(y3_.2.2.1))])=a::t:=qvx_ (List.take (y6_).toNat (((x1a::x1t)).set (y6_).toNat ((y9_.1),(w64 ((y9_.2.1)+1)),(y3_.2.2.2.2.1)))) (x4,(0:Int),(y3_.2.2.1))
          rw[hz]
          try rw[hz] at k0
          try rw[hz] at k3
          try rw[hz] at k4
          try rw[hz] at k13
          try rw[hz] at k15
          try rw[hz] at k16
          try rw[hz] at k22
          exact runC2 hm (kW [0,3,8,9,10] [(0,4,true)] 1 0) (k0 <|
           k3 <|
           k4 <|
           k13 <|
           k15 <|
           k16 <|
           k22 <|
           zz 106 (xdT hy20) <|
           yy 114 (.app ⟨none,rows qh2_ (List.take (y6_).toNat (((x1a::x1t)).set (y6_).toNat ((y9_.1),(w64 ((y9_.2.1)+1)),(y3_.2.2.2.2.1)))),(rows qh2_ (za::zt)),((za::zt)).length,false⟩) <|
           ww (p:=0<1) ((by decide)) <|
           ww (p:=rdT (layT (rows qh2_ (((x1a::x1t)).set (y6_).toNat ((y9_.1),(w64 ((y9_.2.1)+1)),(y3_.2.2.2.2.1))))) (Nat.mul (y6_).toNat 3) 0=some (rows qh2_ (List.take (y6_).toNat (((x1a::x1t)).set (y6_).toNat ((y9_.1),(w64 ((y9_.2.1)+1)),(y3_.2.2.2.2.1)))))) (qpp_ qjq_ _ _ hy21) <|
           ww (p:=fits (Nat.add (y6_).toNat 1) 24=true) (ql8_ hy22 (by have:=hy22; show (_:Nat)+_≤_; omega)) <|
           ww (p:=qbn_ [(i6 x4),(i6 (0:Int)),(i6 (y3_.2.2.1))]=true) (rfl) <|
           ww (p:=qbn_ (rows qh2_ (List.take (y6_).toNat (((x1a::x1t)).set (y6_).toNat ((y9_.1),(w64 ((y9_.2.1)+1)),(y3_.2.2.2.2.1)))))=true) (qlg_ qjq_ _) <|
           ww (p:=rows qh2_ (List.take (y6_).toNat (((x1a::x1t)).set (y6_).toNat ((y9_.1),(w64 ((y9_.2.1)+1)),(y3_.2.2.2.2.1)))) ++ [(i6 x4),(i6 (0:Int)),(i6 (y3_.2.2.1))]=(rows qh2_ (za::zt))) (by rw[←hz]; exact (qu9_ qh2_ (List.take (y6_).toNat (((x1a::x1t)).set (y6_).toNat ((y9_.1),(w64 ((y9_.2.1)+1)),(y3_.2.2.2.2.1)))) [(x4,(0:Int),(y3_.2.2.1))])) <|
           ww (p:=Nat.add (y6_).toNat 1=((za::zt)).length) (by rw[←hz]; exact (qzl_ hy21 rfl)) <|
           ww (qb_ qjq_ (za::zt) 145) <|
           ee) (by kernel_rfl)
         ·rw[if_neg hy20] at h
          obtain rfl:=oI h
          obtain⟨za,zt,hz⟩:∃ a t,(((x1a::x1t)).set (y6_).toNat ((y9_.1),(w64 ((y9_.2.1)+1)),(y3_.2.2.2.2.1)))=a::t:=set_cons
          rw[hz]
          try rw[hz] at k0
          try rw[hz] at k3
          try rw[hz] at k4
          try rw[hz] at k13
          try rw[hz] at k15
          try rw[hz] at k16
          try rw[hz] at k22
          exact runC2 hm (kW [0,3,8,9,10] [(0,0,true)] 1 0) (k0 <|
           k3 <|
           k4 <|
           k13 <|
           k15 <|
           k16 <|
           k22 <|
           zz 106 (xdF hy20) <|
           ww (qb_ qjq_ (za::zt) 145) <|
           ee) (by kernel_rfl)
        ·rw[if_neg hy18] at h
         have k22:=fun {A L l} (k:PL A L l)=>zz 94 (xeF hy18) <|
          k
         by_cases hy19:((((y3_.2.2.2.2.2.2.1)).l.length:Nat):Int) > 0
         ·rw[if_pos hy19] at h
          obtain⟨hy20,h⟩:=gd h
          obtain⟨hy21,h⟩:=gd h
          obtain rfl:=oI h
          obtain⟨za,zt,hz⟩:∃ a t,((List.take x2 (((x1a::x1t)).set (y6_).toNat ((y9_.1),(w64 ((y9_.2.1)+1)),(y3_.2.2.2.2.1)))) ++ [(x4,(0:Int),(y3_.2.2.1))])=a::t:=qvx_ (List.take x2 (((x1a::x1t)).set (y6_).toNat ((y9_.1),(w64 ((y9_.2.1)+1)),(y3_.2.2.2.2.1)))) (x4,(0:Int),(y3_.2.2.1))
          rw[hz]
          try rw[hz] at k0
          try rw[hz] at k3
          try rw[hz] at k4
          try rw[hz] at k13
          try rw[hz] at k15
          try rw[hz] at k16
          try rw[hz] at k22
          exact runC2 hm (kW [0,3,8,9,10] [(0,4,true)] 1 0) (k0 <|
           k3 <|
           k4 <|
           k13 <|
           k15 <|
           k16 <|
           k22 <|
           zz 100 (xdT hy19) <|
           yy 108 (.app ⟨none,rows qh2_ (List.take x2 (((x1a::x1t)).set (y6_).toNat ((y9_.1),(w64 ((y9_.2.1)+1)),(y3_.2.2.2.2.1)))),(rows qh2_ (za::zt)),((za::zt)).length,false⟩) <|
           ww (p:=0<1) ((by decide)) <|
           ww (p:=rdT (layT (rows qh2_ (((x1a::x1t)).set (y6_).toNat ((y9_.1),(w64 ((y9_.2.1)+1)),(y3_.2.2.2.2.1))))) (Nat.mul x2 3) 0=some (rows qh2_ (List.take x2 (((x1a::x1t)).set (y6_).toNat ((y9_.1),(w64 ((y9_.2.1)+1)),(y3_.2.2.2.2.1)))))) (qpp_ qjq_ _ _ hy20) <|
           ww (p:=fits (Nat.add x2 1) 24=true) (ql8_ hy21 (by have:=hy21; show (_:Nat)+_≤_; omega)) <|
           ww (p:=qbn_ [(i6 x4),(i6 (0:Int)),(i6 (y3_.2.2.1))]=true) (rfl) <|
           ww (p:=qbn_ (rows qh2_ (List.take x2 (((x1a::x1t)).set (y6_).toNat ((y9_.1),(w64 ((y9_.2.1)+1)),(y3_.2.2.2.2.1)))))=true) (qlg_ qjq_ _) <|
           ww (p:=rows qh2_ (List.take x2 (((x1a::x1t)).set (y6_).toNat ((y9_.1),(w64 ((y9_.2.1)+1)),(y3_.2.2.2.2.1)))) ++ [(i6 x4),(i6 (0:Int)),(i6 (y3_.2.2.1))]=(rows qh2_ (za::zt))) (by rw[←hz]; exact (qu9_ qh2_ (List.take x2 (((x1a::x1t)).set (y6_).toNat ((y9_.1),(w64 ((y9_.2.1)+1)),(y3_.2.2.2.2.1)))) [(x4,(0:Int),(y3_.2.2.1))])) <|
           ww (p:=Nat.add x2 1=((za::zt)).length) (by rw[←hz]; exact (qzl_ hy20 rfl)) <|
           ww (qb_ qjq_ (za::zt) 145) <|
           ee) (by kernel_rfl)
         ·rw[if_neg hy19] at h
          obtain rfl:=oI h
          obtain⟨za,zt,hz⟩:∃ a t,(((x1a::x1t)).set (y6_).toNat ((y9_.1),(w64 ((y9_.2.1)+1)),(y3_.2.2.2.2.1)))=a::t:=set_cons
          rw[hz]
          try rw[hz] at k0
          try rw[hz] at k3
          try rw[hz] at k4
          try rw[hz] at k13
          try rw[hz] at k15
          try rw[hz] at k16
          try rw[hz] at k22
          exact runC2 hm (kW [0,3,8,9,10] [(0,0,true)] 1 0) (k0 <|
           k3 <|
           k4 <|
           k13 <|
           k15 <|
           k16 <|
           k22 <|
           zz 100 (xdF hy19) <|
           ww (qb_ qjq_ (za::zt) 145) <|
           ee) (by kernel_rfl)
     ·rw[if_neg hy15] at h
      obtain rfl:=oI h
      exact runC2 hm (kW [2] [] 0 0) (k0 <|
       k3 <|
       k4 <|
       zz 52 (xnT hy15) <|
       ee) (by kernel_rfl)
   ·rw[if_neg hy4] at h
    have k3:=fun {A L l} (k:PL A L l)=>zz 16 (xdF hy4) <|
     k
    by_cases hy5:((((y3_.2.2.2.2.2.2.1)).l.length:Nat):Int) > 0
    ·rw[if_pos hy5] at h
     obtain⟨hy6,h⟩:=gd h
     obtain⟨hy7,h⟩:=gd h
     obtain rfl:=oI h
     obtain⟨za,zt,hz⟩:∃ a t,((List.take x2 (x1a::x1t)) ++ [(x4,(0:Int),(y3_.2.2.1))])=a::t:=qvx_ (List.take x2 (x1a::x1t)) (x4,(0:Int),(y3_.2.2.1))
     rw[hz]
     try rw[hz] at k0
     try rw[hz] at k3
     exact runC2 hm (kW [0,3,8,9,10] [(0,3,true)] 1 0) (k0 <|
      k3 <|
      zz 22 (xdT hy5) <|
      yy 30 (.app ⟨none,rows qh2_ (List.take x2 (x1a::x1t)),(rows qh2_ (za::zt)),((za::zt)).length,false⟩) <|
      ww (p:=0<1) ((by decide)) <|
      ww (p:=rdT (layT (rows qh2_ (x1a::x1t))) (Nat.mul x2 3) 0=some (rows qh2_ (List.take x2 (x1a::x1t)))) (qpp_ qjq_ _ _ hy6) <|
      ww (p:=fits (Nat.add x2 1) 24=true) (ql8_ hy7 (by have:=hy7; show (_:Nat)+_≤_; omega)) <|
      ww (p:=qbn_ [(i6 x4),(i6 (0:Int)),(i6 (y3_.2.2.1))]=true) (rfl) <|
      ww (p:=qbn_ (rows qh2_ (List.take x2 (x1a::x1t)))=true) (qlg_ qjq_ _) <|
      ww (p:=rows qh2_ (List.take x2 (x1a::x1t)) ++ [(i6 x4),(i6 (0:Int)),(i6 (y3_.2.2.1))]=(rows qh2_ (za::zt))) (by rw[←hz]; exact (qu9_ qh2_ (List.take x2 (x1a::x1t)) [(x4,(0:Int),(y3_.2.2.1))])) <|
      ww (p:=Nat.add x2 1=((za::zt)).length) (by rw[←hz]; exact (qzl_ hy6 rfl)) <|
      ww (qb_ qjq_ (za::zt) 145) <|
      ee) (by kernel_rfl)
    ·rw[if_neg hy5] at h
     obtain rfl:=oI h
     exact runC2 hm (kW [0,3,8,9,10] [(0,0,true)] 1 0) (k0 <|
      k3 <|
      zz 22 (xdF hy5) <|
      ww (qb_ qjq_ (x1a::x1t) 145) <|
      ee) (by kernel_rfl)
  ·rw[if_neg hy1] at h
   obtain rfl:=oI h
   exact runC2 hm (kW [3] [(0,0,true)] 1 0) (zz 1 (xdF hy1) <|
    ww (qb_ qjq_ (x1a::x1t) 145) <|
    ee) (by kernel_rfl)
theorem qiy_ (n:Nat){rnd:Option Nat}(x0:W8)(x3:Int)(st:List (Int×Int×Int)×Nat×Int)(r:(Unit) ⊕ (List (Int×Int×Int)×Nat))(h:qir_ n x0 x3 st=some r):qxp_ rnd x0 x3 st r:=
 CG.iter (b:=qx_ P 43 [false,false,true,false,true,true]) (by kernel_rfl) (body:=qr_ n x0 x3) (S:=qiq_ x0 x3) (X:=qcq_ x0 x3)
  (fun s s' h=>qrm_ n x0 x3 s (.inl s') h)
  (fun s r h=>qrm_ n x0 x3 s (.inr r) h)
  (fun r=>by intro hx; rcases r with _ | _<;>cases hx) h
def qh6_ (n:Nat)(a0:W8):Option (Bool):=
 match qir_ n a0 (((a0).l.length:Nat):Int) (([]:List (Int×Int×Int)),0,0) with
 | none=>none
 | some (.inl _)=>
  some false
 | some (.inr (c1_0,c1_1))=>
  match c1_0 with
  | []=>
   some true
  | c1_0a::c1_0t=>
   if ((c1_1:Nat):Int)=0 then
    some true
   else
    some false
theorem qwy_ (n:Nat)(a0:W8)(r:Bool)(h:qh6_ n a0=some r):qz2_ a0 r:=by
 unfold qh6_ at h
 rcases hc1:qir_ n a0 (((a0).l.length:Nat):Int) (([]:List (Int×Int×Int)),0,0) with _ | (⟨⟩ | ⟨c1_0,c1_1⟩)
 ·rw[hc1] at h; cases h
 ·rw[hc1] at h
  dsimp only at h
  obtain rfl:=oI h
  exact runF2 hm (kW [2] [] 0 0) (ww (qiy_ n (rnd:=none) a0 (((a0).l.length:Nat):Int) (([]:List (Int×Int×Int)),0,0) (.inl ()) hc1) <|
   ll 10 ⟨(kW [0,3,8,9,10] [] 1 0),(qcq_ a0 (((a0).l.length:Nat):Int) (.inl ())).1,(qcq_ a0 (((a0).l.length:Nat):Int) (.inl ())).2⟩ <|
   ee) (by kernel_rfl)
 ·rw[hc1] at h
  dsimp only at h
  cases c1_0 with
  | nil=>
   dsimp only at h
   obtain rfl:=oI h
   exact runF2 hm (kW [2] [] 0 0) (ww (qiy_ n (rnd:=none) a0 (((a0).l.length:Nat):Int) (([]:List (Int×Int×Int)),0,0) (.inr (([]:List (Int×Int×Int)),c1_1)) hc1) <|
    ll 10 ⟨(kW [0,3,8,9,10] [] 1 0),(qcq_ a0 (((a0).l.length:Nat):Int) (.inr (([]:List (Int×Int×Int)),c1_1))).1,(qcq_ a0 (((a0).l.length:Nat):Int) (.inr (([]:List (Int×Int×Int)),c1_1))).2⟩ <|
    ee) (by kernel_rfl)
  | cons c1_0a c1_0t=>
   dsimp only at h
   have k0:=fun {A L l} (k:PL A L l)=>ww (qiy_ n (rnd:=none) a0 (((a0).l.length:Nat):Int) (([]:List (Int×Int×Int)),0,0) (.inr ((c1_0a::c1_0t),c1_1)) hc1) <|
    ll 10 ⟨(kW [0,3,8,9,10] [] 1 0),(qcq_ a0 (((a0).l.length:Nat):Int) (.inr ((c1_0a::c1_0t),c1_1))).1,(qcq_ a0 (((a0).l.length:Nat):Int) (.inr ((c1_0a::c1_0t),c1_1))).2⟩ <|
    k
   by_cases hc2:((c1_1:Nat):Int)=0
   ·rw[if_pos hc2] at h
    obtain rfl:=oI h
    exact runF2 hm (kW [2] [] 0 0) (k0 <|
     zz 14 (xeT hc2) <|
     ee) (by kernel_rfl)
   ·rw[if_neg hc2] at h
    obtain rfl:=oI h
    exact runF2 hm (kW [2] [] 0 0) (k0 <|
     zz 14 (xeF hc2) <|
     ee) (by kernel_rfl)


end Go.Proofs.YthlikofobjhcoaaGreat.ptb28
