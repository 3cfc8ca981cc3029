/-
 Bits, shifts, quotients: what is told of them. Own work, plain lemmas. No condition.
-/
import Derived.Test.YtdcocjjkfodjeaaSxG
set_option linter.unusedSimpArgs false
set_option linter.unusedVariables false
set_option linter.unnecessarySimpa false
set_option linter.deprecated false
set_option linter.unusedSectionVars false
/-! Bits, shifts, quotients: what is told of them. Own work, plain lemmas. -/
noncomputable section
namespace Go.Proofs.Ytdcocjjkfodjeaa.Ax
open Go.RowKit
variable [Tabs]
def bAnd (k:IntKind)(x y:Int):Int:=k.wrap ((BitVec.ofInt k.bits x &&& BitVec.ofInt k.bits y).toNat:Int)
def bOr (k:IntKind)(x y:Int):Int:=k.wrap ((BitVec.ofInt k.bits x ||| BitVec.ofInt k.bits y).toNat:Int)
def qoo_ (k:IntKind)(x y:Int):Int:=k.wrap ((BitVec.ofInt k.bits x &&& ~~~(BitVec.ofInt k.bits y)).toNat:Int)
def shlV (k:IntKind)(x y:Int):Int:=k.wrap (x*2 ^ (min y.toNat k.bits))
def shrV (k:IntKind)(x y:Int):Int:=x.fdiv (2 ^ (min y.toNat k.bits))
theorem qj4_ {P:Program}{t:TypeId}{ox oy:Operand}{a b:Int}(h:0≤b):opBin P .shl t ox oy (.int .u64 a) (.int .i64 b) Ax.h0=some (.int .u64 (shlV .u64 a b),Ax.h0):=by
 show q0v_ P .shl t ox oy (.int .u64 a) (.int .i64 b) Ax.h0=_
 unfold q0v_ opPure2
 rw[show (plain (Value.int .u64 a)&&plain (Value.int .i64 b))=true from rfl,sel_true]
 unfold qr5_
 rw[qug_,show pureS P (eqGuard .shl t ox oy (.int .u64 a) (.int .i64 b))=some () from rfl,oc_some]
 show oc (pureS P (Op.shift .shl .u64 a .i64 b)) none _=_
 unfold Op.shift
 rw[if_neg (by omega)]
 rfl
theorem qz8_ {P:Program}{t:TypeId}{ox oy:Operand}{a b:Int}(h:0≤b):opBin P .shr t ox oy (.int .u64 a) (.int .i64 b) Ax.h0=some (.int .u64 (shrV .u64 a b),Ax.h0):=by
 show q0v_ P .shr t ox oy (.int .u64 a) (.int .i64 b) Ax.h0=_
 unfold q0v_ opPure2
 rw[show (plain (Value.int .u64 a)&&plain (Value.int .i64 b))=true from rfl,sel_true]
 unfold qr5_
 rw[qug_,show pureS P (eqGuard .shr t ox oy (.int .u64 a) (.int .i64 b))=some () from rfl,oc_some]
 show oc (pureS P (Op.shift .shr .u64 a .i64 b)) none _=_
 unfold Op.shift
 rw[if_neg (by omega)]
 rfl
theorem qop_ {P:Program}{t:TypeId}{ox oy:Operand}{a b:Int}(h:0≤b):opBin P .shl t ox oy (.int .u64 a) (.int .u64 b) Ax.h0=some (.int .u64 (shlV .u64 a b),Ax.h0):=by
 show q0v_ P .shl t ox oy (.int .u64 a) (.int .u64 b) Ax.h0=_
 unfold q0v_ opPure2
 rw[show (plain (Value.int .u64 a)&&plain (Value.int .u64 b))=true from rfl,sel_true]
 unfold qr5_
 rw[qug_,show pureS P (eqGuard .shl t ox oy (.int .u64 a) (.int .u64 b))=some () from rfl,oc_some]
 show oc (pureS P (Op.shift .shl .u64 a .u64 b)) none _=_
 unfold Op.shift
 rw[if_neg (by omega)]
 rfl
theorem qz9_ {P:Program}{t:TypeId}{ox oy:Operand}{a b:Int}(h:0≤b):opBin P .shr t ox oy (.int .u64 a) (.int .u64 b) Ax.h0=some (.int .u64 (shrV .u64 a b),Ax.h0):=by
 show q0v_ P .shr t ox oy (.int .u64 a) (.int .u64 b) Ax.h0=_
 unfold q0v_ opPure2
 rw[show (plain (Value.int .u64 a)&&plain (Value.int .u64 b))=true from rfl,sel_true]
 unfold qr5_
 rw[qug_,show pureS P (eqGuard .shr t ox oy (.int .u64 a) (.int .u64 b))=some () from rfl,oc_some]
 show oc (pureS P (Op.shift .shr .u64 a .u64 b)) none _=_
 unfold Op.shift
 rw[if_neg (by omega)]
 rfl
end Go.Proofs.Ytdcocjjkfodjeaa.Ax
