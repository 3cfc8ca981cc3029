/-
 Bits, shifts, quotients: what is told of them. Own work, plain lemmas. No condition.
-/
import Derived.Test.YtgiceoflfmmlcaaDoorSxG
set_option linter.unusedSimpArgs false
set_option linter.unusedVariables false
set_option linter.unnecessarySimpa false
set_option linter.deprecated false
set_option linter.unusedSectionVars false
/-! Bits, shifts, quotients: what is told of them. Own work, plain lemmas. -/
noncomputable section
namespace Go.Proofs.YtgiceoflfmmlcaaDoor.Ax
open Go.RowKit
variable [Tabs]
def bAnd (k : IntKind) (x y : Int) : Int := k.wrap ((BitVec.ofInt k.bits x &&& BitVec.ofInt k.bits y).toNat : Int)
def shrV (k : IntKind) (x y : Int) : Int := x.fdiv (2 ^ (min y.toNat k.bits))
theorem quo_u8 {P : Program} {t : TypeId} {ox oy : Operand} {a b : Int} (h : ¬ b = 0) : opBin P .quo t ox oy (.int .u8 a) (.int .u8 b) Ax.h0 = some (.int .u8 (IntKind.u8.wrap (a.tdiv b)), Ax.h0) := by
 show opGen0 P .quo t ox oy (.int .u8 a) (.int .u8 b) Ax.h0 = _
 unfold opGen0 opPure2
 rw [show (plain (Value.int .u8 a) && plain (Value.int .u8 b)) = true from rfl, sel_true]
 unfold qkz_
 rw [qco_, show pureS P (eqGuard .quo t ox oy (.int .u8 a) (.int .u8 b)) = some () from rfl, oc_some]
 show oc (pureS P (Op.intDiv .quo .u8 a b)) none _ = _
 unfold Op.intDiv
 rw [if_neg h]
 rfl
theorem shr_u64_u8 {P : Program} {t : TypeId} {ox oy : Operand} {a b : Int} (h : 0 ≤ b) : opBin P .shr t ox oy (.int .u64 a) (.int .u8 b) Ax.h0 = some (.int .u64 (shrV .u64 a b), Ax.h0) := by
 show opGen0 P .shr t ox oy (.int .u64 a) (.int .u8 b) Ax.h0 = _
 unfold opGen0 opPure2
 rw [show (plain (Value.int .u64 a) && plain (Value.int .u8 b)) = true from rfl, sel_true]
 unfold qkz_
 rw [qco_, show pureS P (eqGuard .shr t ox oy (.int .u64 a) (.int .u8 b)) = some () from rfl, oc_some]
 show oc (pureS P (Op.shift .shr .u64 a .u8 b)) none _ = _
 unfold Op.shift
 rw [if_neg (by omega)]
 rfl
theorem rem_u8 {P : Program} {t : TypeId} {ox oy : Operand} {a b : Int} (h : ¬ b = 0) : opBin P .rem t ox oy (.int .u8 a) (.int .u8 b) Ax.h0 = some (.int .u8 (a.tmod b), Ax.h0) := by
 show opGen0 P .rem t ox oy (.int .u8 a) (.int .u8 b) Ax.h0 = _
 unfold opGen0 opPure2
 rw [show (plain (Value.int .u8 a) && plain (Value.int .u8 b)) = true from rfl, sel_true]
 unfold qkz_
 rw [qco_, show pureS P (eqGuard .rem t ox oy (.int .u8 a) (.int .u8 b)) = some () from rfl, oc_some]
 show oc (pureS P (Op.intDiv .rem .u8 a b)) none _ = _
 unfold Op.intDiv
 rw [if_neg h]
 rfl
end Go.Proofs.YtgiceoflfmmlcaaDoor.Ax
