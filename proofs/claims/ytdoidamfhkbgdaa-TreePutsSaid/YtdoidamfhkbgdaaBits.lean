/-
  Bits, shifts, quotients: what is told of them. Own work, plain lemmas. No condition.
-/
import Derived.Test.YtdoidamfhkbgdaaSxG
set_option linter.unusedSimpArgs false
set_option linter.unusedVariables false
set_option linter.unnecessarySimpa false
set_option linter.deprecated false
set_option linter.unusedSectionVars false

/-! Bits, shifts, quotients: what is told of them. Own work, plain lemmas. -/
namespace Go.Proofs.Ytdoidamfhkbgdaa.Ax
open Go.RowKit
variable [Tabs]
/-! bits -/
def bAnd (k : IntKind) (x y : Int) : Int := k.wrap ((BitVec.ofInt k.bits x &&& BitVec.ofInt k.bits y).toNat : Int)
def bOr (k : IntKind) (x y : Int) : Int := k.wrap ((BitVec.ofInt k.bits x ||| BitVec.ofInt k.bits y).toNat : Int)
def bXor (k : IntKind) (x y : Int) : Int := k.wrap ((BitVec.ofInt k.bits x ^^^ BitVec.ofInt k.bits y).toNat : Int)
def bAndNot (k : IntKind) (x y : Int) : Int := k.wrap ((BitVec.ofInt k.bits x &&& ~~~(BitVec.ofInt k.bits y)).toNat : Int)
def bNot (k : IntKind) (x : Int) : Int := bXor k (if k.signed then -1 else k.max) x
def shlV (k : IntKind) (x y : Int) : Int := k.wrap (x * 2 ^ (min y.toNat k.bits))
def shrV (k : IntKind) (x y : Int) : Int := x.fdiv (2 ^ (min y.toNat k.bits))
theorem quo_i64 {P : Program} {t : TypeId} {ox oy : Operand} {a b : Int} (h : ¬ b = 0) : opBin P .quo t ox oy (.int .i64 a) (.int .i64 b) Go.Proofs.Ytdoidamfhkbgdaa.Ax.h0 = some (.int .i64 (IntKind.i64.wrap (a.tdiv b)), Go.Proofs.Ytdoidamfhkbgdaa.Ax.h0) := by
  show opGen0 P .quo t ox oy (.int .i64 a) (.int .i64 b) Go.Proofs.Ytdoidamfhkbgdaa.Ax.h0 = _
  unfold opGen0 opPure2
  rw [show (plain (Value.int .i64 a) && plain (Value.int .i64 b)) = true from rfl, sel_true]
  unfold opPure
  rw [pureS_bind, show pureS P (eqGuard .quo t ox oy (.int .i64 a) (.int .i64 b)) = some () from rfl, oc_some]
  show oc (pureS P (Op.intDiv .quo .i64 a b)) none _ = _
  unfold Op.intDiv
  rw [if_neg h]
  rfl
theorem shl_i64_i64 {P : Program} {t : TypeId} {ox oy : Operand} {a b : Int} (h : 0 ≤ b) : opBin P .shl t ox oy (.int .i64 a) (.int .i64 b) Go.Proofs.Ytdoidamfhkbgdaa.Ax.h0 = some (.int .i64 (shlV .i64 a b), Go.Proofs.Ytdoidamfhkbgdaa.Ax.h0) := by
  show opGen0 P .shl t ox oy (.int .i64 a) (.int .i64 b) Go.Proofs.Ytdoidamfhkbgdaa.Ax.h0 = _
  unfold opGen0 opPure2
  rw [show (plain (Value.int .i64 a) && plain (Value.int .i64 b)) = true from rfl, sel_true]
  unfold opPure
  rw [pureS_bind, show pureS P (eqGuard .shl t ox oy (.int .i64 a) (.int .i64 b)) = some () from rfl, oc_some]
  show oc (pureS P (Op.shift .shl .i64 a .i64 b)) none _ = _
  unfold Op.shift
  rw [if_neg (by omega)]
  rfl
theorem shr_i64_i64 {P : Program} {t : TypeId} {ox oy : Operand} {a b : Int} (h : 0 ≤ b) : opBin P .shr t ox oy (.int .i64 a) (.int .i64 b) Go.Proofs.Ytdoidamfhkbgdaa.Ax.h0 = some (.int .i64 (shrV .i64 a b), Go.Proofs.Ytdoidamfhkbgdaa.Ax.h0) := by
  show opGen0 P .shr t ox oy (.int .i64 a) (.int .i64 b) Go.Proofs.Ytdoidamfhkbgdaa.Ax.h0 = _
  unfold opGen0 opPure2
  rw [show (plain (Value.int .i64 a) && plain (Value.int .i64 b)) = true from rfl, sel_true]
  unfold opPure
  rw [pureS_bind, show pureS P (eqGuard .shr t ox oy (.int .i64 a) (.int .i64 b)) = some () from rfl, oc_some]
  show oc (pureS P (Op.shift .shr .i64 a .i64 b)) none _ = _
  unfold Op.shift
  rw [if_neg (by omega)]
  rfl
theorem shl_i64_u64 {P : Program} {t : TypeId} {ox oy : Operand} {a b : Int} (h : 0 ≤ b) : opBin P .shl t ox oy (.int .i64 a) (.int .u64 b) Go.Proofs.Ytdoidamfhkbgdaa.Ax.h0 = some (.int .i64 (shlV .i64 a b), Go.Proofs.Ytdoidamfhkbgdaa.Ax.h0) := by
  show opGen0 P .shl t ox oy (.int .i64 a) (.int .u64 b) Go.Proofs.Ytdoidamfhkbgdaa.Ax.h0 = _
  unfold opGen0 opPure2
  rw [show (plain (Value.int .i64 a) && plain (Value.int .u64 b)) = true from rfl, sel_true]
  unfold opPure
  rw [pureS_bind, show pureS P (eqGuard .shl t ox oy (.int .i64 a) (.int .u64 b)) = some () from rfl, oc_some]
  show oc (pureS P (Op.shift .shl .i64 a .u64 b)) none _ = _
  unfold Op.shift
  rw [if_neg (by omega)]
  rfl
theorem shr_i64_u64 {P : Program} {t : TypeId} {ox oy : Operand} {a b : Int} (h : 0 ≤ b) : opBin P .shr t ox oy (.int .i64 a) (.int .u64 b) Go.Proofs.Ytdoidamfhkbgdaa.Ax.h0 = some (.int .i64 (shrV .i64 a b), Go.Proofs.Ytdoidamfhkbgdaa.Ax.h0) := by
  show opGen0 P .shr t ox oy (.int .i64 a) (.int .u64 b) Go.Proofs.Ytdoidamfhkbgdaa.Ax.h0 = _
  unfold opGen0 opPure2
  rw [show (plain (Value.int .i64 a) && plain (Value.int .u64 b)) = true from rfl, sel_true]
  unfold opPure
  rw [pureS_bind, show pureS P (eqGuard .shr t ox oy (.int .i64 a) (.int .u64 b)) = some () from rfl, oc_some]
  show oc (pureS P (Op.shift .shr .i64 a .u64 b)) none _ = _
  unfold Op.shift
  rw [if_neg (by omega)]
  rfl
theorem quo_u64 {P : Program} {t : TypeId} {ox oy : Operand} {a b : Int} (h : ¬ b = 0) : opBin P .quo t ox oy (.int .u64 a) (.int .u64 b) Go.Proofs.Ytdoidamfhkbgdaa.Ax.h0 = some (.int .u64 (IntKind.u64.wrap (a.tdiv b)), Go.Proofs.Ytdoidamfhkbgdaa.Ax.h0) := by
  show opGen0 P .quo t ox oy (.int .u64 a) (.int .u64 b) Go.Proofs.Ytdoidamfhkbgdaa.Ax.h0 = _
  unfold opGen0 opPure2
  rw [show (plain (Value.int .u64 a) && plain (Value.int .u64 b)) = true from rfl, sel_true]
  unfold opPure
  rw [pureS_bind, show pureS P (eqGuard .quo t ox oy (.int .u64 a) (.int .u64 b)) = some () from rfl, oc_some]
  show oc (pureS P (Op.intDiv .quo .u64 a b)) none _ = _
  unfold Op.intDiv
  rw [if_neg h]
  rfl
theorem shl_u64_i64 {P : Program} {t : TypeId} {ox oy : Operand} {a b : Int} (h : 0 ≤ b) : opBin P .shl t ox oy (.int .u64 a) (.int .i64 b) Go.Proofs.Ytdoidamfhkbgdaa.Ax.h0 = some (.int .u64 (shlV .u64 a b), Go.Proofs.Ytdoidamfhkbgdaa.Ax.h0) := by
  show opGen0 P .shl t ox oy (.int .u64 a) (.int .i64 b) Go.Proofs.Ytdoidamfhkbgdaa.Ax.h0 = _
  unfold opGen0 opPure2
  rw [show (plain (Value.int .u64 a) && plain (Value.int .i64 b)) = true from rfl, sel_true]
  unfold opPure
  rw [pureS_bind, show pureS P (eqGuard .shl t ox oy (.int .u64 a) (.int .i64 b)) = some () from rfl, oc_some]
  show oc (pureS P (Op.shift .shl .u64 a .i64 b)) none _ = _
  unfold Op.shift
  rw [if_neg (by omega)]
  rfl
theorem shr_u64_i64 {P : Program} {t : TypeId} {ox oy : Operand} {a b : Int} (h : 0 ≤ b) : opBin P .shr t ox oy (.int .u64 a) (.int .i64 b) Go.Proofs.Ytdoidamfhkbgdaa.Ax.h0 = some (.int .u64 (shrV .u64 a b), Go.Proofs.Ytdoidamfhkbgdaa.Ax.h0) := by
  show opGen0 P .shr t ox oy (.int .u64 a) (.int .i64 b) Go.Proofs.Ytdoidamfhkbgdaa.Ax.h0 = _
  unfold opGen0 opPure2
  rw [show (plain (Value.int .u64 a) && plain (Value.int .i64 b)) = true from rfl, sel_true]
  unfold opPure
  rw [pureS_bind, show pureS P (eqGuard .shr t ox oy (.int .u64 a) (.int .i64 b)) = some () from rfl, oc_some]
  show oc (pureS P (Op.shift .shr .u64 a .i64 b)) none _ = _
  unfold Op.shift
  rw [if_neg (by omega)]
  rfl
theorem shl_u64_u64 {P : Program} {t : TypeId} {ox oy : Operand} {a b : Int} (h : 0 ≤ b) : opBin P .shl t ox oy (.int .u64 a) (.int .u64 b) Go.Proofs.Ytdoidamfhkbgdaa.Ax.h0 = some (.int .u64 (shlV .u64 a b), Go.Proofs.Ytdoidamfhkbgdaa.Ax.h0) := by
  show opGen0 P .shl t ox oy (.int .u64 a) (.int .u64 b) Go.Proofs.Ytdoidamfhkbgdaa.Ax.h0 = _
  unfold opGen0 opPure2
  rw [show (plain (Value.int .u64 a) && plain (Value.int .u64 b)) = true from rfl, sel_true]
  unfold opPure
  rw [pureS_bind, show pureS P (eqGuard .shl t ox oy (.int .u64 a) (.int .u64 b)) = some () from rfl, oc_some]
  show oc (pureS P (Op.shift .shl .u64 a .u64 b)) none _ = _
  unfold Op.shift
  rw [if_neg (by omega)]
  rfl
theorem shr_u64_u64 {P : Program} {t : TypeId} {ox oy : Operand} {a b : Int} (h : 0 ≤ b) : opBin P .shr t ox oy (.int .u64 a) (.int .u64 b) Go.Proofs.Ytdoidamfhkbgdaa.Ax.h0 = some (.int .u64 (shrV .u64 a b), Go.Proofs.Ytdoidamfhkbgdaa.Ax.h0) := by
  show opGen0 P .shr t ox oy (.int .u64 a) (.int .u64 b) Go.Proofs.Ytdoidamfhkbgdaa.Ax.h0 = _
  unfold opGen0 opPure2
  rw [show (plain (Value.int .u64 a) && plain (Value.int .u64 b)) = true from rfl, sel_true]
  unfold opPure
  rw [pureS_bind, show pureS P (eqGuard .shr t ox oy (.int .u64 a) (.int .u64 b)) = some () from rfl, oc_some]
  show oc (pureS P (Op.shift .shr .u64 a .u64 b)) none _ = _
  unfold Op.shift
  rw [if_neg (by omega)]
  rfl
theorem quo_u32 {P : Program} {t : TypeId} {ox oy : Operand} {a b : Int} (h : ¬ b = 0) : opBin P .quo t ox oy (.int .u32 a) (.int .u32 b) Go.Proofs.Ytdoidamfhkbgdaa.Ax.h0 = some (.int .u32 (IntKind.u32.wrap (a.tdiv b)), Go.Proofs.Ytdoidamfhkbgdaa.Ax.h0) := by
  show opGen0 P .quo t ox oy (.int .u32 a) (.int .u32 b) Go.Proofs.Ytdoidamfhkbgdaa.Ax.h0 = _
  unfold opGen0 opPure2
  rw [show (plain (Value.int .u32 a) && plain (Value.int .u32 b)) = true from rfl, sel_true]
  unfold opPure
  rw [pureS_bind, show pureS P (eqGuard .quo t ox oy (.int .u32 a) (.int .u32 b)) = some () from rfl, oc_some]
  show oc (pureS P (Op.intDiv .quo .u32 a b)) none _ = _
  unfold Op.intDiv
  rw [if_neg h]
  rfl
theorem shl_u32_i64 {P : Program} {t : TypeId} {ox oy : Operand} {a b : Int} (h : 0 ≤ b) : opBin P .shl t ox oy (.int .u32 a) (.int .i64 b) Go.Proofs.Ytdoidamfhkbgdaa.Ax.h0 = some (.int .u32 (shlV .u32 a b), Go.Proofs.Ytdoidamfhkbgdaa.Ax.h0) := by
  show opGen0 P .shl t ox oy (.int .u32 a) (.int .i64 b) Go.Proofs.Ytdoidamfhkbgdaa.Ax.h0 = _
  unfold opGen0 opPure2
  rw [show (plain (Value.int .u32 a) && plain (Value.int .i64 b)) = true from rfl, sel_true]
  unfold opPure
  rw [pureS_bind, show pureS P (eqGuard .shl t ox oy (.int .u32 a) (.int .i64 b)) = some () from rfl, oc_some]
  show oc (pureS P (Op.shift .shl .u32 a .i64 b)) none _ = _
  unfold Op.shift
  rw [if_neg (by omega)]
  rfl
theorem shr_u32_i64 {P : Program} {t : TypeId} {ox oy : Operand} {a b : Int} (h : 0 ≤ b) : opBin P .shr t ox oy (.int .u32 a) (.int .i64 b) Go.Proofs.Ytdoidamfhkbgdaa.Ax.h0 = some (.int .u32 (shrV .u32 a b), Go.Proofs.Ytdoidamfhkbgdaa.Ax.h0) := by
  show opGen0 P .shr t ox oy (.int .u32 a) (.int .i64 b) Go.Proofs.Ytdoidamfhkbgdaa.Ax.h0 = _
  unfold opGen0 opPure2
  rw [show (plain (Value.int .u32 a) && plain (Value.int .i64 b)) = true from rfl, sel_true]
  unfold opPure
  rw [pureS_bind, show pureS P (eqGuard .shr t ox oy (.int .u32 a) (.int .i64 b)) = some () from rfl, oc_some]
  show oc (pureS P (Op.shift .shr .u32 a .i64 b)) none _ = _
  unfold Op.shift
  rw [if_neg (by omega)]
  rfl
theorem shl_u32_u64 {P : Program} {t : TypeId} {ox oy : Operand} {a b : Int} (h : 0 ≤ b) : opBin P .shl t ox oy (.int .u32 a) (.int .u64 b) Go.Proofs.Ytdoidamfhkbgdaa.Ax.h0 = some (.int .u32 (shlV .u32 a b), Go.Proofs.Ytdoidamfhkbgdaa.Ax.h0) := by
  show opGen0 P .shl t ox oy (.int .u32 a) (.int .u64 b) Go.Proofs.Ytdoidamfhkbgdaa.Ax.h0 = _
  unfold opGen0 opPure2
  rw [show (plain (Value.int .u32 a) && plain (Value.int .u64 b)) = true from rfl, sel_true]
  unfold opPure
  rw [pureS_bind, show pureS P (eqGuard .shl t ox oy (.int .u32 a) (.int .u64 b)) = some () from rfl, oc_some]
  show oc (pureS P (Op.shift .shl .u32 a .u64 b)) none _ = _
  unfold Op.shift
  rw [if_neg (by omega)]
  rfl
theorem shr_u32_u64 {P : Program} {t : TypeId} {ox oy : Operand} {a b : Int} (h : 0 ≤ b) : opBin P .shr t ox oy (.int .u32 a) (.int .u64 b) Go.Proofs.Ytdoidamfhkbgdaa.Ax.h0 = some (.int .u32 (shrV .u32 a b), Go.Proofs.Ytdoidamfhkbgdaa.Ax.h0) := by
  show opGen0 P .shr t ox oy (.int .u32 a) (.int .u64 b) Go.Proofs.Ytdoidamfhkbgdaa.Ax.h0 = _
  unfold opGen0 opPure2
  rw [show (plain (Value.int .u32 a) && plain (Value.int .u64 b)) = true from rfl, sel_true]
  unfold opPure
  rw [pureS_bind, show pureS P (eqGuard .shr t ox oy (.int .u32 a) (.int .u64 b)) = some () from rfl, oc_some]
  show oc (pureS P (Op.shift .shr .u32 a .u64 b)) none _ = _
  unfold Op.shift
  rw [if_neg (by omega)]
  rfl
theorem quo_u8 {P : Program} {t : TypeId} {ox oy : Operand} {a b : Int} (h : ¬ b = 0) : opBin P .quo t ox oy (.int .u8 a) (.int .u8 b) Go.Proofs.Ytdoidamfhkbgdaa.Ax.h0 = some (.int .u8 (IntKind.u8.wrap (a.tdiv b)), Go.Proofs.Ytdoidamfhkbgdaa.Ax.h0) := by
  show opGen0 P .quo t ox oy (.int .u8 a) (.int .u8 b) Go.Proofs.Ytdoidamfhkbgdaa.Ax.h0 = _
  unfold opGen0 opPure2
  rw [show (plain (Value.int .u8 a) && plain (Value.int .u8 b)) = true from rfl, sel_true]
  unfold opPure
  rw [pureS_bind, show pureS P (eqGuard .quo t ox oy (.int .u8 a) (.int .u8 b)) = some () from rfl, oc_some]
  show oc (pureS P (Op.intDiv .quo .u8 a b)) none _ = _
  unfold Op.intDiv
  rw [if_neg h]
  rfl
theorem shl_u8_i64 {P : Program} {t : TypeId} {ox oy : Operand} {a b : Int} (h : 0 ≤ b) : opBin P .shl t ox oy (.int .u8 a) (.int .i64 b) Go.Proofs.Ytdoidamfhkbgdaa.Ax.h0 = some (.int .u8 (shlV .u8 a b), Go.Proofs.Ytdoidamfhkbgdaa.Ax.h0) := by
  show opGen0 P .shl t ox oy (.int .u8 a) (.int .i64 b) Go.Proofs.Ytdoidamfhkbgdaa.Ax.h0 = _
  unfold opGen0 opPure2
  rw [show (plain (Value.int .u8 a) && plain (Value.int .i64 b)) = true from rfl, sel_true]
  unfold opPure
  rw [pureS_bind, show pureS P (eqGuard .shl t ox oy (.int .u8 a) (.int .i64 b)) = some () from rfl, oc_some]
  show oc (pureS P (Op.shift .shl .u8 a .i64 b)) none _ = _
  unfold Op.shift
  rw [if_neg (by omega)]
  rfl
theorem shr_u8_i64 {P : Program} {t : TypeId} {ox oy : Operand} {a b : Int} (h : 0 ≤ b) : opBin P .shr t ox oy (.int .u8 a) (.int .i64 b) Go.Proofs.Ytdoidamfhkbgdaa.Ax.h0 = some (.int .u8 (shrV .u8 a b), Go.Proofs.Ytdoidamfhkbgdaa.Ax.h0) := by
  show opGen0 P .shr t ox oy (.int .u8 a) (.int .i64 b) Go.Proofs.Ytdoidamfhkbgdaa.Ax.h0 = _
  unfold opGen0 opPure2
  rw [show (plain (Value.int .u8 a) && plain (Value.int .i64 b)) = true from rfl, sel_true]
  unfold opPure
  rw [pureS_bind, show pureS P (eqGuard .shr t ox oy (.int .u8 a) (.int .i64 b)) = some () from rfl, oc_some]
  show oc (pureS P (Op.shift .shr .u8 a .i64 b)) none _ = _
  unfold Op.shift
  rw [if_neg (by omega)]
  rfl
theorem shl_u8_u64 {P : Program} {t : TypeId} {ox oy : Operand} {a b : Int} (h : 0 ≤ b) : opBin P .shl t ox oy (.int .u8 a) (.int .u64 b) Go.Proofs.Ytdoidamfhkbgdaa.Ax.h0 = some (.int .u8 (shlV .u8 a b), Go.Proofs.Ytdoidamfhkbgdaa.Ax.h0) := by
  show opGen0 P .shl t ox oy (.int .u8 a) (.int .u64 b) Go.Proofs.Ytdoidamfhkbgdaa.Ax.h0 = _
  unfold opGen0 opPure2
  rw [show (plain (Value.int .u8 a) && plain (Value.int .u64 b)) = true from rfl, sel_true]
  unfold opPure
  rw [pureS_bind, show pureS P (eqGuard .shl t ox oy (.int .u8 a) (.int .u64 b)) = some () from rfl, oc_some]
  show oc (pureS P (Op.shift .shl .u8 a .u64 b)) none _ = _
  unfold Op.shift
  rw [if_neg (by omega)]
  rfl
theorem shr_u8_u64 {P : Program} {t : TypeId} {ox oy : Operand} {a b : Int} (h : 0 ≤ b) : opBin P .shr t ox oy (.int .u8 a) (.int .u64 b) Go.Proofs.Ytdoidamfhkbgdaa.Ax.h0 = some (.int .u8 (shrV .u8 a b), Go.Proofs.Ytdoidamfhkbgdaa.Ax.h0) := by
  show opGen0 P .shr t ox oy (.int .u8 a) (.int .u64 b) Go.Proofs.Ytdoidamfhkbgdaa.Ax.h0 = _
  unfold opGen0 opPure2
  rw [show (plain (Value.int .u8 a) && plain (Value.int .u64 b)) = true from rfl, sel_true]
  unfold opPure
  rw [pureS_bind, show pureS P (eqGuard .shr t ox oy (.int .u8 a) (.int .u64 b)) = some () from rfl, oc_some]
  show oc (pureS P (Op.shift .shr .u8 a .u64 b)) none _ = _
  unfold Op.shift
  rw [if_neg (by omega)]
  rfl
end Go.Proofs.Ytdoidamfhkbgdaa.Ax
