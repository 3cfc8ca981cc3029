/-
  Bits, shifts, quotients: what is told of them. Own work, plain lemmas. No condition.
-/
import Derived.Test.YtkdeabcaijfdfaaSxG
set_option linter.unusedSimpArgs false
set_option linter.unusedVariables false
set_option linter.unnecessarySimpa false
set_option linter.deprecated false
set_option linter.unusedSectionVars false

/-! Bits, shifts, quotients: what is told of them. Own work, plain lemmas. -/
namespace Go.Proofs.Ytkdeabcaijfdfaa.Ax
open Go.RowKit
variable [Tabs]
/-! bits -/
def bAnd (k : IntKind) (x y : Int) : Int := k.wrap ((BitVec.ofInt k.bits x &&& BitVec.ofInt k.bits y).toNat : Int)
def bOr (k : IntKind) (x y : Int) : Int := k.wrap ((BitVec.ofInt k.bits x ||| BitVec.ofInt k.bits y).toNat : Int)
def bXor (k : IntKind) (x y : Int) : Int := k.wrap ((BitVec.ofInt k.bits x ^^^ BitVec.ofInt k.bits y).toNat : Int)
def bAndNot (k : IntKind) (x y : Int) : Int := k.wrap ((BitVec.ofInt k.bits x &&& ~~~(BitVec.ofInt k.bits y)).toNat : Int)
def bNot (k : IntKind) (x : Int) : Int := bXor k (if k.signed then -1 else k.max) x
def shlV (k : IntKind) (x y : Int) : Int := k.wrap (x * 2 ^ (min y.toNat k.bits))
def shrV (k : IntKind) (x y : Int) : Int := x.fdiv (2 ^ (min y.toNat k.bits))
theorem quo_i64 {P : Program} {t : TypeId} {ox oy : Operand} {a b : Int} (h : ¬ b = 0) : opBin P .quo t ox oy (.int .i64 a) (.int .i64 b) Go.Proofs.Ytkdeabcaijfdfaa.Ax.h0 = some (.int .i64 (IntKind.i64.wrap (a.tdiv b)), Go.Proofs.Ytkdeabcaijfdfaa.Ax.h0) := by
  show opGen0 P .quo t ox oy (.int .i64 a) (.int .i64 b) Go.Proofs.Ytkdeabcaijfdfaa.Ax.h0 = _
  unfold opGen0 opPure2
  rw [show (plain (Value.int .i64 a) && plain (Value.int .i64 b)) = true from rfl, sel_true]
  unfold opPure
  rw [pureS_bind, show pureS P (eqGuard .quo t ox oy (.int .i64 a) (.int .i64 b)) = some () from rfl, oc_some]
  show oc (pureS P (Op.intDiv .quo .i64 a b)) none _ = _
  unfold Op.intDiv
  rw [if_neg h]
  rfl
theorem shl_i64_i64 {P : Program} {t : TypeId} {ox oy : Operand} {a b : Int} (h : 0 ≤ b) : opBin P .shl t ox oy (.int .i64 a) (.int .i64 b) Go.Proofs.Ytkdeabcaijfdfaa.Ax.h0 = some (.int .i64 (shlV .i64 a b), Go.Proofs.Ytkdeabcaijfdfaa.Ax.h0) := by
  show opGen0 P .shl t ox oy (.int .i64 a) (.int .i64 b) Go.Proofs.Ytkdeabcaijfdfaa.Ax.h0 = _
  unfold opGen0 opPure2
  rw [show (plain (Value.int .i64 a) && plain (Value.int .i64 b)) = true from rfl, sel_true]
  unfold opPure
  rw [pureS_bind, show pureS P (eqGuard .shl t ox oy (.int .i64 a) (.int .i64 b)) = some () from rfl, oc_some]
  show oc (pureS P (Op.shift .shl .i64 a .i64 b)) none _ = _
  unfold Op.shift
  rw [if_neg (by omega)]
  rfl
theorem shr_i64_i64 {P : Program} {t : TypeId} {ox oy : Operand} {a b : Int} (h : 0 ≤ b) : opBin P .shr t ox oy (.int .i64 a) (.int .i64 b) Go.Proofs.Ytkdeabcaijfdfaa.Ax.h0 = some (.int .i64 (shrV .i64 a b), Go.Proofs.Ytkdeabcaijfdfaa.Ax.h0) := by
  show opGen0 P .shr t ox oy (.int .i64 a) (.int .i64 b) Go.Proofs.Ytkdeabcaijfdfaa.Ax.h0 = _
  unfold opGen0 opPure2
  rw [show (plain (Value.int .i64 a) && plain (Value.int .i64 b)) = true from rfl, sel_true]
  unfold opPure
  rw [pureS_bind, show pureS P (eqGuard .shr t ox oy (.int .i64 a) (.int .i64 b)) = some () from rfl, oc_some]
  show oc (pureS P (Op.shift .shr .i64 a .i64 b)) none _ = _
  unfold Op.shift
  rw [if_neg (by omega)]
  rfl
theorem shl_i64_u64 {P : Program} {t : TypeId} {ox oy : Operand} {a b : Int} (h : 0 ≤ b) : opBin P .shl t ox oy (.int .i64 a) (.int .u64 b) Go.Proofs.Ytkdeabcaijfdfaa.Ax.h0 = some (.int .i64 (shlV .i64 a b), Go.Proofs.Ytkdeabcaijfdfaa.Ax.h0) := by
  show opGen0 P .shl t ox oy (.int .i64 a) (.int .u64 b) Go.Proofs.Ytkdeabcaijfdfaa.Ax.h0 = _
  unfold opGen0 opPure2
  rw [show (plain (Value.int .i64 a) && plain (Value.int .u64 b)) = true from rfl, sel_true]
  unfold opPure
  rw [pureS_bind, show pureS P (eqGuard .shl t ox oy (.int .i64 a) (.int .u64 b)) = some () from rfl, oc_some]
  show oc (pureS P (Op.shift .shl .i64 a .u64 b)) none _ = _
  unfold Op.shift
  rw [if_neg (by omega)]
  rfl
theorem shr_i64_u64 {P : Program} {t : TypeId} {ox oy : Operand} {a b : Int} (h : 0 ≤ b) : opBin P .shr t ox oy (.int .i64 a) (.int .u64 b) Go.Proofs.Ytkdeabcaijfdfaa.Ax.h0 = some (.int .i64 (shrV .i64 a b), Go.Proofs.Ytkdeabcaijfdfaa.Ax.h0) := by
  show opGen0 P .shr t ox oy (.int .i64 a) (.int .u64 b) Go.Proofs.Ytkdeabcaijfdfaa.Ax.h0 = _
  unfold opGen0 opPure2
  rw [show (plain (Value.int .i64 a) && plain (Value.int .u64 b)) = true from rfl, sel_true]
  unfold opPure
  rw [pureS_bind, show pureS P (eqGuard .shr t ox oy (.int .i64 a) (.int .u64 b)) = some () from rfl, oc_some]
  show oc (pureS P (Op.shift .shr .i64 a .u64 b)) none _ = _
  unfold Op.shift
  rw [if_neg (by omega)]
  rfl
theorem quo_u64 {P : Program} {t : TypeId} {ox oy : Operand} {a b : Int} (h : ¬ b = 0) : opBin P .quo t ox oy (.int .u64 a) (.int .u64 b) Go.Proofs.Ytkdeabcaijfdfaa.Ax.h0 = some (.int .u64 (IntKind.u64.wrap (a.tdiv b)), Go.Proofs.Ytkdeabcaijfdfaa.Ax.h0) := by
  show opGen0 P .quo t ox oy (.int .u64 a) (.int .u64 b) Go.Proofs.Ytkdeabcaijfdfaa.Ax.h0 = _
  unfold opGen0 opPure2
  rw [show (plain (Value.int .u64 a) && plain (Value.int .u64 b)) = true from rfl, sel_true]
  unfold opPure
  rw [pureS_bind, show pureS P (eqGuard .quo t ox oy (.int .u64 a) (.int .u64 b)) = some () from rfl, oc_some]
  show oc (pureS P (Op.intDiv .quo .u64 a b)) none _ = _
  unfold Op.intDiv
  rw [if_neg h]
  rfl
theorem shl_u64_i64 {P : Program} {t : TypeId} {ox oy : Operand} {a b : Int} (h : 0 ≤ b) : opBin P .shl t ox oy (.int .u64 a) (.int .i64 b) Go.Proofs.Ytkdeabcaijfdfaa.Ax.h0 = some (.int .u64 (shlV .u64 a b), Go.Proofs.Ytkdeabcaijfdfaa.Ax.h0) := by
  show opGen0 P .shl t ox oy (.int .u64 a) (.int .i64 b) Go.Proofs.Ytkdeabcaijfdfaa.Ax.h0 = _
  unfold opGen0 opPure2
  rw [show (plain (Value.int .u64 a) && plain (Value.int .i64 b)) = true from rfl, sel_true]
  unfold opPure
  rw [pureS_bind, show pureS P (eqGuard .shl t ox oy (.int .u64 a) (.int .i64 b)) = some () from rfl, oc_some]
  show oc (pureS P (Op.shift .shl .u64 a .i64 b)) none _ = _
  unfold Op.shift
  rw [if_neg (by omega)]
  rfl
theorem shr_u64_i64 {P : Program} {t : TypeId} {ox oy : Operand} {a b : Int} (h : 0 ≤ b) : opBin P .shr t ox oy (.int .u64 a) (.int .i64 b) Go.Proofs.Ytkdeabcaijfdfaa.Ax.h0 = some (.int .u64 (shrV .u64 a b), Go.Proofs.Ytkdeabcaijfdfaa.Ax.h0) := by
  show opGen0 P .shr t ox oy (.int .u64 a) (.int .i64 b) Go.Proofs.Ytkdeabcaijfdfaa.Ax.h0 = _
  unfold opGen0 opPure2
  rw [show (plain (Value.int .u64 a) && plain (Value.int .i64 b)) = true from rfl, sel_true]
  unfold opPure
  rw [pureS_bind, show pureS P (eqGuard .shr t ox oy (.int .u64 a) (.int .i64 b)) = some () from rfl, oc_some]
  show oc (pureS P (Op.shift .shr .u64 a .i64 b)) none _ = _
  unfold Op.shift
  rw [if_neg (by omega)]
  rfl
theorem shl_u64_u64 {P : Program} {t : TypeId} {ox oy : Operand} {a b : Int} (h : 0 ≤ b) : opBin P .shl t ox oy (.int .u64 a) (.int .u64 b) Go.Proofs.Ytkdeabcaijfdfaa.Ax.h0 = some (.int .u64 (shlV .u64 a b), Go.Proofs.Ytkdeabcaijfdfaa.Ax.h0) := by
  show opGen0 P .shl t ox oy (.int .u64 a) (.int .u64 b) Go.Proofs.Ytkdeabcaijfdfaa.Ax.h0 = _
  unfold opGen0 opPure2
  rw [show (plain (Value.int .u64 a) && plain (Value.int .u64 b)) = true from rfl, sel_true]
  unfold opPure
  rw [pureS_bind, show pureS P (eqGuard .shl t ox oy (.int .u64 a) (.int .u64 b)) = some () from rfl, oc_some]
  show oc (pureS P (Op.shift .shl .u64 a .u64 b)) none _ = _
  unfold Op.shift
  rw [if_neg (by omega)]
  rfl
theorem shr_u64_u64 {P : Program} {t : TypeId} {ox oy : Operand} {a b : Int} (h : 0 ≤ b) : opBin P .shr t ox oy (.int .u64 a) (.int .u64 b) Go.Proofs.Ytkdeabcaijfdfaa.Ax.h0 = some (.int .u64 (shrV .u64 a b), Go.Proofs.Ytkdeabcaijfdfaa.Ax.h0) := by
  show opGen0 P .shr t ox oy (.int .u64 a) (.int .u64 b) Go.Proofs.Ytkdeabcaijfdfaa.Ax.h0 = _
  unfold opGen0 opPure2
  rw [show (plain (Value.int .u64 a) && plain (Value.int .u64 b)) = true from rfl, sel_true]
  unfold opPure
  rw [pureS_bind, show pureS P (eqGuard .shr t ox oy (.int .u64 a) (.int .u64 b)) = some () from rfl, oc_some]
  show oc (pureS P (Op.shift .shr .u64 a .u64 b)) none _ = _
  unfold Op.shift
  rw [if_neg (by omega)]
  rfl
theorem quo_u32 {P : Program} {t : TypeId} {ox oy : Operand} {a b : Int} (h : ¬ b = 0) : opBin P .quo t ox oy (.int .u32 a) (.int .u32 b) Go.Proofs.Ytkdeabcaijfdfaa.Ax.h0 = some (.int .u32 (IntKind.u32.wrap (a.tdiv b)), Go.Proofs.Ytkdeabcaijfdfaa.Ax.h0) := by
  show opGen0 P .quo t ox oy (.int .u32 a) (.int .u32 b) Go.Proofs.Ytkdeabcaijfdfaa.Ax.h0 = _
  unfold opGen0 opPure2
  rw [show (plain (Value.int .u32 a) && plain (Value.int .u32 b)) = true from rfl, sel_true]
  unfold opPure
  rw [pureS_bind, show pureS P (eqGuard .quo t ox oy (.int .u32 a) (.int .u32 b)) = some () from rfl, oc_some]
  show oc (pureS P (Op.intDiv .quo .u32 a b)) none _ = _
  unfold Op.intDiv
  rw [if_neg h]
  rfl
theorem shl_u32_i64 {P : Program} {t : TypeId} {ox oy : Operand} {a b : Int} (h : 0 ≤ b) : opBin P .shl t ox oy (.int .u32 a) (.int .i64 b) Go.Proofs.Ytkdeabcaijfdfaa.Ax.h0 = some (.int .u32 (shlV .u32 a b), Go.Proofs.Ytkdeabcaijfdfaa.Ax.h0) := by
  show opGen0 P .shl t ox oy (.int .u32 a) (.int .i64 b) Go.Proofs.Ytkdeabcaijfdfaa.Ax.h0 = _
  unfold opGen0 opPure2
  rw [show (plain (Value.int .u32 a) && plain (Value.int .i64 b)) = true from rfl, sel_true]
  unfold opPure
  rw [pureS_bind, show pureS P (eqGuard .shl t ox oy (.int .u32 a) (.int .i64 b)) = some () from rfl, oc_some]
  show oc (pureS P (Op.shift .shl .u32 a .i64 b)) none _ = _
  unfold Op.shift
  rw [if_neg (by omega)]
  rfl
theorem shr_u32_i64 {P : Program} {t : TypeId} {ox oy : Operand} {a b : Int} (h : 0 ≤ b) : opBin P .shr t ox oy (.int .u32 a) (.int .i64 b) Go.Proofs.Ytkdeabcaijfdfaa.Ax.h0 = some (.int .u32 (shrV .u32 a b), Go.Proofs.Ytkdeabcaijfdfaa.Ax.h0) := by
  show opGen0 P .shr t ox oy (.int .u32 a) (.int .i64 b) Go.Proofs.Ytkdeabcaijfdfaa.Ax.h0 = _
  unfold opGen0 opPure2
  rw [show (plain (Value.int .u32 a) && plain (Value.int .i64 b)) = true from rfl, sel_true]
  unfold opPure
  rw [pureS_bind, show pureS P (eqGuard .shr t ox oy (.int .u32 a) (.int .i64 b)) = some () from rfl, oc_some]
  show oc (pureS P (Op.shift .shr .u32 a .i64 b)) none _ = _
  unfold Op.shift
  rw [if_neg (by omega)]
  rfl
theorem shl_u32_u64 {P : Program} {t : TypeId} {ox oy : Operand} {a b : Int} (h : 0 ≤ b) : opBin P .shl t ox oy (.int .u32 a) (.int .u64 b) Go.Proofs.Ytkdeabcaijfdfaa.Ax.h0 = some (.int .u32 (shlV .u32 a b), Go.Proofs.Ytkdeabcaijfdfaa.Ax.h0) := by
  show opGen0 P .shl t ox oy (.int .u32 a) (.int .u64 b) Go.Proofs.Ytkdeabcaijfdfaa.Ax.h0 = _
  unfold opGen0 opPure2
  rw [show (plain (Value.int .u32 a) && plain (Value.int .u64 b)) = true from rfl, sel_true]
  unfold opPure
  rw [pureS_bind, show pureS P (eqGuard .shl t ox oy (.int .u32 a) (.int .u64 b)) = some () from rfl, oc_some]
  show oc (pureS P (Op.shift .shl .u32 a .u64 b)) none _ = _
  unfold Op.shift
  rw [if_neg (by omega)]
  rfl
theorem shr_u32_u64 {P : Program} {t : TypeId} {ox oy : Operand} {a b : Int} (h : 0 ≤ b) : opBin P .shr t ox oy (.int .u32 a) (.int .u64 b) Go.Proofs.Ytkdeabcaijfdfaa.Ax.h0 = some (.int .u32 (shrV .u32 a b), Go.Proofs.Ytkdeabcaijfdfaa.Ax.h0) := by
  show opGen0 P .shr t ox oy (.int .u32 a) (.int .u64 b) Go.Proofs.Ytkdeabcaijfdfaa.Ax.h0 = _
  unfold opGen0 opPure2
  rw [show (plain (Value.int .u32 a) && plain (Value.int .u64 b)) = true from rfl, sel_true]
  unfold opPure
  rw [pureS_bind, show pureS P (eqGuard .shr t ox oy (.int .u32 a) (.int .u64 b)) = some () from rfl, oc_some]
  show oc (pureS P (Op.shift .shr .u32 a .u64 b)) none _ = _
  unfold Op.shift
  rw [if_neg (by omega)]
  rfl
theorem quo_u8 {P : Program} {t : TypeId} {ox oy : Operand} {a b : Int} (h : ¬ b = 0) : opBin P .quo t ox oy (.int .u8 a) (.int .u8 b) Go.Proofs.Ytkdeabcaijfdfaa.Ax.h0 = some (.int .u8 (IntKind.u8.wrap (a.tdiv b)), Go.Proofs.Ytkdeabcaijfdfaa.Ax.h0) := by
  show opGen0 P .quo t ox oy (.int .u8 a) (.int .u8 b) Go.Proofs.Ytkdeabcaijfdfaa.Ax.h0 = _
  unfold opGen0 opPure2
  rw [show (plain (Value.int .u8 a) && plain (Value.int .u8 b)) = true from rfl, sel_true]
  unfold opPure
  rw [pureS_bind, show pureS P (eqGuard .quo t ox oy (.int .u8 a) (.int .u8 b)) = some () from rfl, oc_some]
  show oc (pureS P (Op.intDiv .quo .u8 a b)) none _ = _
  unfold Op.intDiv
  rw [if_neg h]
  rfl
theorem shl_u8_i64 {P : Program} {t : TypeId} {ox oy : Operand} {a b : Int} (h : 0 ≤ b) : opBin P .shl t ox oy (.int .u8 a) (.int .i64 b) Go.Proofs.Ytkdeabcaijfdfaa.Ax.h0 = some (.int .u8 (shlV .u8 a b), Go.Proofs.Ytkdeabcaijfdfaa.Ax.h0) := by
  show opGen0 P .shl t ox oy (.int .u8 a) (.int .i64 b) Go.Proofs.Ytkdeabcaijfdfaa.Ax.h0 = _
  unfold opGen0 opPure2
  rw [show (plain (Value.int .u8 a) && plain (Value.int .i64 b)) = true from rfl, sel_true]
  unfold opPure
  rw [pureS_bind, show pureS P (eqGuard .shl t ox oy (.int .u8 a) (.int .i64 b)) = some () from rfl, oc_some]
  show oc (pureS P (Op.shift .shl .u8 a .i64 b)) none _ = _
  unfold Op.shift
  rw [if_neg (by omega)]
  rfl
theorem shr_u8_i64 {P : Program} {t : TypeId} {ox oy : Operand} {a b : Int} (h : 0 ≤ b) : opBin P .shr t ox oy (.int .u8 a) (.int .i64 b) Go.Proofs.Ytkdeabcaijfdfaa.Ax.h0 = some (.int .u8 (shrV .u8 a b), Go.Proofs.Ytkdeabcaijfdfaa.Ax.h0) := by
  show opGen0 P .shr t ox oy (.int .u8 a) (.int .i64 b) Go.Proofs.Ytkdeabcaijfdfaa.Ax.h0 = _
  unfold opGen0 opPure2
  rw [show (plain (Value.int .u8 a) && plain (Value.int .i64 b)) = true from rfl, sel_true]
  unfold opPure
  rw [pureS_bind, show pureS P (eqGuard .shr t ox oy (.int .u8 a) (.int .i64 b)) = some () from rfl, oc_some]
  show oc (pureS P (Op.shift .shr .u8 a .i64 b)) none _ = _
  unfold Op.shift
  rw [if_neg (by omega)]
  rfl
theorem shl_u8_u64 {P : Program} {t : TypeId} {ox oy : Operand} {a b : Int} (h : 0 ≤ b) : opBin P .shl t ox oy (.int .u8 a) (.int .u64 b) Go.Proofs.Ytkdeabcaijfdfaa.Ax.h0 = some (.int .u8 (shlV .u8 a b), Go.Proofs.Ytkdeabcaijfdfaa.Ax.h0) := by
  show opGen0 P .shl t ox oy (.int .u8 a) (.int .u64 b) Go.Proofs.Ytkdeabcaijfdfaa.Ax.h0 = _
  unfold opGen0 opPure2
  rw [show (plain (Value.int .u8 a) && plain (Value.int .u64 b)) = true from rfl, sel_true]
  unfold opPure
  rw [pureS_bind, show pureS P (eqGuard .shl t ox oy (.int .u8 a) (.int .u64 b)) = some () from rfl, oc_some]
  show oc (pureS P (Op.shift .shl .u8 a .u64 b)) none _ = _
  unfold Op.shift
  rw [if_neg (by omega)]
  rfl
theorem shr_u8_u64 {P : Program} {t : TypeId} {ox oy : Operand} {a b : Int} (h : 0 ≤ b) : opBin P .shr t ox oy (.int .u8 a) (.int .u64 b) Go.Proofs.Ytkdeabcaijfdfaa.Ax.h0 = some (.int .u8 (shrV .u8 a b), Go.Proofs.Ytkdeabcaijfdfaa.Ax.h0) := by
  show opGen0 P .shr t ox oy (.int .u8 a) (.int .u64 b) Go.Proofs.Ytkdeabcaijfdfaa.Ax.h0 = _
  unfold opGen0 opPure2
  rw [show (plain (Value.int .u8 a) && plain (Value.int .u64 b)) = true from rfl, sel_true]
  unfold opPure
  rw [pureS_bind, show pureS P (eqGuard .shr t ox oy (.int .u8 a) (.int .u64 b)) = some () from rfl, oc_some]
  show oc (pureS P (Op.shift .shr .u8 a .u64 b)) none _ = _
  unfold Op.shift
  rw [if_neg (by omega)]
  rfl
theorem shl_u64_u8 {P : Program} {t : TypeId} {ox oy : Operand} {a b : Int} (h : 0 ≤ b) : opBin P .shl t ox oy (.int .u64 a) (.int .u8 b) Go.Proofs.Ytkdeabcaijfdfaa.Ax.h0 = some (.int .u64 (shlV .u64 a b), Go.Proofs.Ytkdeabcaijfdfaa.Ax.h0) := by
  show opGen0 P .shl t ox oy (.int .u64 a) (.int .u8 b) Go.Proofs.Ytkdeabcaijfdfaa.Ax.h0 = _
  unfold opGen0 opPure2
  rw [show (plain (Value.int .u64 a) && plain (Value.int .u8 b)) = true from rfl, sel_true]
  unfold opPure
  rw [pureS_bind, show pureS P (eqGuard .shl t ox oy (.int .u64 a) (.int .u8 b)) = some () from rfl, oc_some]
  show oc (pureS P (Op.shift .shl .u64 a .u8 b)) none _ = _
  unfold Op.shift
  rw [if_neg (by omega)]
  rfl
theorem shr_u64_u8 {P : Program} {t : TypeId} {ox oy : Operand} {a b : Int} (h : 0 ≤ b) : opBin P .shr t ox oy (.int .u64 a) (.int .u8 b) Go.Proofs.Ytkdeabcaijfdfaa.Ax.h0 = some (.int .u64 (shrV .u64 a b), Go.Proofs.Ytkdeabcaijfdfaa.Ax.h0) := by
  show opGen0 P .shr t ox oy (.int .u64 a) (.int .u8 b) Go.Proofs.Ytkdeabcaijfdfaa.Ax.h0 = _
  unfold opGen0 opPure2
  rw [show (plain (Value.int .u64 a) && plain (Value.int .u8 b)) = true from rfl, sel_true]
  unfold opPure
  rw [pureS_bind, show pureS P (eqGuard .shr t ox oy (.int .u64 a) (.int .u8 b)) = some () from rfl, oc_some]
  show oc (pureS P (Op.shift .shr .u64 a .u8 b)) none _ = _
  unfold Op.shift
  rw [if_neg (by omega)]
  rfl
theorem shl_i64_u8 {P : Program} {t : TypeId} {ox oy : Operand} {a b : Int} (h : 0 ≤ b) : opBin P .shl t ox oy (.int .i64 a) (.int .u8 b) Go.Proofs.Ytkdeabcaijfdfaa.Ax.h0 = some (.int .i64 (shlV .i64 a b), Go.Proofs.Ytkdeabcaijfdfaa.Ax.h0) := by
  show opGen0 P .shl t ox oy (.int .i64 a) (.int .u8 b) Go.Proofs.Ytkdeabcaijfdfaa.Ax.h0 = _
  unfold opGen0 opPure2
  rw [show (plain (Value.int .i64 a) && plain (Value.int .u8 b)) = true from rfl, sel_true]
  unfold opPure
  rw [pureS_bind, show pureS P (eqGuard .shl t ox oy (.int .i64 a) (.int .u8 b)) = some () from rfl, oc_some]
  show oc (pureS P (Op.shift .shl .i64 a .u8 b)) none _ = _
  unfold Op.shift
  rw [if_neg (by omega)]
  rfl
theorem shr_i64_u8 {P : Program} {t : TypeId} {ox oy : Operand} {a b : Int} (h : 0 ≤ b) : opBin P .shr t ox oy (.int .i64 a) (.int .u8 b) Go.Proofs.Ytkdeabcaijfdfaa.Ax.h0 = some (.int .i64 (shrV .i64 a b), Go.Proofs.Ytkdeabcaijfdfaa.Ax.h0) := by
  show opGen0 P .shr t ox oy (.int .i64 a) (.int .u8 b) Go.Proofs.Ytkdeabcaijfdfaa.Ax.h0 = _
  unfold opGen0 opPure2
  rw [show (plain (Value.int .i64 a) && plain (Value.int .u8 b)) = true from rfl, sel_true]
  unfold opPure
  rw [pureS_bind, show pureS P (eqGuard .shr t ox oy (.int .i64 a) (.int .u8 b)) = some () from rfl, oc_some]
  show oc (pureS P (Op.shift .shr .i64 a .u8 b)) none _ = _
  unfold Op.shift
  rw [if_neg (by omega)]
  rfl
theorem rem_u8 {P : Program} {t : TypeId} {ox oy : Operand} {a b : Int} (h : ¬ b = 0) : opBin P .rem t ox oy (.int .u8 a) (.int .u8 b) Go.Proofs.Ytkdeabcaijfdfaa.Ax.h0 = some (.int .u8 (a.tmod b), Go.Proofs.Ytkdeabcaijfdfaa.Ax.h0) := by
  show opGen0 P .rem t ox oy (.int .u8 a) (.int .u8 b) Go.Proofs.Ytkdeabcaijfdfaa.Ax.h0 = _
  unfold opGen0 opPure2
  rw [show (plain (Value.int .u8 a) && plain (Value.int .u8 b)) = true from rfl, sel_true]
  unfold opPure
  rw [pureS_bind, show pureS P (eqGuard .rem t ox oy (.int .u8 a) (.int .u8 b)) = some () from rfl, oc_some]
  show oc (pureS P (Op.intDiv .rem .u8 a b)) none _ = _
  unfold Op.intDiv
  rw [if_neg h]
  rfl
theorem rem_u64 {P : Program} {t : TypeId} {ox oy : Operand} {a b : Int} (h : ¬ b = 0) : opBin P .rem t ox oy (.int .u64 a) (.int .u64 b) Go.Proofs.Ytkdeabcaijfdfaa.Ax.h0 = some (.int .u64 (a.tmod b), Go.Proofs.Ytkdeabcaijfdfaa.Ax.h0) := by
  show opGen0 P .rem t ox oy (.int .u64 a) (.int .u64 b) Go.Proofs.Ytkdeabcaijfdfaa.Ax.h0 = _
  unfold opGen0 opPure2
  rw [show (plain (Value.int .u64 a) && plain (Value.int .u64 b)) = true from rfl, sel_true]
  unfold opPure
  rw [pureS_bind, show pureS P (eqGuard .rem t ox oy (.int .u64 a) (.int .u64 b)) = some () from rfl, oc_some]
  show oc (pureS P (Op.intDiv .rem .u64 a b)) none _ = _
  unfold Op.intDiv
  rw [if_neg h]
  rfl
theorem ixTab {P : Program} {t e : TypeId} {b m : Nat} {kd : IntKind} {i : Int} (ha : arrB P t = some (m, e)) (hs : sizeB P e = some 1) (h : 0 ≤ i ∧ i < (m : Int)) : opIndexAddr P t (.pointer (some ⟨b, 0, some 0⟩)) (.int kd i) Go.Proofs.Ytkdeabcaijfdfaa.Ax.h0 = some (.pointer (some ⟨b, i.toNat, some 0⟩), Go.Proofs.Ytkdeabcaijfdfaa.Ax.h0) := by
  obtain ⟨q, rfl⟩ := Int.eq_ofNat_of_zero_le h.1
  have hj : Nat.blt q m = true := by simp [Nat.blt_eq]; omega
  unfold opIndexAddr
  rw [show isAddr (.pointer (some ⟨b, 0, some 0⟩)) = true from rfl, sel_true]
  unfold opIndexArr
  rw [show addrOf (.pointer (some ⟨b, 0, some 0⟩)) = none from rfl, oc_none, show globOf (.pointer (some ⟨b, 0, some 0⟩)) = some (b, 0) from rfl, oc_some, ha, oc_some]
  have : idx (.int kd (.ofNat q)) m = some q := by show (match Nat.blt q m with | true => some q | false => none) = _; rw [hj]
  show oc (idx (.int kd (.ofNat q)) m) none _ = _
  rw [this, oc_some, hs, oc_some]
  simp
theorem ldTab [Tabs] {P : Program} {t : TypeId} {g i : Nat} {k : IntKind} {L : List Int} (hg : Tabs.tab g = some (L.map (Value.int k))) (ha : aggB P t = some false) (h : i < L.length) : loadG P t (.pointer (some ⟨g, i, some 0⟩)) Go.Proofs.Ytkdeabcaijfdfaa.Ax.h0 = some (.int k (L.getD i 0), Go.Proofs.Ytkdeabcaijfdfaa.Ax.h0) := by
  unfold loadG
  rw [show globOf (.pointer (some ⟨g, i, some 0⟩)) = some (g, i) from rfl, oc_some]
  show oc (Tabs.tab g) none _ = _
  rw [hg, oc_some]
  show oc ((L.map (Value.int k))[i]?) none _ = _
  rw [show (L.map (Value.int k))[i]? = some (.int k (L.getD i 0)) by simp [List.getD_eq_getElem?_getD, h], oc_some, ha, oc_some]
  rfl
theorem arr_rd4R {f : Int → List Value} (hf : RowF f 1) (d : Int) {L : List Int} (h : L.length = 4) : rdT (layT (rows f L)) 4 0 = some (f (L.getD 0 d) ++ (f (L.getD 1 d) ++ (f (L.getD 2 d) ++ f (L.getD 3 d)))) := by
  have h1 := rows_rd hf L 4 h.symm
  match L, h with
  | [a, b, c, e], _ =>
    have h1 : rdT (layT (rows f [a, b, c, e])) 4 0 = some (rows f [a, b, c, e]) := h1
    rw [h1]
    congr 1
    show f a ++ (f b ++ (f c ++ (f e ++ []))) = _
    rw [List.append_nil]
    rfl
end Go.Proofs.Ytkdeabcaijfdfaa.Ax
