/-
 Bits, shifts, quotients: what is told of them. Own work, plain lemmas. No condition.
-/
import Derived.Test.YtdjkjpmcmpihgaaDoorSxG
set_option linter.unusedSimpArgs false
set_option linter.unusedVariables false
set_option linter.unnecessarySimpa false
set_option linter.deprecated false
set_option linter.unusedSectionVars false
/-! Bits, shifts, quotients: what is told of them. Own work, plain lemmas. -/
noncomputable section
namespace Go.Proofs.YtdjkjpmcmpihgaaDoor.Ax
open Go.RowKit
variable [Tabs]
def bAnd (k : IntKind) (x y : Int) : Int := k.wrap ((BitVec.ofInt k.bits x &&& BitVec.ofInt k.bits y).toNat : Int)
def bOr (k : IntKind) (x y : Int) : Int := k.wrap ((BitVec.ofInt k.bits x ||| BitVec.ofInt k.bits y).toNat : Int)
def bXor (k : IntKind) (x y : Int) : Int := k.wrap ((BitVec.ofInt k.bits x ^^^ BitVec.ofInt k.bits y).toNat : Int)
def bNot (k : IntKind) (x : Int) : Int := bXor k (if k.signed then -1 else k.max) x
def shlV (k : IntKind) (x y : Int) : Int := k.wrap (x * 2 ^ (min y.toNat k.bits))
def shrV (k : IntKind) (x y : Int) : Int := x.fdiv (2 ^ (min y.toNat k.bits))
theorem qve_ {P : Program} {t : TypeId} {ox oy : Operand} {a b : Int} (h : ¬ b = 0) : opBin P .quo t ox oy (.int .i64 a) (.int .i64 b) Ax.h0 = some (.int .i64 (IntKind.i64.wrap (a.tdiv b)), Ax.h0) := by
 show quj_ P .quo t ox oy (.int .i64 a) (.int .i64 b) Ax.h0 = _
 unfold quj_ qv7_
 rw [show (plain (Value.int .i64 a) && plain (Value.int .i64 b)) = true from rfl, sel_true]
 unfold qoz_
 rw [qnc_, show pureS P (eqGuard .quo t ox oy (.int .i64 a) (.int .i64 b)) = some () from rfl, oc_some]
 show oc (pureS P (Op.intDiv .quo .i64 a b)) none _ = _
 unfold Op.intDiv
 rw [if_neg h]
 rfl
theorem shl_u64_i64 {P : Program} {t : TypeId} {ox oy : Operand} {a b : Int} (h : 0 ≤ b) : opBin P .shl t ox oy (.int .u64 a) (.int .i64 b) Ax.h0 = some (.int .u64 (shlV .u64 a b), Ax.h0) := by
 show quj_ P .shl t ox oy (.int .u64 a) (.int .i64 b) Ax.h0 = _
 unfold quj_ qv7_
 rw [show (plain (Value.int .u64 a) && plain (Value.int .i64 b)) = true from rfl, sel_true]
 unfold qoz_
 rw [qnc_, show pureS P (eqGuard .shl t ox oy (.int .u64 a) (.int .i64 b)) = some () from rfl, oc_some]
 show oc (pureS P (Op.shift .shl .u64 a .i64 b)) none _ = _
 unfold Op.shift
 rw [if_neg (by omega)]
 rfl
theorem quo_u8 {P : Program} {t : TypeId} {ox oy : Operand} {a b : Int} (h : ¬ b = 0) : opBin P .quo t ox oy (.int .u8 a) (.int .u8 b) Ax.h0 = some (.int .u8 (IntKind.u8.wrap (a.tdiv b)), Ax.h0) := by
 show quj_ P .quo t ox oy (.int .u8 a) (.int .u8 b) Ax.h0 = _
 unfold quj_ qv7_
 rw [show (plain (Value.int .u8 a) && plain (Value.int .u8 b)) = true from rfl, sel_true]
 unfold qoz_
 rw [qnc_, show pureS P (eqGuard .quo t ox oy (.int .u8 a) (.int .u8 b)) = some () from rfl, oc_some]
 show oc (pureS P (Op.intDiv .quo .u8 a b)) none _ = _
 unfold Op.intDiv
 rw [if_neg h]
 rfl
theorem shr_u64_u8 {P : Program} {t : TypeId} {ox oy : Operand} {a b : Int} (h : 0 ≤ b) : opBin P .shr t ox oy (.int .u64 a) (.int .u8 b) Ax.h0 = some (.int .u64 (shrV .u64 a b), Ax.h0) := by
 show quj_ P .shr t ox oy (.int .u64 a) (.int .u8 b) Ax.h0 = _
 unfold quj_ qv7_
 rw [show (plain (Value.int .u64 a) && plain (Value.int .u8 b)) = true from rfl, sel_true]
 unfold qoz_
 rw [qnc_, show pureS P (eqGuard .shr t ox oy (.int .u64 a) (.int .u8 b)) = some () from rfl, oc_some]
 show oc (pureS P (Op.shift .shr .u64 a .u8 b)) none _ = _
 unfold Op.shift
 rw [if_neg (by omega)]
 rfl
theorem rem_u8 {P : Program} {t : TypeId} {ox oy : Operand} {a b : Int} (h : ¬ b = 0) : opBin P .rem t ox oy (.int .u8 a) (.int .u8 b) Ax.h0 = some (.int .u8 (a.tmod b), Ax.h0) := by
 show quj_ P .rem t ox oy (.int .u8 a) (.int .u8 b) Ax.h0 = _
 unfold quj_ qv7_
 rw [show (plain (Value.int .u8 a) && plain (Value.int .u8 b)) = true from rfl, sel_true]
 unfold qoz_
 rw [qnc_, show pureS P (eqGuard .rem t ox oy (.int .u8 a) (.int .u8 b)) = some () from rfl, oc_some]
 show oc (pureS P (Op.intDiv .rem .u8 a b)) none _ = _
 unfold Op.intDiv
 rw [if_neg h]
 rfl
theorem ixTab {P : Program} {t e : TypeId} {b m : Nat} {kd : IntKind} {i : Int} (ha : arrB P t = some (m, e)) (hs : sizeB P e = some 1) (h : 0 ≤ i ∧ i < (m : Int)) : qfv_ P t (.pointer (some ⟨b, 0, some 0⟩)) (.int kd i) Ax.h0 = some (.pointer (some ⟨b, i.toNat, some 0⟩), Ax.h0) := by
 obtain ⟨q, rfl⟩ := Int.eq_ofNat_of_zero_le h.1
 have hj : Nat.blt q m = true := by simp [Nat.blt_eq]; omega
 unfold qfv_
 rw [show isAddr (.pointer (some ⟨b, 0, some 0⟩)) = true from rfl, sel_true]
 unfold qlj_
 rw [show qni_ (.pointer (some ⟨b, 0, some 0⟩)) = none from rfl, oc_none, show qvx_ (.pointer (some ⟨b, 0, some 0⟩)) = some (b, 0) from rfl, oc_some, ha, oc_some]
 have : idx (.int kd (.ofNat q)) m = some q := by show (match Nat.blt q m with | true => some q | false => none) = _; rw [hj]
 show oc (idx (.int kd (.ofNat q)) m) none _ = _
 rw [this, oc_some, hs, oc_some]
 simp
theorem ldTab [Tabs] {P : Program} {t : TypeId} {g i : Nat} {k : IntKind} {L : List Int} (hg : Tabs.tab g = some (L.map (Value.int k))) (ha : aggB P t = some false) (h : i < L.length) : loadG P t (.pointer (some ⟨g, i, some 0⟩)) Ax.h0 = some (.int k (L.getD i 0), Ax.h0) := by
 unfold loadG
 rw [show qvx_ (.pointer (some ⟨g, i, some 0⟩)) = some (g, i) from rfl, oc_some]
 show oc (Tabs.tab g) none _ = _
 rw [hg, oc_some]
 show oc ((L.map (Value.int k))[i]?) none _ = _
 rw [show (L.map (Value.int k))[i]? = some (.int k (L.getD i 0)) by simp [List.getD_eq_getElem?_getD, h], oc_some, ha, oc_some]
 rfl
end Go.Proofs.YtdjkjpmcmpihgaaDoor.Ax
