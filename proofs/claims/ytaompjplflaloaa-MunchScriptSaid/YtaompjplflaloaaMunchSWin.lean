/-
  Arguments that are slices of ints, as windows. No condition.
-/
import Derived.Test.YtaompjplflaloaaSxG
import Derived.Test.YtaompjplflaloaaTabs0
import Derived.Test.YtaompjplflaloaaProg
import Derived.Test.YtaompjplflaloaaRowArg
import Derived.KernelRfl
set_option linter.unusedSimpArgs false
set_option linter.unusedVariables false
set_option linter.unusedSectionVars false
set_option linter.unnecessarySimpa false
namespace Go.Proofs.Ytaompjplflaloaa.munchs
open Go Go.Proofs.Ytaompjplflaloaa Ax
noncomputable abbrev P : Program := Try.prog
theorem hm : P.follows .mixedOrders = true := by kernel_rfl
def rw_iis (x : Int × Int × ByteArray) : List Value := [Value.int .i64 (x.1), Value.int .i64 (x.2.1), Value.string (x.2.2)]
theorem rwf_iis : RowF rw_iis 3 := ⟨fun _ => rfl, fun a v h => by
  simp only [rw_iis, List.mem_cons, List.not_mem_nil, or_false] at h
  rcases h with rfl | rfl | rfl <;> rfl, fun _ => rfl⟩
def ks_iis : List LK := [.i, .i, .s]
def dec_iis (cs : List Value) : Int × Int × ByteArray := match cs with
  | [c0, c1, c2] => ((match c0 with | .int _ n => n | _ => 0), (match c1 with | .int _ n => n | _ => 0), (match c2 with | .string s => s | _ => ByteArray.empty))
  | _ => (0, 0, ByteArray.empty)
theorem dec_ok_iis (cs : List Value) (h : fitsL ks_iis cs = true) : rw_iis (dec_iis cs) = cs := by
  have hl := fitsL_length h
  match cs, hl with
  | [c0, c1, c2], _ =>
    simp only [ks_iis, fitsL, Bool.and_eq_true] at h
    obtain ⟨h0, h1, h2, _⟩ := h
    obtain ⟨z0, rfl⟩ : ∃ z, c0 = Value.int .i64 z := by
      unfold LK.fits at h0
      split at h0 <;> first | exact ⟨_, rfl⟩ | contradiction
    obtain ⟨z1, rfl⟩ : ∃ z, c1 = Value.int .i64 z := by
      unfold LK.fits at h1
      split at h1 <;> first | exact ⟨_, rfl⟩ | contradiction
    obtain ⟨z2, rfl⟩ : ∃ z, c2 = Value.string z := by
      unfold LK.fits at h2
      split at h2 <;> first | exact ⟨_, rfl⟩ | contradiction
    rfl
class Args where
  N : List Int
  bN : Nat
  dN : Nat
  cN : Nat
  R : List Int
  bR : Nat
  dR : Nat
  cR : Nat
  L : List (Int × Int × ByteArray)
  bL : Nat
  dL : Nat
  cL : Nat
noncomputable instance wins [Args] : Ax.Tabs := { tab := fun _ => none, win := fun j => match j with
    | 0 => some (Args.bN, Args.dN, iv Args.N)
    | 1 => some (Args.bR, Args.dR, iv Args.R)
    | 2 => some (Args.bL, Args.dL, rows rw_iis Args.L)
    | _ => none }
end Go.Proofs.Ytaompjplflaloaa.munchs
