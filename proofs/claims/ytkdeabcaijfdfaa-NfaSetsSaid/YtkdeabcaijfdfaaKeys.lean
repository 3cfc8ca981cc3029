/-
  slices.Sorted(maps.Keys(m)), m's keys strings, keeps its contract at this program, at every map. No condition.
-/
import Derived.Test.YtkdeabcaijfdfaaLaid
import Derived.Test.YtkdeabcaijfdfaaAx5
import Derived.KernelRfl
set_option linter.unusedSimpArgs false
set_option linter.unusedVariables false
namespace Go.Proofs.Ytkdeabcaijfdfaa
open Go.Proofs Go.RowKit Go.Maps Go.Sort Go.Shelf

theorem sorts37_38 (m : Nat) : AnyZI.SortsIn Try.prog Try.sorted37_ren Fence.wide m :=
  ⟨fun blk off cap ss W hH hblk hsz => callsIn_wide.2 (AnyM.slices_Sort_int Try.sort48 blk off cap ss W hH hblk hsz),
   fun p cap W => callsIn_wide.2 (AnyM.slices_Sort_int_none Try.sort48 p cap W)⟩
theorem sk38 : Ax.SKOK Try.prog ⟨38, 37, 49, 3, 60, true⟩ := {
  str := fun h => by cases h
  int := fun _ => Try.underlying3
  sorted := fun h => by cases h
  keys := fun mb w => callsIn_wide.1 (AnyZI.keys_in Try.keys38 Fence.wide 5 trivial rfl mb w)
  sortedZ := fun _ pb b nn D0 w hlt hcell hown h1 h2 => callsIn_wide.1 (AnyZI.sorted_in Try.sorted37 Fence.wide 5 trivial trivial trivial trivial rfl (by omega) (sorts37_38 _) (enters_of Try.func48 (by kernel_rfl) rfl) 49 #[.pointer (some ⟨pb, 0, none⟩)] trivial (enters_of Try.func49 (by kernel_rfl) rfl) _ _ h1 h2 _ (AnyZI.keys_gives (ρ := Try.keys38_ren) { Try.keys38 with } Fence.wide _ trivial rfl (by omega) pb b nn D0 w hlt hcell hown))
  live1 := by kernel_rfl
  live2 := by kernel_rfl }

/-- -1 as a value -/
def Ax.O : Value := .int .i64 (.negSucc 0)
def sks : List Ax.SK := [⟨38, 37, 49, 3, 60, true⟩]
theorem mixed : Try.prog.follows .mixedOrders = true := by kernel_rfl
theorem sks_ok : Ax.SKsOK Try.prog sks := ⟨sk38, trivial⟩

def quiets : List (Nat × Nat) := []
theorem quiets_ok : Ax.QuietsOK Try.prog quiets := trivial

end Go.Proofs.Ytkdeabcaijfdfaa
