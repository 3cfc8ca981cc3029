/-
  slices.Sorted(maps.Keys(m)), m's keys strings, keeps its contract at this program, at every map. No condition.
-/
import Derived.Test.YtgcbagchpjpmoaaLaid
import Derived.Test.YtgcbagchpjpmoaaAx5
import Derived.KernelRfl
set_option linter.unusedSimpArgs false
set_option linter.unusedVariables false
namespace Go.Proofs.Ytgcbagchpjpmoaa
open Go.Proofs Go.RowKit Go.Maps Go.Sort Go.Shelf

theorem sorts23_35 (m : Nat) : AnyZ.SortsIn Try.prog Try.sorted23_ren Fence.wide m :=
  ⟨fun blk off cap ss W hH hblk hsz => callsIn_wide.2 (AnyM.slices_Sort_string Try.sort29 blk off cap ss W hH hblk hsz),
   fun p cap W => callsIn_wide.2 (AnyM.slices_Sort_string_none Try.sort29 p cap W)⟩
theorem sk35 : Ax.SKOK Try.prog ⟨35, 23, 39, 9, 64, false⟩ := {
  str := fun _ => Try.underlying9
  int := fun h => by cases h
  sortedZ := fun h => by cases h
  keys := fun mb w => callsIn_wide.1 (AnyZ.keys_in Try.keys35 Fence.wide 5 trivial rfl mb w)
  sorted := fun _ pb b nn D0 w hlt hcell hown h1 h2 => callsIn_wide.1 (AnyZ.sorted_in Try.sorted23 Fence.wide 5 trivial trivial trivial trivial rfl (by omega) (sorts23_35 _) (enters_of Try.func29 (by kernel_rfl) rfl) 39 #[.pointer (some ⟨pb, 0, none⟩)] trivial (enters_of Try.func39 (by kernel_rfl) rfl) _ _ h1 h2 _ (AnyZ.keys_gives (ρ := Try.keys35_ren) { Try.keys35 with } Fence.wide _ trivial rfl (by omega) pb b nn D0 w hlt hcell hown))
  live1 := by kernel_rfl
  live2 := by kernel_rfl }

/-- -1 as a value -/
def Ax.O : Value := .int .i64 (.negSucc 0)
def sks : List Ax.SK := [⟨35, 23, 39, 9, 64, false⟩]
theorem mixed : Try.prog.follows .mixedOrders = true := by kernel_rfl
theorem sks_ok : Ax.SKsOK Try.prog sks := ⟨sk35, trivial⟩

def quiets : List (Nat × Nat) := []
theorem quiets_ok : Ax.QuietsOK Try.prog quiets := trivial

end Go.Proofs.Ytgcbagchpjpmoaa
