/-
  slices.Sorted(maps.Keys(m)), m's keys strings, keeps its contract at this program, at every map. No condition.
-/
import Derived.Test.YtoocpkmefmjcjaaLaid
import Derived.Test.YtoocpkmefmjcjaaAx3
set_option linter.unusedSimpArgs false
set_option linter.unusedVariables false
namespace Go.Proofs.Ytoocpkmefmjcjaa
open Go.Proofs Go.RowKit Go.Maps Go.Sort Go.Shelf

theorem sorts49_50 (m : Nat) : AnyZ.SortsIn Try.prog Try.sorted49_ren Fence.wide m :=
  ⟨fun blk off cap ss W hH hblk hsz => callsIn_wide.2 (AnyM.slices_Sort_string Try.sort76 blk off cap ss W hH hblk hsz),
   fun p cap W => callsIn_wide.2 (AnyM.slices_Sort_string_none Try.sort76 p cap W)⟩
theorem sk50 : Ax.SKOK Try.prog ⟨50, 49, 78, 9, 86⟩ := {
  str := Try.underlying9
  keys := fun mb w => callsIn_wide.1 (AnyZ.keys_in Try.keys50 Fence.wide 5 trivial rfl mb w)
  sorted := fun pb b nn D0 w hlt hcell hown h1 h2 => callsIn_wide.1 (AnyZ.sorted_in Try.sorted49 Fence.wide 5 trivial trivial trivial trivial rfl (by omega) (sorts49_50 _) (enters_of Try.func76 (by kernel_rfl) rfl) 78 #[.pointer (some ⟨pb, 0, none⟩)] trivial (enters_of Try.func78 (by kernel_rfl) rfl) _ _ h1 h2 _ (AnyZ.keys_gives (ρ := Try.keys50_ren) { Try.keys50 with } Fence.wide _ trivial rfl (by omega) pb b nn D0 w hlt hcell hown))
  live1 := by kernel_rfl
  live2 := by kernel_rfl }

def sks : List Ax.SK := [⟨50, 49, 78, 9, 86⟩]
theorem mixed : Try.prog.follows .mixedOrders = true := by kernel_rfl
theorem sks_ok : Ax.SKsOK Try.prog sks := ⟨sk50, trivial⟩
end Go.Proofs.Ytoocpkmefmjcjaa
