/-
  slices.Sorted(maps.Keys(m)), m's keys strings, keeps its contract at this program, at every map. No condition.
-/
import Derived.Test.YthomkiindjhdmaaLaid
import Derived.Test.YthomkiindjhdmaaAx5
import Derived.KernelRfl
import Derived.RecoverIn
import Derived.TacticsIn
set_option linter.unusedSimpArgs false
set_option linter.unusedVariables false
namespace Go.Proofs.Ythomkiindjhdmaa
open Go.Proofs Go.RowKit Go.Maps Go.Sort Go.Shelf

theorem sorts165_166 (m : Nat) : AnyZ.SortsIn Try.prog Try.sorted165_ren Fence.wide m :=
  ⟨fun blk off cap ss W hH hblk hsz => callsIn_wide.2 (AnyM.slices_Sort_string Try.sort189 blk off cap ss W hH hblk hsz),
   fun p cap W => callsIn_wide.2 (AnyM.slices_Sort_string_none Try.sort189 p cap W)⟩
theorem sk166 : Ax.SKOK Try.prog ⟨166, 165, 191, 9, 230, false⟩ := {
  str := fun _ => Try.underlying9
  int := fun h => by cases h
  sortedZ := fun h => by cases h
  keys := fun mb w => callsIn_wide.1 (AnyZ.keys_in Try.keys166 Fence.wide 5 trivial rfl mb w)
  sorted := fun _ pb b nn D0 w hlt hcell hown h1 h2 => callsIn_wide.1 (AnyZ.sorted_in Try.sorted165 Fence.wide 5 trivial trivial trivial trivial rfl (by omega) (sorts165_166 _) (enters_of Try.func189 (by kernel_rfl) rfl) 191 #[.pointer (some ⟨pb, 0, none⟩)] trivial (enters_of Try.func191 (by kernel_rfl) rfl) _ _ h1 h2 _ (AnyZ.keys_gives (ρ := Try.keys166_ren) { Try.keys166 with } Fence.wide _ trivial rfl (by omega) pb b nn D0 w hlt hcell hown))
  live1 := by kernel_rfl
  live2 := by kernel_rfl }

theorem sorts150_151 (m : Nat) : AnyZI.SortsIn Try.prog Try.sorted150_ren Fence.wide m :=
  ⟨fun blk off cap ss W hH hblk hsz => callsIn_wide.2 (AnyM.slices_Sort_int Try.sort183 blk off cap ss W hH hblk hsz),
   fun p cap W => callsIn_wide.2 (AnyM.slices_Sort_int_none Try.sort183 p cap W)⟩
theorem sk151 : Ax.SKOK Try.prog ⟨151, 150, 184, 3, 174, true⟩ := {
  str := fun h => by cases h
  int := fun _ => Try.underlying3
  sorted := fun h => by cases h
  keys := fun mb w => callsIn_wide.1 (AnyZI.keys_in Try.keys151 Fence.wide 5 trivial rfl mb w)
  sortedZ := fun _ pb b nn D0 w hlt hcell hown h1 h2 => callsIn_wide.1 (AnyZI.sorted_in Try.sorted150 Fence.wide 5 trivial trivial trivial trivial rfl (by omega) (sorts150_151 _) (enters_of Try.func183 (by kernel_rfl) rfl) 184 #[.pointer (some ⟨pb, 0, none⟩)] trivial (enters_of Try.func184 (by kernel_rfl) rfl) _ _ h1 h2 _ (AnyZI.keys_gives (ρ := Try.keys151_ren) { Try.keys151 with } Fence.wide _ trivial rfl (by omega) pb b nn D0 w hlt hcell hown))
  live1 := by kernel_rfl
  live2 := by kernel_rfl }

def sks : List Ax.SK := [⟨166, 165, 191, 9, 230, false⟩, ⟨151, 150, 184, 3, 174, true⟩]
theorem mixed : Try.prog.follows .mixedOrders = true := by kernel_rfl
theorem sks_ok : Ax.SKsOK Try.prog sks := ⟨sk166, sk151, trivial⟩

theorem quiet91 : Ax.QuietOK Try.prog (91, 3) where
  live := by kernel_rfl
  does := fun x w n hx => by
    obtain ⟨x0, x1, x2, rfl⟩ : ∃ a b c, x = #[a, b, c] := by
      obtain ⟨l⟩ := x
      match l, hx with
      | [a, b, c], _ => exact ⟨a, b, c, rfl⟩
    refine callsDIn_of_wpSIn Try.func91 rfl trivial fun c₀ cs hu => ?_
    apply wpSIn_seq
    apply wpSIn_region
    simp [wpOpsSIn, go_sem, recoverD, hu, Try.ntmps91, Exit.thenS]
    refine wpSIn_of_wpIn rfl ?_
    apply wpIn_block
    apply wpIn_seq
    apply wpIn_region_lit
    simp [wpListIn, go_sem, Exit.then]
    apply wpIn_cond_true (by simp [Act.eval, Array.replicate])
    apply wpIn_region_lit
    simp [wpListIn, go_sem, Exit.inBlock, bodyPostS, results, Try.results91]
    cases c₀
    simp_all

def quiets : List (Nat × Nat) := [(91, 3)]
theorem quiets_ok : Ax.QuietsOK Try.prog quiets := ⟨quiet91, trivial⟩

end Go.Proofs.Ythomkiindjhdmaa
