/-
  slices.Sorted(maps.Keys(m)), m's keys strings, keeps its contract at this program, at every map. No condition.
-/
import Derived.Test.YtmfmfmmnddncpaaGreatDoorLaid
import Derived.Test.YtmfmfmmnddncpaaGreatDoorAx5
import Derived.KernelRfl
import Derived.RecoverIn
import Derived.TacticsIn
set_option linter.unusedSimpArgs false
set_option linter.unusedVariables false
namespace Go.Proofs.YtmfmfmmnddncpaaGreatDoor
open Go.Proofs Go.RowKit Go.Maps Go.Sort Go.Shelf

theorem sorts156_157 (m : Nat) : AnyZ.SortsIn Tryz.prog Tryz.sorted156_ren Fence.wide m :=
  ⟨fun blk off cap ss W hH hblk hsz => callsIn_wide.2 (AnyM.slices_Sort_string Tryz.sort203 blk off cap ss W hH hblk hsz),
   fun p cap W => callsIn_wide.2 (AnyM.slices_Sort_string_none Tryz.sort203 p cap W)⟩
theorem sk157 : Ax.SKOK Tryz.prog ⟨157, 156, 205, 9, 256, false⟩ := {
  str := fun _ => Tryz.underlying9
  int := fun h => by cases h
  sortedZ := fun h => by cases h
  keys := fun mb w => callsIn_wide.1 (AnyZ.keys_in Tryz.keys157 Fence.wide 5 trivial rfl mb w)
  sorted := fun _ pb b nn D0 w hlt hcell hown h1 h2 => callsIn_wide.1 (AnyZ.sorted_in Tryz.sorted156 Fence.wide 5 trivial trivial trivial trivial rfl (by omega) (sorts156_157 _) (enters_of Tryz.func203 (by kernel_rfl) rfl) 205 #[.pointer (some ⟨pb, 0, none⟩)] trivial (enters_of Tryz.func205 (by kernel_rfl) rfl) _ _ h1 h2 _ (AnyZ.keys_gives (ρ := Tryz.keys157_ren) { Tryz.keys157 with } Fence.wide _ trivial rfl (by omega) pb b nn D0 w hlt hcell hown))
  live1 := by kernel_rfl
  live2 := by kernel_rfl }

theorem sorts225_226 (m : Nat) : AnyZI.SortsIn Tryz.prog Tryz.sorted225_ren Fence.wide m :=
  ⟨fun blk off cap ss W hH hblk hsz => callsIn_wide.2 (AnyM.slices_Sort_int Tryz.sort249 blk off cap ss W hH hblk hsz),
   fun p cap W => callsIn_wide.2 (AnyM.slices_Sort_int_none Tryz.sort249 p cap W)⟩
theorem sk226 : Ax.SKOK Tryz.prog ⟨226, 225, 250, 3, 300, true⟩ := {
  str := fun h => by cases h
  int := fun _ => Tryz.underlying3
  sorted := fun h => by cases h
  keys := fun mb w => callsIn_wide.1 (AnyZI.keys_in Tryz.keys226 Fence.wide 5 trivial rfl mb w)
  sortedZ := fun _ pb b nn D0 w hlt hcell hown h1 h2 => callsIn_wide.1 (AnyZI.sorted_in Tryz.sorted225 Fence.wide 5 trivial trivial trivial trivial rfl (by omega) (sorts225_226 _) (enters_of Tryz.func249 (by kernel_rfl) rfl) 250 #[.pointer (some ⟨pb, 0, none⟩)] trivial (enters_of Tryz.func250 (by kernel_rfl) rfl) _ _ h1 h2 _ (AnyZI.keys_gives (ρ := Tryz.keys226_ren) { Tryz.keys226 with } Fence.wide _ trivial rfl (by omega) pb b nn D0 w hlt hcell hown))
  live1 := by kernel_rfl
  live2 := by kernel_rfl }

/-- -1 as a value -/
def Ax.O : Value := .int .i64 (.negSucc 0)
def sks : List Ax.SK := [⟨157, 156, 205, 9, 256, false⟩, ⟨226, 225, 250, 3, 300, true⟩]
theorem mixed : Tryz.prog.follows .mixedOrders = true := by kernel_rfl
theorem sks_ok : Ax.SKsOK Tryz.prog sks := ⟨sk157, sk226, trivial⟩

theorem quiet70 : Ax.QuietOK Tryz.prog (70, 3) where
  live := by kernel_rfl
  does := fun x w n hx => by
    obtain ⟨x0, x1, x2, rfl⟩ : ∃ a b c, x = #[a, b, c] := by
      obtain ⟨l⟩ := x
      match l, hx with
      | [a, b, c], _ => exact ⟨a, b, c, rfl⟩
    refine callsDIn_of_wpSIn Tryz.func70 rfl trivial fun c₀ cs hu => ?_
    apply wpSIn_seq
    apply wpSIn_region
    simp [wpOpsSIn, go_sem, recoverD, hu, Tryz.ntmps70, Exit.thenS]
    refine wpSIn_of_wpIn rfl ?_
    apply wpIn_block
    apply wpIn_seq
    apply wpIn_region_lit
    simp [wpListIn, go_sem, Exit.then]
    apply wpIn_cond_true (by simp [Act.eval, Array.replicate])
    apply wpIn_region_lit
    simp [wpListIn, go_sem, Exit.inBlock, bodyPostS, results, Tryz.results70]
    cases c₀
    simp_all

def quiets : List (Nat × Nat) := [(70, 3)]
theorem quiets_ok : Ax.QuietsOK Tryz.prog quiets := ⟨quiet70, trivial⟩

end Go.Proofs.YtmfmfmmnddncpaaGreatDoor
