/-
  slices.Sorted(maps.Keys(m)), m's keys strings, keeps its contract at this program, at every map. No condition.
-/
import Derived.Test.YtmjibnlojmdcgaaGreatDoorLaid
import Derived.Test.YtmjibnlojmdcgaaGreatDoorAx5
import Derived.KernelRfl
import Derived.RecoverIn
import Derived.TacticsIn
set_option linter.unusedSimpArgs false
set_option linter.unusedVariables false
namespace Go.Proofs.YtmjibnlojmdcgaaGreatDoor
open Go.Proofs Go.RowKit Go.Maps Go.Sort Go.Shelf

theorem sorts123_124 (m : Nat) : AnyZ.SortsIn Tryz.prog Tryz.sorted123_ren Fence.wide m :=
  ⟨fun blk off cap ss W hH hblk hsz => callsIn_wide.2 (AnyM.slices_Sort_string Tryz.sort165 blk off cap ss W hH hblk hsz),
   fun p cap W => callsIn_wide.2 (AnyM.slices_Sort_string_none Tryz.sort165 p cap W)⟩
theorem sk124 : Ax.SKOK Tryz.prog ⟨124, 123, 167, 9, 209, false⟩ := {
  str := fun _ => Tryz.underlying9
  int := fun h => by cases h
  sortedZ := fun h => by cases h
  keys := fun mb w => callsIn_wide.1 (AnyZ.keys_in Tryz.keys124 Fence.wide 5 trivial rfl mb w)
  sorted := fun _ pb b nn D0 w hlt hcell hown h1 h2 => callsIn_wide.1 (AnyZ.sorted_in Tryz.sorted123 Fence.wide 5 trivial trivial trivial trivial rfl (by omega) (sorts123_124 _) (enters_of Tryz.func165 (by kernel_rfl) rfl) 167 #[.pointer (some ⟨pb, 0, none⟩)] trivial (enters_of Tryz.func167 (by kernel_rfl) rfl) _ _ h1 h2 _ (AnyZ.keys_gives (ρ := Tryz.keys124_ren) { Tryz.keys124 with } Fence.wide _ trivial rfl (by omega) pb b nn D0 w hlt hcell hown))
  live1 := by kernel_rfl
  live2 := by kernel_rfl }

theorem sorts190_191 (m : Nat) : AnyZI.SortsIn Tryz.prog Tryz.sorted190_ren Fence.wide m :=
  ⟨fun blk off cap ss W hH hblk hsz => callsIn_wide.2 (AnyM.slices_Sort_int Tryz.sort211 blk off cap ss W hH hblk hsz),
   fun p cap W => callsIn_wide.2 (AnyM.slices_Sort_int_none Tryz.sort211 p cap W)⟩
theorem sk191 : Ax.SKOK Tryz.prog ⟨191, 190, 212, 3, 249, true⟩ := {
  str := fun h => by cases h
  int := fun _ => Tryz.underlying3
  sorted := fun h => by cases h
  keys := fun mb w => callsIn_wide.1 (AnyZI.keys_in Tryz.keys191 Fence.wide 5 trivial rfl mb w)
  sortedZ := fun _ pb b nn D0 w hlt hcell hown h1 h2 => callsIn_wide.1 (AnyZI.sorted_in Tryz.sorted190 Fence.wide 5 trivial trivial trivial trivial rfl (by omega) (sorts190_191 _) (enters_of Tryz.func211 (by kernel_rfl) rfl) 212 #[.pointer (some ⟨pb, 0, none⟩)] trivial (enters_of Tryz.func212 (by kernel_rfl) rfl) _ _ h1 h2 _ (AnyZI.keys_gives (ρ := Tryz.keys191_ren) { Tryz.keys191 with } Fence.wide _ trivial rfl (by omega) pb b nn D0 w hlt hcell hown))
  live1 := by kernel_rfl
  live2 := by kernel_rfl }

/-- -1 as a value -/
def Ax.O : Value := .int .i64 (.negSucc 0)
def sks : List Ax.SK := [⟨124, 123, 167, 9, 209, false⟩, ⟨191, 190, 212, 3, 249, true⟩]
theorem mixed : Tryz.prog.follows .mixedOrders = true := by kernel_rfl
theorem qbg_ : Ax.SKsOK Tryz.prog sks := ⟨sk124, sk191, trivial⟩

theorem quiet44 : Ax.QuietOK Tryz.prog (44, 3) where
  live := by kernel_rfl
  does := fun x w n hx => by
    obtain ⟨x0, x1, x2, rfl⟩ : ∃ a b c, x = #[a, b, c] := by
      obtain ⟨l⟩ := x
      match l, hx with
      | [a, b, c], _ => exact ⟨a, b, c, rfl⟩
    refine callsDIn_of_wpSIn Tryz.func44 rfl trivial fun c₀ cs hu => ?_
    apply wpSIn_seq
    apply wpSIn_region
    simp [wpOpsSIn, go_sem, recoverD, hu, Tryz.ntmps44, Exit.thenS]
    refine wpSIn_of_wpIn rfl ?_
    apply wpIn_block
    apply wpIn_seq
    apply wpIn_region_lit
    simp [wpListIn, go_sem, Exit.then]
    apply wpIn_cond_true (by simp [Act.eval, Array.replicate])
    apply wpIn_region_lit
    simp [wpListIn, go_sem, Exit.inBlock, bodyPostS, results, Tryz.results44]
    cases c₀
    simp_all

def qk_ : List (Nat × Nat) := [(44, 3)]
theorem qf_ : Ax.QuietsOK Tryz.prog qk_ := ⟨quiet44, trivial⟩

end Go.Proofs.YtmjibnlojmdcgaaGreatDoor
