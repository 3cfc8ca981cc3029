/-
  slices.Sorted(maps.Keys(m)), m's keys strings, keeps its contract at this program, at every map. No condition.
-/
import Derived.Test.YtlocganmbeghjaaGreatDoorLaid
import Derived.Test.YtlocganmbeghjaaGreatDoorAx5
import Derived.KernelRfl
import Derived.RecoverIn
import Derived.TacticsIn
set_option linter.unusedSimpArgs false
set_option linter.unusedVariables false
namespace Go.Proofs.YtlocganmbeghjaaGreatDoor
open Go.Proofs Go.RowKit Go.Maps Go.Sort Go.Shelf

theorem sorts412_413 (m : Nat) : AnyZ.SortsIn Tryz.prog Tryz.sorted412_ren Fence.wide m :=
  ⟨fun blk off cap ss W hH hblk hsz => callsIn_wide.2 (AnyM.slices_Sort_string Tryz.sort465 blk off cap ss W hH hblk hsz),
   fun p cap W => callsIn_wide.2 (AnyM.slices_Sort_string_none Tryz.sort465 p cap W)⟩
theorem sk413 : Ax.SKOK Tryz.prog ⟨413, 412, 467, 9, 519, false⟩ := {
  str := fun _ => Tryz.underlying9
  int := fun h => by cases h
  sortedZ := fun h => by cases h
  keys := fun mb w => callsIn_wide.1 (AnyZ.keys_in Tryz.keys413 Fence.wide 5 trivial rfl mb w)
  sorted := fun _ pb b nn D0 w hlt hcell hown h1 h2 => callsIn_wide.1 (AnyZ.sorted_in Tryz.sorted412 Fence.wide 5 trivial trivial trivial trivial rfl (by omega) (sorts412_413 _) (enters_of Tryz.func465 (by kernel_rfl) rfl) 467 #[.pointer (some ⟨pb, 0, none⟩)] trivial (enters_of Tryz.func467 (by kernel_rfl) rfl) _ _ h1 h2 _ (AnyZ.keys_gives (ρ := Tryz.keys413_ren) { Tryz.keys413 with } Fence.wide _ trivial rfl (by omega) pb b nn D0 w hlt hcell hown))
  live1 := by kernel_rfl
  live2 := by kernel_rfl }

theorem sorts101_102 (m : Nat) : AnyZI.SortsIn Tryz.prog Tryz.sorted101_ren Fence.wide m :=
  ⟨fun blk off cap ss W hH hblk hsz => callsIn_wide.2 (AnyM.slices_Sort_int Tryz.sort168 blk off cap ss W hH hblk hsz),
   fun p cap W => callsIn_wide.2 (AnyM.slices_Sort_int_none Tryz.sort168 p cap W)⟩
theorem sk102 : Ax.SKOK Tryz.prog ⟨102, 101, 169, 3, 99, true⟩ := {
  str := fun h => by cases h
  int := fun _ => Tryz.underlying3
  sorted := fun h => by cases h
  keys := fun mb w => callsIn_wide.1 (AnyZI.keys_in Tryz.keys102 Fence.wide 5 trivial rfl mb w)
  sortedZ := fun _ pb b nn D0 w hlt hcell hown h1 h2 => callsIn_wide.1 (AnyZI.sorted_in Tryz.sorted101 Fence.wide 5 trivial trivial trivial trivial rfl (by omega) (sorts101_102 _) (enters_of Tryz.func168 (by kernel_rfl) rfl) 169 #[.pointer (some ⟨pb, 0, none⟩)] trivial (enters_of Tryz.func169 (by kernel_rfl) rfl) _ _ h1 h2 _ (AnyZI.keys_gives (ρ := Tryz.keys102_ren) { Tryz.keys102 with } Fence.wide _ trivial rfl (by omega) pb b nn D0 w hlt hcell hown))
  live1 := by kernel_rfl
  live2 := by kernel_rfl }

theorem sorts101_493 (m : Nat) : AnyZI.SortsIn Tryz.prog Tryz.sorted101_ren Fence.wide m :=
  ⟨fun blk off cap ss W hH hblk hsz => callsIn_wide.2 (AnyM.slices_Sort_int Tryz.sort168 blk off cap ss W hH hblk hsz),
   fun p cap W => callsIn_wide.2 (AnyM.slices_Sort_int_none Tryz.sort168 p cap W)⟩
theorem sk493 : Ax.SKOK Tryz.prog ⟨493, 101, 521, 3, 557, true⟩ := {
  str := fun h => by cases h
  int := fun _ => Tryz.underlying3
  sorted := fun h => by cases h
  keys := fun mb w => callsIn_wide.1 (AnyZI.keys_in Tryz.keys493 Fence.wide 5 trivial rfl mb w)
  sortedZ := fun _ pb b nn D0 w hlt hcell hown h1 h2 => callsIn_wide.1 (AnyZI.sorted_in Tryz.sorted101 Fence.wide 5 trivial trivial trivial trivial rfl (by omega) (sorts101_493 _) (enters_of Tryz.func168 (by kernel_rfl) rfl) 521 #[.pointer (some ⟨pb, 0, none⟩)] trivial (enters_of Tryz.func521 (by kernel_rfl) rfl) _ _ h1 h2 _ (AnyZI.keys_gives (ρ := Tryz.keys493_ren) { Tryz.keys493 with } Fence.wide _ trivial rfl (by omega) pb b nn D0 w hlt hcell hown))
  live1 := by kernel_rfl
  live2 := by kernel_rfl }

/-- -1 as a value -/
def Ax.O : Value := .int .i64 (.negSucc 0)
def sks : List Ax.SK := [⟨413, 412, 467, 9, 519, false⟩, ⟨102, 101, 169, 3, 99, true⟩, ⟨493, 101, 521, 3, 557, true⟩]
theorem mixed : Tryz.prog.follows .mixedOrders = true := by kernel_rfl
theorem sks_ok : Ax.SKsOK Tryz.prog sks := ⟨sk413, sk102, sk493, trivial⟩

theorem quiet266 : Ax.QuietOK Tryz.prog (266, 3) where
  live := by kernel_rfl
  does := fun x w n hx => by
    obtain ⟨x0, x1, x2, rfl⟩ : ∃ a b c, x = #[a, b, c] := by
      obtain ⟨l⟩ := x
      match l, hx with
      | [a, b, c], _ => exact ⟨a, b, c, rfl⟩
    refine callsDIn_of_wpSIn Tryz.func266 rfl trivial fun c₀ cs hu => ?_
    apply wpSIn_seq
    apply wpSIn_region
    simp [wpOpsSIn, go_sem, recoverD, hu, Tryz.ntmps266, Exit.thenS]
    refine wpSIn_of_wpIn rfl ?_
    apply wpIn_block
    apply wpIn_seq
    apply wpIn_region_lit
    simp [wpListIn, go_sem, Exit.then]
    apply wpIn_cond_true (by simp [Act.eval, Array.replicate])
    apply wpIn_region_lit
    simp [wpListIn, go_sem, Exit.inBlock, bodyPostS, results, Tryz.results266]
    cases c₀
    simp_all

def quiets : List (Nat × Nat) := [(266, 3)]
theorem quiets_ok : Ax.QuietsOK Tryz.prog quiets := ⟨quiet266, trivial⟩

end Go.Proofs.YtlocganmbeghjaaGreatDoor
