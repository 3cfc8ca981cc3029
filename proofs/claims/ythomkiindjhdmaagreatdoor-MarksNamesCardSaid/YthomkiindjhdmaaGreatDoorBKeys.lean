/-
  slices.Sorted(maps.Keys(m)), m's keys strings, keeps its contract at this program, at every map. No condition.
-/
import Derived.Test.YthomkiindjhdmaaGreatDoorLaid
import Derived.Test.YthomkiindjhdmaaGreatDoorBx5
import Derived.KernelRfl
import Derived.RecoverIn
import Derived.TacticsIn
set_option linter.unusedSimpArgs false
set_option linter.unusedVariables false
namespace Go.Proofs.YthomkiindjhdmaaGreatDoor
open Go.Proofs Go.RowKit Go.Maps Go.Sort Go.Shelf

theorem sorts182_183 (m : Nat) : AnyZ.SortsIn Tryz.prog Tryz.sorted182_ren Fence.wide m :=
  ⟨fun blk off cap ss W hH hblk hsz => callsIn_wide.2 (AnyM.slices_Sort_string Tryz.sort212 blk off cap ss W hH hblk hsz),
   fun p cap W => callsIn_wide.2 (AnyM.slices_Sort_string_none Tryz.sort212 p cap W)⟩
theorem sk183 : Ax.SKOK Tryz.prog ⟨183, 182, 214, 9, 306, false⟩ := {
  str := fun _ => Tryz.underlying9
  int := fun h => by cases h
  sortedZ := fun h => by cases h
  keys := fun mb w => callsIn_wide.1 (AnyZ.keys_in Tryz.keys183 Fence.wide 5 trivial rfl mb w)
  sorted := fun _ pb b nn D0 w hlt hcell hown h1 h2 => callsIn_wide.1 (AnyZ.sorted_in Tryz.sorted182 Fence.wide 5 trivial trivial trivial trivial rfl (by omega) (sorts182_183 _) (enters_of Tryz.func212 (by kernel_rfl) rfl) 214 #[.pointer (some ⟨pb, 0, none⟩)] trivial (enters_of Tryz.func214 (by kernel_rfl) rfl) _ _ h1 h2 _ (AnyZ.keys_gives (ρ := Tryz.keys183_ren) { Tryz.keys183 with } Fence.wide _ trivial rfl (by omega) pb b nn D0 w hlt hcell hown))
  live1 := by kernel_rfl
  live2 := by kernel_rfl }

theorem sorts201_202 (m : Nat) : AnyZI.SortsIn Tryz.prog Tryz.sorted201_ren Fence.wide m :=
  ⟨fun blk off cap ss W hH hblk hsz => callsIn_wide.2 (AnyM.slices_Sort_int Tryz.sort228 blk off cap ss W hH hblk hsz),
   fun p cap W => callsIn_wide.2 (AnyM.slices_Sort_int_none Tryz.sort228 p cap W)⟩
theorem sk202 : Ax.SKOK Tryz.prog ⟨202, 201, 229, 3, 278, true⟩ := {
  str := fun h => by cases h
  int := fun _ => Tryz.underlying3
  sorted := fun h => by cases h
  keys := fun mb w => callsIn_wide.1 (AnyZI.keys_in Tryz.keys202 Fence.wide 5 trivial rfl mb w)
  sortedZ := fun _ pb b nn D0 w hlt hcell hown h1 h2 => callsIn_wide.1 (AnyZI.sorted_in Tryz.sorted201 Fence.wide 5 trivial trivial trivial trivial rfl (by omega) (sorts201_202 _) (enters_of Tryz.func228 (by kernel_rfl) rfl) 229 #[.pointer (some ⟨pb, 0, none⟩)] trivial (enters_of Tryz.func229 (by kernel_rfl) rfl) _ _ h1 h2 _ (AnyZI.keys_gives (ρ := Tryz.keys202_ren) { Tryz.keys202 with } Fence.wide _ trivial rfl (by omega) pb b nn D0 w hlt hcell hown))
  live1 := by kernel_rfl
  live2 := by kernel_rfl }

/-- -1 as a value -/
def Ax.O : Value := .int .i64 (.negSucc 0)
def sks : List Ax.SK := [⟨183, 182, 214, 9, 306, false⟩, ⟨202, 201, 229, 3, 278, true⟩]
theorem mixed : Tryz.prog.follows .mixedOrders = true := by kernel_rfl
theorem sks_ok : Ax.SKsOK Tryz.prog sks := ⟨sk183, sk202, trivial⟩

theorem quiet73 : Ax.QuietOK Tryz.prog (73, 3) where
  live := by kernel_rfl
  does := fun x w n hx => by
    obtain ⟨x0, x1, x2, rfl⟩ : ∃ a b c, x = #[a, b, c] := by
      obtain ⟨l⟩ := x
      match l, hx with
      | [a, b, c], _ => exact ⟨a, b, c, rfl⟩
    refine callsDIn_of_wpSIn Tryz.func73 rfl trivial fun c₀ cs hu => ?_
    apply wpSIn_seq
    apply wpSIn_region
    simp [wpOpsSIn, go_sem, recoverD, hu, Tryz.ntmps73, Exit.thenS]
    refine wpSIn_of_wpIn rfl ?_
    apply wpIn_block
    apply wpIn_seq
    apply wpIn_region_lit
    simp [wpListIn, go_sem, Exit.then]
    apply wpIn_cond_true (by simp [Act.eval, Array.replicate])
    apply wpIn_region_lit
    simp [wpListIn, go_sem, Exit.inBlock, bodyPostS, results, Tryz.results73]
    cases c₀
    simp_all

def quiets : List (Nat × Nat) := [(73, 3)]
theorem quiets_ok : Ax.QuietsOK Tryz.prog quiets := ⟨quiet73, trivial⟩

end Go.Proofs.YthomkiindjhdmaaGreatDoor
