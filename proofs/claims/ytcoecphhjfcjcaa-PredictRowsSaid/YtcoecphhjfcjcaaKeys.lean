/-
  slices.Sorted(maps.Keys(m)), m's keys strings, keeps its contract at this program, at every map. No condition.
-/
import Derived.Test.YtcoecphhjfcjcaaLaid
import Derived.Test.YtcoecphhjfcjcaaAx5
import Derived.KernelRfl
import Derived.RecoverIn
import Derived.TacticsIn
set_option linter.unusedSimpArgs false
set_option linter.unusedVariables false
namespace Go.Proofs.Ytcoecphhjfcjcaa
open Go.Proofs Go.RowKit Go.Maps Go.Sort Go.Shelf

theorem sorts30_31 (m : Nat) : AnyZ.SortsIn Try.prog Try.sorted30_ren Fence.wide m :=
  ⟨fun blk off cap ss W hH hblk hsz => callsIn_wide.2 (AnyM.slices_Sort_string Try.sort38 blk off cap ss W hH hblk hsz),
   fun p cap W => callsIn_wide.2 (AnyM.slices_Sort_string_none Try.sort38 p cap W)⟩
theorem sk31 : Ax.SKOK Try.prog ⟨31, 30, 40, 9, 60, false⟩ := {
  str := fun _ => Try.underlying9
  int := fun h => by cases h
  sortedZ := fun h => by cases h
  keys := fun mb w => callsIn_wide.1 (AnyZ.keys_in Try.keys31 Fence.wide 5 trivial rfl mb w)
  sorted := fun _ pb b nn D0 w hlt hcell hown h1 h2 => callsIn_wide.1 (AnyZ.sorted_in Try.sorted30 Fence.wide 5 trivial trivial trivial trivial rfl (by omega) (sorts30_31 _) (enters_of Try.func38 (by kernel_rfl) rfl) 40 #[.pointer (some ⟨pb, 0, none⟩)] trivial (enters_of Try.func40 (by kernel_rfl) rfl) _ _ h1 h2 _ (AnyZ.keys_gives (ρ := Try.keys31_ren) { Try.keys31 with } Fence.wide _ trivial rfl (by omega) pb b nn D0 w hlt hcell hown))
  live1 := by kernel_rfl
  live2 := by kernel_rfl }

/-- -1 as a value -/
def Ax.O : Value := .int .i64 (.negSucc 0)
def sks : List Ax.SK := [⟨31, 30, 40, 9, 60, false⟩]
theorem mixed : Try.prog.follows .mixedOrders = true := by kernel_rfl
theorem sks_ok : Ax.SKsOK Try.prog sks := ⟨sk31, trivial⟩

theorem quiet10 : Ax.QuietOK Try.prog (10, 3) where
  live := by kernel_rfl
  does := fun x w n hx => by
    obtain ⟨x0, x1, x2, rfl⟩ : ∃ a b c, x = #[a, b, c] := by
      obtain ⟨l⟩ := x
      match l, hx with
      | [a, b, c], _ => exact ⟨a, b, c, rfl⟩
    refine callsDIn_of_wpSIn Try.func10 rfl trivial fun c₀ cs hu => ?_
    apply wpSIn_seq
    apply wpSIn_region
    simp [wpOpsSIn, go_sem, recoverD, hu, Try.ntmps10, Exit.thenS]
    refine wpSIn_of_wpIn rfl ?_
    apply wpIn_block
    apply wpIn_seq
    apply wpIn_region_lit
    simp [wpListIn, go_sem, Exit.then]
    apply wpIn_cond_true (by simp [Act.eval, Array.replicate])
    apply wpIn_region_lit
    simp [wpListIn, go_sem, Exit.inBlock, bodyPostS, results, Try.results10]
    cases c₀
    simp_all

def quiets : List (Nat × Nat) := [(10, 3)]
theorem quiets_ok : Ax.QuietsOK Try.prog quiets := ⟨quiet10, trivial⟩

end Go.Proofs.Ytcoecphhjfcjcaa
