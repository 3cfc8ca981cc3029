/-
  slices.Sorted(maps.Keys(m)), m's keys strings, keeps its contract at this program, at every map. No condition.
-/
import Derived.Test.YtoocpkmefmjcjaaGreatLaid
import Derived.Test.YtoocpkmefmjcjaaGreatAx5
import Derived.KernelRfl
import Derived.RecoverIn
import Derived.TacticsIn
set_option linter.unusedSimpArgs false
set_option linter.unusedVariables false
namespace Go.Proofs.YtoocpkmefmjcjaaGreat
open Go.Proofs Go.RowKit Go.Maps Go.Sort Go.Shelf

theorem sorts79_80 (m : Nat) : AnyZ.SortsIn Tryz.prog Tryz.sorted79_ren Fence.wide m :=
  ⟨fun blk off cap ss W hH hblk hsz => callsIn_wide.2 (AnyM.slices_Sort_string Tryz.sort87 blk off cap ss W hH hblk hsz),
   fun p cap W => callsIn_wide.2 (AnyM.slices_Sort_string_none Tryz.sort87 p cap W)⟩
theorem sk80 : Ax.SKOK Tryz.prog ⟨80, 79, 89, 9, 100⟩ := {
  str := Tryz.underlying9
  keys := fun mb w => callsIn_wide.1 (AnyZ.keys_in Tryz.keys80 Fence.wide 5 trivial rfl mb w)
  sorted := fun pb b nn D0 w hlt hcell hown h1 h2 => callsIn_wide.1 (AnyZ.sorted_in Tryz.sorted79 Fence.wide 5 trivial trivial trivial trivial rfl (by omega) (sorts79_80 _) (enters_of Tryz.func87 (by kernel_rfl) rfl) 89 #[.pointer (some ⟨pb, 0, none⟩)] trivial (enters_of Tryz.func89 (by kernel_rfl) rfl) _ _ h1 h2 _ (AnyZ.keys_gives (ρ := Tryz.keys80_ren) { Tryz.keys80 with } Fence.wide _ trivial rfl (by omega) pb b nn D0 w hlt hcell hown))
  live1 := by kernel_rfl
  live2 := by kernel_rfl }

def sks : List Ax.SK := [⟨80, 79, 89, 9, 100⟩]
theorem mixed : Tryz.prog.follows .mixedOrders = true := by kernel_rfl
theorem sks_ok : Ax.SKsOK Tryz.prog sks := ⟨sk80, trivial⟩

theorem quiet47 : Ax.QuietOK Tryz.prog (47, 3) where
  live := by kernel_rfl
  does := fun x w n hx => by
    obtain ⟨x0, x1, x2, rfl⟩ : ∃ a b c, x = #[a, b, c] := by
      obtain ⟨l⟩ := x
      match l, hx with
      | [a, b, c], _ => exact ⟨a, b, c, rfl⟩
    refine callsDIn_of_wpSIn Tryz.func47 rfl trivial fun c₀ cs hu => ?_
    apply wpSIn_seq
    apply wpSIn_region
    simp [wpOpsSIn, go_sem, recoverD, hu, Tryz.ntmps47, Exit.thenS]
    refine wpSIn_of_wpIn rfl ?_
    apply wpIn_block
    apply wpIn_seq
    apply wpIn_region_lit
    simp [wpListIn, go_sem, Exit.then]
    apply wpIn_cond_true (by simp [Act.eval, Array.replicate])
    apply wpIn_region_lit
    simp [wpListIn, go_sem, Exit.inBlock, bodyPostS, results, Tryz.results47]
    cases c₀
    simp_all

def quiets : List (Nat × Nat) := [(47, 3)]
theorem quiets_ok : Ax.QuietsOK Tryz.prog quiets := ⟨quiet47, trivial⟩

end Go.Proofs.YtoocpkmefmjcjaaGreat
