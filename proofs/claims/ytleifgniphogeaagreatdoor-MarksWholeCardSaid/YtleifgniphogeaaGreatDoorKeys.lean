/-
  slices.Sorted(maps.Keys(m)), m's keys strings, keeps its contract at this program, at every map. No condition.
-/
import Derived.Test.YtleifgniphogeaaGreatDoorLaid
import Derived.Test.YtleifgniphogeaaGreatDoorAx5
import Derived.KernelRfl
import Derived.RecoverIn
import Derived.TacticsIn
set_option linter.unusedSimpArgs false
set_option linter.unusedVariables false
namespace Go.Proofs.YtleifgniphogeaaGreatDoor
open Go.Proofs Go.RowKit Go.Maps Go.Sort Go.Shelf

theorem sorts129_130 (m:Nat):AnyZ.SortsIn Tryz.prog Tryz.sorted129_ren Fence.wide m:=
  ⟨fun blk off cap ss W hH hblk hsz=>callsIn_wide.2 (AnyM.slices_Sort_string Tryz.sort171 blk off cap ss W hH hblk hsz),
   fun p cap W=>callsIn_wide.2 (AnyM.slices_Sort_string_none Tryz.sort171 p cap W)⟩
theorem sk130:Ax.SKOK Tryz.prog ⟨130,129,173,9,214,false⟩:={
  str:=fun _=>Tryz.underlying9
  int:=fun h=>by cases h
  sortedZ:=fun h=>by cases h
  keys:=fun mb w=>callsIn_wide.1 (AnyZ.keys_in Tryz.keys130 Fence.wide 5 trivial rfl mb w)
  sorted:=fun _ pb b nn D0 w hlt hcell hown h1 h2=>callsIn_wide.1 (AnyZ.sorted_in Tryz.sorted129 Fence.wide 5 trivial trivial trivial trivial rfl (by omega) (sorts129_130 _) (enters_of Tryz.func171 (by kernel_rfl) rfl) 173 #[.pointer (some ⟨pb,0,none⟩)] trivial (enters_of Tryz.func173 (by kernel_rfl) rfl) _ _ h1 h2 _ (AnyZ.keys_gives (ρ:=Tryz.keys130_ren) { Tryz.keys130 with } Fence.wide _ trivial rfl (by omega) pb b nn D0 w hlt hcell hown))
  live1:=by kernel_rfl
  live2:=by kernel_rfl }

theorem sorts196_197 (m:Nat):AnyZI.SortsIn Tryz.prog Tryz.sorted196_ren Fence.wide m:=
  ⟨fun blk off cap ss W hH hblk hsz=>callsIn_wide.2 (AnyM.slices_Sort_int Tryz.sort217 blk off cap ss W hH hblk hsz),
   fun p cap W=>callsIn_wide.2 (AnyM.slices_Sort_int_none Tryz.sort217 p cap W)⟩
theorem sk197:Ax.SKOK Tryz.prog ⟨197,196,218,3,254,true⟩:={
  str:=fun h=>by cases h
  int:=fun _=>Tryz.underlying3
  sorted:=fun h=>by cases h
  keys:=fun mb w=>callsIn_wide.1 (AnyZI.keys_in Tryz.keys197 Fence.wide 5 trivial rfl mb w)
  sortedZ:=fun _ pb b nn D0 w hlt hcell hown h1 h2=>callsIn_wide.1 (AnyZI.sorted_in Tryz.sorted196 Fence.wide 5 trivial trivial trivial trivial rfl (by omega) (sorts196_197 _) (enters_of Tryz.func217 (by kernel_rfl) rfl) 218 #[.pointer (some ⟨pb,0,none⟩)] trivial (enters_of Tryz.func218 (by kernel_rfl) rfl) _ _ h1 h2 _ (AnyZI.keys_gives (ρ:=Tryz.keys197_ren) { Tryz.keys197 with } Fence.wide _ trivial rfl (by omega) pb b nn D0 w hlt hcell hown))
  live1:=by kernel_rfl
  live2:=by kernel_rfl }

/-- -1 as a value -/
def Ax.O:Value:=.int .i64 (.negSucc 0)
def sks:List Ax.SK:=[⟨130,129,173,9,214,false⟩,⟨197,196,218,3,254,true⟩]
theorem mixed:Tryz.prog.follows .mixedOrders=true:=by kernel_rfl
theorem qey_:Ax.SKsOK Tryz.prog sks:=⟨sk130,sk197,trivial⟩

theorem quiet50:Ax.QuietOK Tryz.prog (50,3) where
  live:=by kernel_rfl
  does:=fun x w n hx=>by
    obtain⟨x0,x1,x2,rfl⟩:∃ a b c,x=#[a,b,c]:=by
      obtain⟨l⟩:=x
      match l,hx with
      | [a,b,c],_=>exact⟨a,b,c,rfl⟩
    refine callsDIn_of_wpSIn Tryz.func50 rfl trivial fun c₀ cs hu=>?_
    apply wpSIn_seq
    apply wpSIn_region
    simp[wpOpsSIn,go_sem,recoverD,hu,Tryz.ntmps50,Exit.thenS]
    refine wpSIn_of_wpIn rfl ?_
    apply wpIn_block
    apply wpIn_seq
    apply wpIn_region_lit
    simp[wpListIn,go_sem,Exit.then]
    apply wpIn_cond_true (by simp[Act.eval,Array.replicate])
    apply wpIn_region_lit
    simp[wpListIn,go_sem,Exit.inBlock,bodyPostS,results,Tryz.results50]
    cases c₀
    simp_all

def qbd_:List (Nat×Nat):=[(50,3)]
theorem qr_:Ax.QuietsOK Tryz.prog qbd_:=⟨quiet50,trivial⟩

end Go.Proofs.YtleifgniphogeaaGreatDoor
