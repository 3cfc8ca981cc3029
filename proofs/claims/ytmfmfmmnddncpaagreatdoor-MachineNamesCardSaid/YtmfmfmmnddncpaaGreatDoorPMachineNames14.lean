/-
  Parts of the run of viewportlaw18.MachineNames, in order: what each of these calls, and loops from a state on, gives, for each memory that holds what it looks at. No condition.
-/
import Derived.Test.YtmfmfmmnddncpaaGreatDoorAx9
import Derived.Test.YtmfmfmmnddncpaaGreatDoorKeys
import Derived.Test.YtmfmfmmnddncpaaGreatDoorTabsMachineNames
import Derived.Test.YtmfmfmmnddncpaaGreatDoorProg
import Derived.KernelRfl
import Derived.Test.YtmfmfmmnddncpaaGreatDoorPMachineNames13
set_option linter.unusedSimpArgs false
set_option linter.unusedVariables false
namespace Go.Proofs.YtmfmfmmnddncpaaGreatDoor.machineNames
open Go.Proofs Go.Proofs.YtmfmfmmnddncpaaGreatDoor Ax

noncomputable def b14_0 : LBlk := ⟨28497, .cells 156 [(S 28464 0 1 1180591620717411303425), (S 28496 0 1 1180591620717411303425)]⟩
noncomputable def e20990 : Entry := ⟨68, [(.agg #[(I 1), (I 1), (I 1), (S 14358 0 2 2)])], [⟨14357, .cells 3 [(I 0), (I 1)]⟩, ⟨14358, .cells 103 [(I 0), (S 14357 0 2 2), (I 0), (.slice none 0 0)]⟩], 27665, (.tuple #[(.agg #[(I 0), (I 0), (I 0), (.string ⟨#[]⟩)]), T]), [], 28061⟩
set_option maxRecDepth 1000000 in
theorem o20990 : EntryOK Tryz.prog e20990 := Ax.partCQ (ql := quiets) (K := sks) (l := [e21341]) (m := []) mixed quiets_ok sks_ok ⟨o21341, trivial⟩ trivial (by kernel_rfl)
noncomputable def e20815 : Entry := ⟨34, [(.agg #[(I 1), (I 1), (I 1), (S 14358 0 2 2)])], [⟨14357, .cells 3 [(I 0), (I 1)]⟩, ⟨14358, .cells 103 [(I 0), (S 14357 0 2 2), (I 0), (.slice none 0 0)]⟩], 27585, (.tuple #[(I 37448), T]), [], 28119⟩
set_option maxRecDepth 1000000 in
theorem o20815 : EntryOK Tryz.prog e20815 := Ax.partCQ (ql := quiets) (K := sks) (l := [e20990]) (m := []) mixed quiets_ok sks_ok ⟨o20990, trivial⟩ trivial (by kernel_rfl)
noncomputable def e22415 : Entry := ⟨74, [(.agg #[(I 1), (I 1), (I 1), (S 14358 0 2 2)])], [⟨14357, .cells 3 [(I 0), (I 1)]⟩, ⟨14358, .cells 103 [(I 0), (S 14357 0 2 2), (I 0), (.slice none 0 0)]⟩], 28247, (S 28370 0 1 1), [⟨28371, .cells 9 [(.string ⟨#[255]⟩)]⟩, ⟨28370, .cells 156 [(S 28371 0 1 1)]⟩], 28423⟩
set_option maxRecDepth 1000000 in
theorem o22415 : EntryOK Tryz.prog e22415 := Ax.partCQ (ql := quiets) (K := sks) (l := []) (m := []) mixed quiets_ok sks_ok trivial trivial (by kernel_rfl)
noncomputable def e22065 : Entry := ⟨35, [(.agg #[(I 1), (I 1), (I 1), (S 14358 0 2 2)])], [⟨14357, .cells 3 [(I 0), (I 1)]⟩, ⟨14358, .cells 103 [(I 0), (S 14357 0 2 2), (I 0), (.slice none 0 0)]⟩], 28119, (.tuple #[(.agg #[(S 28497 0 2 1180591620717411303425)]), (.agg #[(I 0), (I 0), (I 0), (.string ⟨#[]⟩)]), (I 0)]), [⟨28464, .cells 9 [(.string ⟨#[0]⟩)]⟩, ⟨28496, .cells 9 [(.string ⟨#[255]⟩)]⟩, b14_0], 28512⟩
set_option maxRecDepth 1000000 in
theorem o22065 : EntryOK Tryz.prog e22065 := Ax.partCQ (ql := quiets) (K := sks) (l := [e22415]) (m := []) mixed quiets_ok sks_ok ⟨o22415, trivial⟩ trivial (by kernel_rfl)
noncomputable def e23029 : Entry := ⟨37, [(.agg #[(I 1), (I 1), (I 1), (S 14358 0 2 2)])], [⟨14357, .cells 3 [(I 0), (I 1)]⟩, ⟨14358, .cells 103 [(I 0), (S 14357 0 2 2), (I 0), (.slice none 0 0)]⟩], 28530, (S 28709 0 1 1180591620717411303425), [⟨28707, .cells 4 [F, T]⟩, ⟨28709, .cells 157 [(S 28707 0 2 2)]⟩], 28710⟩
set_option maxRecDepth 1000000 in
theorem o23029 : EntryOK Tryz.prog e23029 := Ax.partCQ (ql := quiets) (K := sks) (l := []) (m := []) mixed quiets_ok sks_ok trivial trivial (by kernel_rfl)

end Go.Proofs.YtmfmfmmnddncpaaGreatDoor.machineNames
