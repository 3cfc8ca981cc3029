/-
  Parts of the run of viewportlaw18.MachineNames, in order: what each of these calls, and loops from a state on, gives, for each memory that holds what it looks at. No condition.
-/
import Derived.Test.YtmfmfmmnddncpaaGreatDoorAx9
import Derived.Test.YtmfmfmmnddncpaaGreatDoorKeys
import Derived.Test.YtmfmfmmnddncpaaGreatDoorTabsMachineNames
import Derived.Test.YtmfmfmmnddncpaaGreatDoorProg
import Derived.KernelRfl
import Derived.Test.YtmfmfmmnddncpaaGreatDoorPMachineNames7
import Derived.Test.YtmfmfmmnddncpaaGreatDoorPMachineNames10
import Derived.Test.YtmfmfmmnddncpaaGreatDoorPMachineNames11
import Derived.Test.YtmfmfmmnddncpaaGreatDoorPMachineNames12
set_option linter.unusedSimpArgs false
set_option linter.unusedVariables false
namespace Go.Proofs.YtmfmfmmnddncpaaGreatDoor.machineNames
open Go.Proofs Go.Proofs.YtmfmfmmnddncpaaGreatDoor Ax

noncomputable def e15186 : Entry := ⟨101, [(.agg #[(S 25491 0 768 1180591620717411303425), (S 22433 0 3 1180591620717411303425)])], [b9_7, ⟨22433, .cells 3 [O, (I 1), (I 0)]⟩], 25493, (.tuple #[(.agg #[(S 27109 0 768 1180591620717411303425), (S 26596 0 3 1180591620717411303425)]), (I 0)]), [b12_2, ⟨26596, .cells 3 [O, (I 1), (I 0)]⟩], 27110⟩
set_option maxRecDepth 1000000 in
theorem o15186 : EntryOK Tryz.prog e15186 := Ax.partCQ (ql := quiets) (K := sks) (l := []) (m := [g15250, g16028, g16742, g17346, g18906]) mixed quiets_ok sks_ok trivial ⟨h15250, h16028, h16742, h17346, h18906, trivial⟩ (by kernel_rfl)
noncomputable def e11982 : Entry := ⟨64, [(S 14538 0 2 1180591620717411303425)], [⟨14445, .cells 3 [(I 0)]⟩, ⟨14457, .cells 291 [(I 2), (.int .u64 (.ofNat 0)), (.int .u64 (.ofNat 576460743713488896)), (.int .u64 (.ofNat 0)), (.int .u64 (.ofNat 0)), (.slice none 0 0), (I 6), (.int .u64 (.ofNat 0)), (.int .u64 (.ofNat 0)), (.int .u64 (.ofNat 0)), (.int .u64 (.ofNat 0)), (S 14445 0 1 1)]⟩, ⟨14509, .cells 3 [(I 0)]⟩, ⟨14521, .cells 291 [(I 2), (.int .u64 (.ofNat 4294967296)), (.int .u64 (.ofNat 0)), (.int .u64 (.ofNat 0)), (.int .u64 (.ofNat 0)), (.slice none 0 0), (I 6), (.int .u64 (.ofNat 0)), (.int .u64 (.ofNat 0)), (.int .u64 (.ofNat 0)), (.int .u64 (.ofNat 0)), (S 14509 0 1 1)]⟩, ⟨14538, .cells 142 [(S 14457 0 2 1180591620717411303430), (S 14521 0 2 1180591620717411303430)]⟩], 14541, (.tuple #[(.agg #[(S 27109 0 768 1180591620717411303425), (S 26596 0 3 1180591620717411303425)]), (I 0)]), [b12_2, ⟨26596, .cells 3 [O, (I 1), (I 0)]⟩], 27110⟩
set_option maxRecDepth 1000000 in
theorem o11982 : EntryOK Tryz.prog e11982 := Ax.partCQ (ql := quiets) (K := sks) (l := [e12146, e15186]) (m := [g12115, g12127, g12132, g12144]) mixed quiets_ok sks_ok ⟨o12146, o15186, trivial⟩ ⟨h12115, h12127, h12132, h12144, trivial⟩ (by kernel_rfl)
noncomputable def e11752 : Entry := ⟨32, [(S 14356 0 2 2)], [⟨14356, .cells 101 [(.string ⟨#[119, 111, 114, 100]⟩), (.string ⟨#[91, 97, 45, 122, 93, 43]⟩), F, (.string ⟨#[103, 97, 112]⟩), (.string ⟨#[91, 32, 93, 43]⟩), T]⟩], 14360, (.tuple #[(.agg #[(S 27109 0 768 1180591620717411303425), (S 26596 0 3 1180591620717411303425), (S 14540 0 2 1180591620717411303425), (I 1)]), (I 2), (I 0)]), [b12_2, ⟨26596, .cells 3 [O, (I 1), (I 0)]⟩, ⟨14540, .cells 3 [(I 0), O]⟩], 27110⟩
set_option maxRecDepth 1000000 in
theorem o11752 : EntryOK Tryz.prog e11752 := Ax.partCQ (ql := quiets) (K := sks) (l := [e11982]) (m := [g11762, g11841, g11903, g11930]) mixed quiets_ok sks_ok ⟨o11982, trivial⟩ ⟨h11762, h11841, h11903, h11930, trivial⟩ (by kernel_rfl)
noncomputable def e20207 : Entry := ⟨74, [(.agg #[(I 1), (I 1), (I 1), (S 14358 0 2 2)])], [⟨14357, .cells 3 [(I 0), (I 1)]⟩, ⟨14358, .cells 103 [(I 0), (S 14357 0 2 2), (I 0), (.slice none 0 0)]⟩], 27318, (S 27441 0 1 1), [⟨27442, .cells 9 [(.string ⟨#[255]⟩)]⟩, ⟨27441, .cells 156 [(S 27442 0 1 1)]⟩], 27494⟩
set_option maxRecDepth 1000000 in
theorem o20207 : EntryOK Tryz.prog e20207 := Ax.partCQ (ql := quiets) (K := sks) (l := []) (m := []) mixed quiets_ok sks_ok trivial trivial (by kernel_rfl)
noncomputable def e19856 : Entry := ⟨68, [(.agg #[(I 1), (I 1), (I 1), (S 14358 0 2 2)])], [⟨14357, .cells 3 [(I 0), (I 1)]⟩, ⟨14358, .cells 103 [(I 0), (S 14357 0 2 2), (I 0), (.slice none 0 0)]⟩], 27188, (.tuple #[(.agg #[(I 0), (I 0), (I 0), (.string ⟨#[]⟩)]), T]), [], 27584⟩
set_option maxRecDepth 1000000 in
theorem o19856 : EntryOK Tryz.prog e19856 := Ax.partCQ (ql := quiets) (K := sks) (l := [e20207]) (m := []) mixed quiets_ok sks_ok ⟨o20207, trivial⟩ trivial (by kernel_rfl)
noncomputable def e21341 : Entry := ⟨74, [(.agg #[(I 1), (I 1), (I 1), (S 14358 0 2 2)])], [⟨14357, .cells 3 [(I 0), (I 1)]⟩, ⟨14358, .cells 103 [(I 0), (S 14357 0 2 2), (I 0), (.slice none 0 0)]⟩], 27795, (S 27918 0 1 1), [⟨27919, .cells 9 [(.string ⟨#[255]⟩)]⟩, ⟨27918, .cells 156 [(S 27919 0 1 1)]⟩], 27971⟩
set_option maxRecDepth 1000000 in
theorem o21341 : EntryOK Tryz.prog e21341 := Ax.partCQ (ql := quiets) (K := sks) (l := []) (m := []) mixed quiets_ok sks_ok trivial trivial (by kernel_rfl)

end Go.Proofs.YtmfmfmmnddncpaaGreatDoor.machineNames
