/-
  Parts of the run of viewportlaw17.FreshNil, in order: what each of these calls, and loops from a state on, gives, for each memory that holds what it looks at. No condition.
-/
import Derived.Test.YtgieimiffdfdhaaGreatDoorAx9
import Derived.Test.YtgieimiffdfdhaaGreatDoorKeys
import Derived.Test.YtgieimiffdfdhaaGreatDoorTabsFreshNil
import Derived.Test.YtgieimiffdfdhaaGreatDoorProg
import Derived.KernelRfl
import Derived.Test.YtgieimiffdfdhaaGreatDoorPFreshNil1
import Derived.Test.YtgieimiffdfdhaaGreatDoorPFreshNil3
import Derived.Test.YtgieimiffdfdhaaGreatDoorPFreshNil4
import Derived.Test.YtgieimiffdfdhaaGreatDoorPFreshNil5
set_option linter.unusedSimpArgs false
set_option linter.unusedVariables false
namespace Go.Proofs.YtgieimiffdfdhaaGreatDoor.freshNil
open Go.Proofs Go.Proofs.YtgieimiffdfdhaaGreatDoor Ax

noncomputable def e3440 : Entry := ⟨127, [(.agg #[(S 11136 0 768 1180591620717411303425), (S 8078 0 3 1180591620717411303425)])], [b2_6, ⟨8078, .cells 3 [O, (I 1), (I 0)]⟩], 11138, (.tuple #[(.agg #[(S 12754 0 768 1180591620717411303425), (S 12241 0 3 1180591620717411303425)]), (I 0)]), [b5_2, ⟨12241, .cells 3 [O, (I 1), (I 0)]⟩], 12755⟩
set_option maxRecDepth 1000000 in
theorem o3440 : EntryOK Tryz.prog e3440 := Ax.partCQ (ql := quiets) (K := sks) (l := []) (m := [g3504, g4282, g4996, g5600, g7160]) mixed quiets_ok sks_ok trivial ⟨h3504, h4282, h4996, h5600, h7160, trivial⟩ (by kernel_rfl)
noncomputable def e236 : Entry := ⟨91, [(S 183 0 2 1180591620717411303425)], [⟨90, .cells 3 [(I 0)]⟩, ⟨102, .cells 310 [(I 2), (.int .u64 (.ofNat 0)), (.int .u64 (.ofNat 576460743713488896)), (.int .u64 (.ofNat 0)), (.int .u64 (.ofNat 0)), (.slice none 0 0), (I 6), (.int .u64 (.ofNat 0)), (.int .u64 (.ofNat 0)), (.int .u64 (.ofNat 0)), (.int .u64 (.ofNat 0)), (S 90 0 1 1)]⟩, ⟨154, .cells 3 [(I 0)]⟩, ⟨166, .cells 310 [(I 2), (.int .u64 (.ofNat 4294967296)), (.int .u64 (.ofNat 0)), (.int .u64 (.ofNat 0)), (.int .u64 (.ofNat 0)), (.slice none 0 0), (I 6), (.int .u64 (.ofNat 0)), (.int .u64 (.ofNat 0)), (.int .u64 (.ofNat 0)), (.int .u64 (.ofNat 0)), (S 154 0 1 1)]⟩, ⟨183, .cells 178 [(S 102 0 2 1180591620717411303430), (S 166 0 2 1180591620717411303430)]⟩], 186, (.tuple #[(.agg #[(S 12754 0 768 1180591620717411303425), (S 12241 0 3 1180591620717411303425)]), (I 0)]), [b5_2, ⟨12241, .cells 3 [O, (I 1), (I 0)]⟩], 12755⟩
set_option maxRecDepth 1000000 in
theorem o236 : EntryOK Tryz.prog e236 := Ax.partCQ (ql := quiets) (K := sks) (l := [e400, e3440]) (m := [g369, g381, g386, g398]) mixed quiets_ok sks_ok ⟨o400, o3440, trivial⟩ ⟨h369, h381, h386, h398, trivial⟩ (by kernel_rfl)
noncomputable def e6 : Entry := ⟨53, [(S 1 0 2 2)], [⟨1, .cells 133 [(.string ⟨#[119, 111, 114, 100]⟩), (.string ⟨#[91, 97, 45, 122, 93, 43]⟩), F, (.string ⟨#[103, 97, 112]⟩), (.string ⟨#[91, 32, 93, 43]⟩), T]⟩], 5, (.tuple #[(.agg #[(S 12754 0 768 1180591620717411303425), (S 12241 0 3 1180591620717411303425), (S 185 0 2 1180591620717411303425), (I 1)]), (I 2), (I 0)]), [b5_2, ⟨12241, .cells 3 [O, (I 1), (I 0)]⟩, ⟨185, .cells 3 [(I 0), O]⟩], 12755⟩
set_option maxRecDepth 1000000 in
theorem o6 : EntryOK Tryz.prog e6 := Ax.partCQ (ql := quiets) (K := sks) (l := [e236]) (m := [g16, g95, g157, g184]) mixed quiets_ok sks_ok ⟨o236, trivial⟩ ⟨h16, h95, h157, h184, trivial⟩ (by kernel_rfl)
noncomputable def e8461 : Entry := ⟨99, [(.agg #[(I 1), (I 1), (I 1), (S 3 0 2 2)])], [⟨2, .cells 3 [(I 0), (I 1)]⟩, ⟨3, .cells 119 [(I 0), (S 2 0 2 2), (I 0), (.slice none 0 0)]⟩], 12963, (S 13086 0 1 1), [⟨13087, .cells 9 [(.string ⟨#[255]⟩)]⟩, ⟨13086, .cells 121 [(S 13087 0 1 1)]⟩], 13139⟩
set_option maxRecDepth 1000000 in
theorem o8461 : EntryOK Tryz.prog e8461 := Ax.partCQ (ql := quiets) (K := sks) (l := []) (m := []) mixed quiets_ok sks_ok trivial trivial (by kernel_rfl)
noncomputable def e8110 : Entry := ⟨94, [(.agg #[(I 1), (I 1), (I 1), (S 3 0 2 2)])], [⟨2, .cells 3 [(I 0), (I 1)]⟩, ⟨3, .cells 119 [(I 0), (S 2 0 2 2), (I 0), (.slice none 0 0)]⟩], 12833, (.tuple #[(.agg #[(I 0), (I 0), (I 0), (.string ⟨#[]⟩)]), T]), [], 13229⟩
set_option maxRecDepth 1000000 in
theorem o8110 : EntryOK Tryz.prog e8110 := Ax.partCQ (ql := quiets) (K := sks) (l := [e8461]) (m := []) mixed quiets_ok sks_ok ⟨o8461, trivial⟩ trivial (by kernel_rfl)
noncomputable def e9595 : Entry := ⟨99, [(.agg #[(I 1), (I 1), (I 1), (S 3 0 2 2)])], [⟨2, .cells 3 [(I 0), (I 1)]⟩, ⟨3, .cells 119 [(I 0), (S 2 0 2 2), (I 0), (.slice none 0 0)]⟩], 13440, (S 13563 0 1 1), [⟨13564, .cells 9 [(.string ⟨#[255]⟩)]⟩, ⟨13563, .cells 121 [(S 13564 0 1 1)]⟩], 13616⟩
set_option maxRecDepth 1000000 in
theorem o9595 : EntryOK Tryz.prog e9595 := Ax.partCQ (ql := quiets) (K := sks) (l := []) (m := []) mixed quiets_ok sks_ok trivial trivial (by kernel_rfl)

end Go.Proofs.YtgieimiffdfdhaaGreatDoor.freshNil
