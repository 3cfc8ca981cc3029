/-
  Parts of the run of viewportlaw17.FreshNil, in order: what each of these calls, and loops from a state on, gives, for each memory that holds what it looks at. No condition.
-/
import Derived.Test.YtgieimiffdfdhaaGreatDoorAx9
import Derived.Test.YtgieimiffdfdhaaGreatDoorKeys
import Derived.Test.YtgieimiffdfdhaaGreatDoorTabsFreshNil
import Derived.Test.YtgieimiffdfdhaaGreatDoorProg
import Derived.KernelRfl
import Derived.Test.YtgieimiffdfdhaaGreatDoorPFreshNil6
set_option linter.unusedSimpArgs false
set_option linter.unusedVariables false
namespace Go.Proofs.YtgieimiffdfdhaaGreatDoor.freshNil
open Go.Proofs Go.Proofs.YtgieimiffdfdhaaGreatDoor Ax

noncomputable def b7_0 : LBlk := ⟨14142, .cells 121 [(S 14109 0 1 1180591620717411303425), (S 14141 0 1 1180591620717411303425)]⟩
noncomputable def e9244 : Entry := ⟨94, [(.agg #[(I 1), (I 1), (I 1), (S 3 0 2 2)])], [⟨2, .cells 3 [(I 0), (I 1)]⟩, ⟨3, .cells 119 [(I 0), (S 2 0 2 2), (I 0), (.slice none 0 0)]⟩], 13310, (.tuple #[(.agg #[(I 0), (I 0), (I 0), (.string ⟨#[]⟩)]), T]), [], 13706⟩
set_option maxRecDepth 1000000 in
theorem o9244 : EntryOK Tryz.prog e9244 := Ax.partCQ (ql := quiets) (K := sks) (l := [e9595]) (m := []) mixed quiets_ok sks_ok ⟨o9595, trivial⟩ trivial (by kernel_rfl)
noncomputable def e9069 : Entry := ⟨55, [(.agg #[(I 1), (I 1), (I 1), (S 3 0 2 2)])], [⟨2, .cells 3 [(I 0), (I 1)]⟩, ⟨3, .cells 119 [(I 0), (S 2 0 2 2), (I 0), (.slice none 0 0)]⟩], 13230, (.tuple #[(I 37448), T]), [], 13764⟩
set_option maxRecDepth 1000000 in
theorem o9069 : EntryOK Tryz.prog e9069 := Ax.partCQ (ql := quiets) (K := sks) (l := [e9244]) (m := []) mixed quiets_ok sks_ok ⟨o9244, trivial⟩ trivial (by kernel_rfl)
noncomputable def e10669 : Entry := ⟨99, [(.agg #[(I 1), (I 1), (I 1), (S 3 0 2 2)])], [⟨2, .cells 3 [(I 0), (I 1)]⟩, ⟨3, .cells 119 [(I 0), (S 2 0 2 2), (I 0), (.slice none 0 0)]⟩], 13892, (S 14015 0 1 1), [⟨14016, .cells 9 [(.string ⟨#[255]⟩)]⟩, ⟨14015, .cells 121 [(S 14016 0 1 1)]⟩], 14068⟩
set_option maxRecDepth 1000000 in
theorem o10669 : EntryOK Tryz.prog e10669 := Ax.partCQ (ql := quiets) (K := sks) (l := []) (m := []) mixed quiets_ok sks_ok trivial trivial (by kernel_rfl)
noncomputable def e10319 : Entry := ⟨56, [(.agg #[(I 1), (I 1), (I 1), (S 3 0 2 2)])], [⟨2, .cells 3 [(I 0), (I 1)]⟩, ⟨3, .cells 119 [(I 0), (S 2 0 2 2), (I 0), (.slice none 0 0)]⟩], 13764, (.tuple #[(.agg #[(S 14142 0 2 1180591620717411303425)]), (.agg #[(I 0), (I 0), (I 0), (.string ⟨#[]⟩)]), (I 0)]), [⟨14109, .cells 9 [(.string ⟨#[0]⟩)]⟩, ⟨14141, .cells 9 [(.string ⟨#[255]⟩)]⟩, b7_0], 14157⟩
set_option maxRecDepth 1000000 in
theorem o10319 : EntryOK Tryz.prog e10319 := Ax.partCQ (ql := quiets) (K := sks) (l := [e10669]) (m := []) mixed quiets_ok sks_ok ⟨o10669, trivial⟩ trivial (by kernel_rfl)
noncomputable def e11283 : Entry := ⟨57, [(.agg #[(I 1), (I 1), (I 1), (S 3 0 2 2)])], [⟨2, .cells 3 [(I 0), (I 1)]⟩, ⟨3, .cells 119 [(I 0), (S 2 0 2 2), (I 0), (.slice none 0 0)]⟩], 14175, (S 14354 0 1 1180591620717411303425), [⟨14352, .cells 4 [F, T]⟩, ⟨14354, .cells 70 [(S 14352 0 2 2)]⟩], 14355⟩
set_option maxRecDepth 1000000 in
theorem o11283 : EntryOK Tryz.prog e11283 := Ax.partCQ (ql := quiets) (K := sks) (l := []) (m := []) mixed quiets_ok sks_ok trivial trivial (by kernel_rfl)

end Go.Proofs.YtgieimiffdfdhaaGreatDoor.freshNil
