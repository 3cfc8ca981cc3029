/-
  Parts of the run of viewportlaw02.RegexNames, in order: what each of these calls, and loops from a state on, gives, for each memory that holds what it looks at. No condition.
-/
import Derived.Test.YthomkiindjhdmaaDoorAx9
import Derived.Test.YthomkiindjhdmaaDoorKeys
import Derived.Test.YthomkiindjhdmaaDoorTabsRegexNames
import Derived.Test.YthomkiindjhdmaaDoorProg
import Derived.KernelRfl
set_option linter.unusedSimpArgs false
set_option linter.unusedVariables false
namespace Go.Proofs.YthomkiindjhdmaaDoor.regexNames
open Go.Proofs Go.Proofs.YthomkiindjhdmaaDoor Ax

noncomputable def b7_0 : LBlk := ⟨2068, .cells 42 [(I 2), (.int .u64 (.ofNat 0)), (.int .u64 (.ofNat 8589934592)), (.int .u64 (.ofNat 0)), (.int .u64 (.ofNat 0)), (.slice none 0 0), (I 2), (.int .u64 (.ofNat 0)), (.int .u64 (.ofNat 17179869184)), (.int .u64 (.ofNat 0)), (.int .u64 (.ofNat 0)), (.slice none 0 0), (I 4), (.int .u64 (.ofNat 0)), (.int .u64 (.ofNat 0)), (.int .u64 (.ofNat 0)), (.int .u64 (.ofNat 0)), (S 1991 0 2 1180591620717411303425), (I 5), (.int .u64 (.ofNat 0)), (.int .u64 (.ofNat 0)), (.int .u64 (.ofNat 0)), (.int .u64 (.ofNat 0)), (S 2008 0 1 1), (I 2), (.int .u64 (.ofNat 0)), (.int .u64 (.ofNat 34359738368)), (.int .u64 (.ofNat 0)), (.int .u64 (.ofNat 0)), (.slice none 0 0), (I 7), (.int .u64 (.ofNat 0)), (.int .u64 (.ofNat 0)), (.int .u64 (.ofNat 0)), (.int .u64 (.ofNat 0)), (S 2044 0 1 1), (I 3), (.int .u64 (.ofNat 0)), (.int .u64 (.ofNat 0)), (.int .u64 (.ofNat 0)), (.int .u64 (.ofNat 0)), (S 2041 0 2 1180591620717411303425)]⟩
noncomputable def e4900 : Entry := ⟨13, [(S 2068 0 7 1180591620717411303430), (.string ⟨#[99, 97]⟩)], [⟨1991, .cells 3 [(I 0), (I 1)]⟩, ⟨2008, .cells 3 [(I 2)]⟩, ⟨2044, .cells 3 [(I 4)]⟩, ⟨2041, .cells 3 [(I 3), (I 5)]⟩, b7_0], 2384, F, [], 2484⟩
set_option maxRecDepth 1000000 in
theorem o4900 : EntryOK Tryd.prog e4900 := Ax.partCQ (ql := quiets) (K := sks) (l := []) (m := []) mixed quiets_ok sks_ok trivial trivial (by kernel_rfl)
noncomputable def e5167 : Entry := ⟨15, [(S 2068 0 7 1180591620717411303430)], [⟨1991, .cells 3 [(I 0), (I 1)]⟩, ⟨2008, .cells 3 [(I 2)]⟩, ⟨2044, .cells 3 [(I 4)]⟩, ⟨2041, .cells 3 [(I 3), (I 5)]⟩, b7_0], 2507, (I 0), [], 2536⟩
set_option maxRecDepth 1000000 in
theorem o5167 : EntryOK Tryd.prog e5167 := Ax.partCQ (ql := quiets) (K := sks) (l := []) (m := []) mixed quiets_ok sks_ok trivial trivial (by kernel_rfl)
noncomputable def e5275 : Entry := ⟨15, [(S 2068 0 7 1180591620717411303430)], [⟨1991, .cells 3 [(I 0), (I 1)]⟩, ⟨2008, .cells 3 [(I 2)]⟩, ⟨2044, .cells 3 [(I 4)]⟩, ⟨2041, .cells 3 [(I 3), (I 5)]⟩, b7_0], 2536, (I 0), [], 2565⟩
set_option maxRecDepth 1000000 in
theorem o5275 : EntryOK Tryd.prog e5275 := Ax.partCQ (ql := quiets) (K := sks) (l := []) (m := []) mixed quiets_ok sks_ok trivial trivial (by kernel_rfl)
noncomputable def e5404 : Entry := ⟨16, [(S 2068 0 7 1180591620717411303430), (.slice none 0 0)], [⟨1991, .cells 3 [(I 0), (I 1)]⟩, ⟨2008, .cells 3 [(I 2)]⟩, ⟨2044, .cells 3 [(I 4)]⟩, ⟨2041, .cells 3 [(I 3), (I 5)]⟩, b7_0], 2664, F, [], 2693⟩
set_option maxRecDepth 1000000 in
theorem o5404 : EntryOK Tryd.prog e5404 := Ax.partCQ (ql := quiets) (K := sks) (l := []) (m := []) mixed quiets_ok sks_ok trivial trivial (by kernel_rfl)

end Go.Proofs.YthomkiindjhdmaaDoor.regexNames
