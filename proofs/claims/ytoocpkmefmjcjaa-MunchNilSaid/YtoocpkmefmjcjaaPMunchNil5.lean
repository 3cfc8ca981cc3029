/-
  Parts of the run of viewportlaw06.MunchNil, in order: what each of these calls gives, for each memory that holds what it looks at. No condition.
-/
import Derived.Test.YtoocpkmefmjcjaaAx1
import Derived.Test.YtoocpkmefmjcjaaKeys
import Derived.Test.YtoocpkmefmjcjaaProg
import Derived.KernelRfl
set_option linter.unusedSimpArgs false
set_option linter.unusedVariables false
namespace Go.Proofs.Ytoocpkmefmjcjaa.munchNil
open Go.Proofs Go.Proofs.Ytoocpkmefmjcjaa Ax

noncomputable def b5_0 : List LBlk := [⟨263, .cells 149 [(.int .u64 (.ofNat 0)), (.int .u64 (.ofNat 0)), (.int .u64 (.ofNat 0)), (.int .u64 (.ofNat 0)), (.int .u64 (.ofNat 0)), (.int .u64 (.ofNat 8589934592)), (.int .u64 (.ofNat 0)), (.int .u64 (.ofNat 0)), (.int .u64 (.ofNat 0)), (.int .u64 (.ofNat 17179869184)), (.int .u64 (.ofNat 0)), (.int .u64 (.ofNat 0)), (.int .u64 (.ofNat 287948901175001088)), (.int .u64 (.ofNat 0)), (.int .u64 (.ofNat 0)), (.int .u64 (.ofNat 0))]⟩, ⟨275, .cells 3 [(I 1), (I 3)]⟩, ⟨217, .cells 3 [(I 2)]⟩, ⟨213, .cells 3 [(I 2)]⟩, ⟨271, .cells 3 [(I 3)]⟩, ⟨264, .cells 47 [(S 275 0 2 1180591620717411303425), (S 217 0 1 1180591620717411303425), (S 213 0 1 1180591620717411303425), (S 271 0 1 1180591620717411303425)]⟩, ⟨265, .cells 3 [(M 0), (I 0), (I 0), (I 1)]⟩, ⟨4033, .cells 3 [(I 2)]⟩]
noncomputable def e1987 : Entry := ⟨102, [(.agg #[(S 263 0 4 1180591620717411303428), (S 264 0 4 1180591620717411303425), (S 265 0 4 1180591620717411303425)]), (S 4033 0 1 1180591620717411303425), (.int .u8 (.ofNat 37))], b5_0, 5049, (.slice none 0 0), [], 5052⟩
set_option maxRecDepth 1000000 in
theorem o1987 : EntryOK Try.prog e1987 := Ax.part (K := sks) (l := []) mixed sks_ok trivial (by kernel_rfl)
noncomputable def e1989 : Entry := ⟨102, [(.agg #[(S 263 0 4 1180591620717411303428), (S 264 0 4 1180591620717411303425), (S 265 0 4 1180591620717411303425)]), (S 4033 0 1 1180591620717411303425), (.int .u8 (.ofNat 38))], b5_0, 5054, (.slice none 0 0), [], 5057⟩
set_option maxRecDepth 1000000 in
theorem o1989 : EntryOK Try.prog e1989 := Ax.part (K := sks) (l := []) mixed sks_ok trivial (by kernel_rfl)
noncomputable def e1991 : Entry := ⟨102, [(.agg #[(S 263 0 4 1180591620717411303428), (S 264 0 4 1180591620717411303425), (S 265 0 4 1180591620717411303425)]), (S 4033 0 1 1180591620717411303425), (.int .u8 (.ofNat 39))], b5_0, 5059, (.slice none 0 0), [], 5062⟩
set_option maxRecDepth 1000000 in
theorem o1991 : EntryOK Try.prog e1991 := Ax.part (K := sks) (l := []) mixed sks_ok trivial (by kernel_rfl)
noncomputable def e1993 : Entry := ⟨102, [(.agg #[(S 263 0 4 1180591620717411303428), (S 264 0 4 1180591620717411303425), (S 265 0 4 1180591620717411303425)]), (S 4033 0 1 1180591620717411303425), (.int .u8 (.ofNat 40))], b5_0, 5064, (.slice none 0 0), [], 5067⟩
set_option maxRecDepth 1000000 in
theorem o1993 : EntryOK Try.prog e1993 := Ax.part (K := sks) (l := []) mixed sks_ok trivial (by kernel_rfl)
noncomputable def e1995 : Entry := ⟨102, [(.agg #[(S 263 0 4 1180591620717411303428), (S 264 0 4 1180591620717411303425), (S 265 0 4 1180591620717411303425)]), (S 4033 0 1 1180591620717411303425), (.int .u8 (.ofNat 41))], b5_0, 5069, (.slice none 0 0), [], 5072⟩
set_option maxRecDepth 1000000 in
theorem o1995 : EntryOK Try.prog e1995 := Ax.part (K := sks) (l := []) mixed sks_ok trivial (by kernel_rfl)
noncomputable def e1997 : Entry := ⟨102, [(.agg #[(S 263 0 4 1180591620717411303428), (S 264 0 4 1180591620717411303425), (S 265 0 4 1180591620717411303425)]), (S 4033 0 1 1180591620717411303425), (.int .u8 (.ofNat 42))], b5_0, 5074, (.slice none 0 0), [], 5077⟩
set_option maxRecDepth 1000000 in
theorem o1997 : EntryOK Try.prog e1997 := Ax.part (K := sks) (l := []) mixed sks_ok trivial (by kernel_rfl)
noncomputable def e1999 : Entry := ⟨102, [(.agg #[(S 263 0 4 1180591620717411303428), (S 264 0 4 1180591620717411303425), (S 265 0 4 1180591620717411303425)]), (S 4033 0 1 1180591620717411303425), (.int .u8 (.ofNat 43))], b5_0, 5079, (.slice none 0 0), [], 5082⟩
set_option maxRecDepth 1000000 in
theorem o1999 : EntryOK Try.prog e1999 := Ax.part (K := sks) (l := []) mixed sks_ok trivial (by kernel_rfl)
noncomputable def e2001 : Entry := ⟨102, [(.agg #[(S 263 0 4 1180591620717411303428), (S 264 0 4 1180591620717411303425), (S 265 0 4 1180591620717411303425)]), (S 4033 0 1 1180591620717411303425), (.int .u8 (.ofNat 44))], b5_0, 5084, (.slice none 0 0), [], 5087⟩
set_option maxRecDepth 1000000 in
theorem o2001 : EntryOK Try.prog e2001 := Ax.part (K := sks) (l := []) mixed sks_ok trivial (by kernel_rfl)
noncomputable def e2003 : Entry := ⟨102, [(.agg #[(S 263 0 4 1180591620717411303428), (S 264 0 4 1180591620717411303425), (S 265 0 4 1180591620717411303425)]), (S 4033 0 1 1180591620717411303425), (.int .u8 (.ofNat 45))], b5_0, 5089, (.slice none 0 0), [], 5092⟩
set_option maxRecDepth 1000000 in
theorem o2003 : EntryOK Try.prog e2003 := Ax.part (K := sks) (l := []) mixed sks_ok trivial (by kernel_rfl)
noncomputable def e2005 : Entry := ⟨102, [(.agg #[(S 263 0 4 1180591620717411303428), (S 264 0 4 1180591620717411303425), (S 265 0 4 1180591620717411303425)]), (S 4033 0 1 1180591620717411303425), (.int .u8 (.ofNat 46))], b5_0, 5094, (.slice none 0 0), [], 5097⟩
set_option maxRecDepth 1000000 in
theorem o2005 : EntryOK Try.prog e2005 := Ax.part (K := sks) (l := []) mixed sks_ok trivial (by kernel_rfl)
noncomputable def e2007 : Entry := ⟨102, [(.agg #[(S 263 0 4 1180591620717411303428), (S 264 0 4 1180591620717411303425), (S 265 0 4 1180591620717411303425)]), (S 4033 0 1 1180591620717411303425), (.int .u8 (.ofNat 47))], b5_0, 5099, (.slice none 0 0), [], 5102⟩
set_option maxRecDepth 1000000 in
theorem o2007 : EntryOK Try.prog e2007 := Ax.part (K := sks) (l := []) mixed sks_ok trivial (by kernel_rfl)
noncomputable def e2009 : Entry := ⟨102, [(.agg #[(S 263 0 4 1180591620717411303428), (S 264 0 4 1180591620717411303425), (S 265 0 4 1180591620717411303425)]), (S 4033 0 1 1180591620717411303425), (.int .u8 (.ofNat 48))], b5_0, 5104, (.slice none 0 0), [], 5107⟩
set_option maxRecDepth 1000000 in
theorem o2009 : EntryOK Try.prog e2009 := Ax.part (K := sks) (l := []) mixed sks_ok trivial (by kernel_rfl)
noncomputable def e2011 : Entry := ⟨102, [(.agg #[(S 263 0 4 1180591620717411303428), (S 264 0 4 1180591620717411303425), (S 265 0 4 1180591620717411303425)]), (S 4033 0 1 1180591620717411303425), (.int .u8 (.ofNat 49))], b5_0, 5109, (.slice none 0 0), [], 5112⟩
set_option maxRecDepth 1000000 in
theorem o2011 : EntryOK Try.prog e2011 := Ax.part (K := sks) (l := []) mixed sks_ok trivial (by kernel_rfl)
noncomputable def e2013 : Entry := ⟨102, [(.agg #[(S 263 0 4 1180591620717411303428), (S 264 0 4 1180591620717411303425), (S 265 0 4 1180591620717411303425)]), (S 4033 0 1 1180591620717411303425), (.int .u8 (.ofNat 50))], b5_0, 5114, (.slice none 0 0), [], 5117⟩
set_option maxRecDepth 1000000 in
theorem o2013 : EntryOK Try.prog e2013 := Ax.part (K := sks) (l := []) mixed sks_ok trivial (by kernel_rfl)
noncomputable def e2015 : Entry := ⟨102, [(.agg #[(S 263 0 4 1180591620717411303428), (S 264 0 4 1180591620717411303425), (S 265 0 4 1180591620717411303425)]), (S 4033 0 1 1180591620717411303425), (.int .u8 (.ofNat 51))], b5_0, 5119, (.slice none 0 0), [], 5122⟩
set_option maxRecDepth 1000000 in
theorem o2015 : EntryOK Try.prog e2015 := Ax.part (K := sks) (l := []) mixed sks_ok trivial (by kernel_rfl)
noncomputable def e2017 : Entry := ⟨102, [(.agg #[(S 263 0 4 1180591620717411303428), (S 264 0 4 1180591620717411303425), (S 265 0 4 1180591620717411303425)]), (S 4033 0 1 1180591620717411303425), (.int .u8 (.ofNat 52))], b5_0, 5124, (.slice none 0 0), [], 5127⟩
set_option maxRecDepth 1000000 in
theorem o2017 : EntryOK Try.prog e2017 := Ax.part (K := sks) (l := []) mixed sks_ok trivial (by kernel_rfl)
noncomputable def e2019 : Entry := ⟨102, [(.agg #[(S 263 0 4 1180591620717411303428), (S 264 0 4 1180591620717411303425), (S 265 0 4 1180591620717411303425)]), (S 4033 0 1 1180591620717411303425), (.int .u8 (.ofNat 53))], b5_0, 5129, (.slice none 0 0), [], 5132⟩
set_option maxRecDepth 1000000 in
theorem o2019 : EntryOK Try.prog e2019 := Ax.part (K := sks) (l := []) mixed sks_ok trivial (by kernel_rfl)
noncomputable def e2021 : Entry := ⟨102, [(.agg #[(S 263 0 4 1180591620717411303428), (S 264 0 4 1180591620717411303425), (S 265 0 4 1180591620717411303425)]), (S 4033 0 1 1180591620717411303425), (.int .u8 (.ofNat 54))], b5_0, 5134, (.slice none 0 0), [], 5137⟩
set_option maxRecDepth 1000000 in
theorem o2021 : EntryOK Try.prog e2021 := Ax.part (K := sks) (l := []) mixed sks_ok trivial (by kernel_rfl)
noncomputable def e2023 : Entry := ⟨102, [(.agg #[(S 263 0 4 1180591620717411303428), (S 264 0 4 1180591620717411303425), (S 265 0 4 1180591620717411303425)]), (S 4033 0 1 1180591620717411303425), (.int .u8 (.ofNat 55))], b5_0, 5139, (.slice none 0 0), [], 5142⟩
set_option maxRecDepth 1000000 in
theorem o2023 : EntryOK Try.prog e2023 := Ax.part (K := sks) (l := []) mixed sks_ok trivial (by kernel_rfl)
noncomputable def e2025 : Entry := ⟨102, [(.agg #[(S 263 0 4 1180591620717411303428), (S 264 0 4 1180591620717411303425), (S 265 0 4 1180591620717411303425)]), (S 4033 0 1 1180591620717411303425), (.int .u8 (.ofNat 56))], b5_0, 5144, (.slice none 0 0), [], 5147⟩
set_option maxRecDepth 1000000 in
theorem o2025 : EntryOK Try.prog e2025 := Ax.part (K := sks) (l := []) mixed sks_ok trivial (by kernel_rfl)
noncomputable def e2027 : Entry := ⟨102, [(.agg #[(S 263 0 4 1180591620717411303428), (S 264 0 4 1180591620717411303425), (S 265 0 4 1180591620717411303425)]), (S 4033 0 1 1180591620717411303425), (.int .u8 (.ofNat 57))], b5_0, 5149, (.slice none 0 0), [], 5152⟩
set_option maxRecDepth 1000000 in
theorem o2027 : EntryOK Try.prog e2027 := Ax.part (K := sks) (l := []) mixed sks_ok trivial (by kernel_rfl)
noncomputable def e2029 : Entry := ⟨102, [(.agg #[(S 263 0 4 1180591620717411303428), (S 264 0 4 1180591620717411303425), (S 265 0 4 1180591620717411303425)]), (S 4033 0 1 1180591620717411303425), (.int .u8 (.ofNat 58))], b5_0, 5154, (.slice none 0 0), [], 5157⟩
set_option maxRecDepth 1000000 in
theorem o2029 : EntryOK Try.prog e2029 := Ax.part (K := sks) (l := []) mixed sks_ok trivial (by kernel_rfl)
noncomputable def e2031 : Entry := ⟨102, [(.agg #[(S 263 0 4 1180591620717411303428), (S 264 0 4 1180591620717411303425), (S 265 0 4 1180591620717411303425)]), (S 4033 0 1 1180591620717411303425), (.int .u8 (.ofNat 59))], b5_0, 5159, (.slice none 0 0), [], 5162⟩
set_option maxRecDepth 1000000 in
theorem o2031 : EntryOK Try.prog e2031 := Ax.part (K := sks) (l := []) mixed sks_ok trivial (by kernel_rfl)
noncomputable def e2033 : Entry := ⟨102, [(.agg #[(S 263 0 4 1180591620717411303428), (S 264 0 4 1180591620717411303425), (S 265 0 4 1180591620717411303425)]), (S 4033 0 1 1180591620717411303425), (.int .u8 (.ofNat 60))], b5_0, 5164, (.slice none 0 0), [], 5167⟩
set_option maxRecDepth 1000000 in
theorem o2033 : EntryOK Try.prog e2033 := Ax.part (K := sks) (l := []) mixed sks_ok trivial (by kernel_rfl)
noncomputable def e2035 : Entry := ⟨102, [(.agg #[(S 263 0 4 1180591620717411303428), (S 264 0 4 1180591620717411303425), (S 265 0 4 1180591620717411303425)]), (S 4033 0 1 1180591620717411303425), (.int .u8 (.ofNat 61))], b5_0, 5169, (.slice none 0 0), [], 5172⟩
set_option maxRecDepth 1000000 in
theorem o2035 : EntryOK Try.prog e2035 := Ax.part (K := sks) (l := []) mixed sks_ok trivial (by kernel_rfl)
noncomputable def e2037 : Entry := ⟨102, [(.agg #[(S 263 0 4 1180591620717411303428), (S 264 0 4 1180591620717411303425), (S 265 0 4 1180591620717411303425)]), (S 4033 0 1 1180591620717411303425), (.int .u8 (.ofNat 62))], b5_0, 5174, (.slice none 0 0), [], 5177⟩
set_option maxRecDepth 1000000 in
theorem o2037 : EntryOK Try.prog e2037 := Ax.part (K := sks) (l := []) mixed sks_ok trivial (by kernel_rfl)
noncomputable def e2039 : Entry := ⟨102, [(.agg #[(S 263 0 4 1180591620717411303428), (S 264 0 4 1180591620717411303425), (S 265 0 4 1180591620717411303425)]), (S 4033 0 1 1180591620717411303425), (.int .u8 (.ofNat 63))], b5_0, 5179, (.slice none 0 0), [], 5182⟩
set_option maxRecDepth 1000000 in
theorem o2039 : EntryOK Try.prog e2039 := Ax.part (K := sks) (l := []) mixed sks_ok trivial (by kernel_rfl)
noncomputable def e2041 : Entry := ⟨102, [(.agg #[(S 263 0 4 1180591620717411303428), (S 264 0 4 1180591620717411303425), (S 265 0 4 1180591620717411303425)]), (S 4033 0 1 1180591620717411303425), (.int .u8 (.ofNat 64))], b5_0, 5184, (.slice none 0 0), [], 5187⟩
set_option maxRecDepth 1000000 in
theorem o2041 : EntryOK Try.prog e2041 := Ax.part (K := sks) (l := []) mixed sks_ok trivial (by kernel_rfl)
noncomputable def e2043 : Entry := ⟨102, [(.agg #[(S 263 0 4 1180591620717411303428), (S 264 0 4 1180591620717411303425), (S 265 0 4 1180591620717411303425)]), (S 4033 0 1 1180591620717411303425), (.int .u8 (.ofNat 65))], b5_0, 5189, (.slice none 0 0), [], 5192⟩
set_option maxRecDepth 1000000 in
theorem o2043 : EntryOK Try.prog e2043 := Ax.part (K := sks) (l := []) mixed sks_ok trivial (by kernel_rfl)
noncomputable def e2045 : Entry := ⟨102, [(.agg #[(S 263 0 4 1180591620717411303428), (S 264 0 4 1180591620717411303425), (S 265 0 4 1180591620717411303425)]), (S 4033 0 1 1180591620717411303425), (.int .u8 (.ofNat 66))], b5_0, 5194, (.slice none 0 0), [], 5197⟩
set_option maxRecDepth 1000000 in
theorem o2045 : EntryOK Try.prog e2045 := Ax.part (K := sks) (l := []) mixed sks_ok trivial (by kernel_rfl)
noncomputable def e2047 : Entry := ⟨102, [(.agg #[(S 263 0 4 1180591620717411303428), (S 264 0 4 1180591620717411303425), (S 265 0 4 1180591620717411303425)]), (S 4033 0 1 1180591620717411303425), (.int .u8 (.ofNat 67))], b5_0, 5199, (.slice none 0 0), [], 5202⟩
set_option maxRecDepth 1000000 in
theorem o2047 : EntryOK Try.prog e2047 := Ax.part (K := sks) (l := []) mixed sks_ok trivial (by kernel_rfl)
noncomputable def e2049 : Entry := ⟨102, [(.agg #[(S 263 0 4 1180591620717411303428), (S 264 0 4 1180591620717411303425), (S 265 0 4 1180591620717411303425)]), (S 4033 0 1 1180591620717411303425), (.int .u8 (.ofNat 68))], b5_0, 5204, (.slice none 0 0), [], 5207⟩
set_option maxRecDepth 1000000 in
theorem o2049 : EntryOK Try.prog e2049 := Ax.part (K := sks) (l := []) mixed sks_ok trivial (by kernel_rfl)
noncomputable def e2051 : Entry := ⟨102, [(.agg #[(S 263 0 4 1180591620717411303428), (S 264 0 4 1180591620717411303425), (S 265 0 4 1180591620717411303425)]), (S 4033 0 1 1180591620717411303425), (.int .u8 (.ofNat 69))], b5_0, 5209, (.slice none 0 0), [], 5212⟩
set_option maxRecDepth 1000000 in
theorem o2051 : EntryOK Try.prog e2051 := Ax.part (K := sks) (l := []) mixed sks_ok trivial (by kernel_rfl)
noncomputable def e2053 : Entry := ⟨102, [(.agg #[(S 263 0 4 1180591620717411303428), (S 264 0 4 1180591620717411303425), (S 265 0 4 1180591620717411303425)]), (S 4033 0 1 1180591620717411303425), (.int .u8 (.ofNat 70))], b5_0, 5214, (.slice none 0 0), [], 5217⟩
set_option maxRecDepth 1000000 in
theorem o2053 : EntryOK Try.prog e2053 := Ax.part (K := sks) (l := []) mixed sks_ok trivial (by kernel_rfl)
noncomputable def e2055 : Entry := ⟨102, [(.agg #[(S 263 0 4 1180591620717411303428), (S 264 0 4 1180591620717411303425), (S 265 0 4 1180591620717411303425)]), (S 4033 0 1 1180591620717411303425), (.int .u8 (.ofNat 71))], b5_0, 5219, (.slice none 0 0), [], 5222⟩
set_option maxRecDepth 1000000 in
theorem o2055 : EntryOK Try.prog e2055 := Ax.part (K := sks) (l := []) mixed sks_ok trivial (by kernel_rfl)
noncomputable def e2057 : Entry := ⟨102, [(.agg #[(S 263 0 4 1180591620717411303428), (S 264 0 4 1180591620717411303425), (S 265 0 4 1180591620717411303425)]), (S 4033 0 1 1180591620717411303425), (.int .u8 (.ofNat 72))], b5_0, 5224, (.slice none 0 0), [], 5227⟩
set_option maxRecDepth 1000000 in
theorem o2057 : EntryOK Try.prog e2057 := Ax.part (K := sks) (l := []) mixed sks_ok trivial (by kernel_rfl)
noncomputable def e2059 : Entry := ⟨102, [(.agg #[(S 263 0 4 1180591620717411303428), (S 264 0 4 1180591620717411303425), (S 265 0 4 1180591620717411303425)]), (S 4033 0 1 1180591620717411303425), (.int .u8 (.ofNat 73))], b5_0, 5229, (.slice none 0 0), [], 5232⟩
set_option maxRecDepth 1000000 in
theorem o2059 : EntryOK Try.prog e2059 := Ax.part (K := sks) (l := []) mixed sks_ok trivial (by kernel_rfl)
noncomputable def e2061 : Entry := ⟨102, [(.agg #[(S 263 0 4 1180591620717411303428), (S 264 0 4 1180591620717411303425), (S 265 0 4 1180591620717411303425)]), (S 4033 0 1 1180591620717411303425), (.int .u8 (.ofNat 74))], b5_0, 5234, (.slice none 0 0), [], 5237⟩
set_option maxRecDepth 1000000 in
theorem o2061 : EntryOK Try.prog e2061 := Ax.part (K := sks) (l := []) mixed sks_ok trivial (by kernel_rfl)
noncomputable def e2063 : Entry := ⟨102, [(.agg #[(S 263 0 4 1180591620717411303428), (S 264 0 4 1180591620717411303425), (S 265 0 4 1180591620717411303425)]), (S 4033 0 1 1180591620717411303425), (.int .u8 (.ofNat 75))], b5_0, 5239, (.slice none 0 0), [], 5242⟩
set_option maxRecDepth 1000000 in
theorem o2063 : EntryOK Try.prog e2063 := Ax.part (K := sks) (l := []) mixed sks_ok trivial (by kernel_rfl)
noncomputable def e2065 : Entry := ⟨102, [(.agg #[(S 263 0 4 1180591620717411303428), (S 264 0 4 1180591620717411303425), (S 265 0 4 1180591620717411303425)]), (S 4033 0 1 1180591620717411303425), (.int .u8 (.ofNat 76))], b5_0, 5244, (.slice none 0 0), [], 5247⟩
set_option maxRecDepth 1000000 in
theorem o2065 : EntryOK Try.prog e2065 := Ax.part (K := sks) (l := []) mixed sks_ok trivial (by kernel_rfl)
noncomputable def e2067 : Entry := ⟨102, [(.agg #[(S 263 0 4 1180591620717411303428), (S 264 0 4 1180591620717411303425), (S 265 0 4 1180591620717411303425)]), (S 4033 0 1 1180591620717411303425), (.int .u8 (.ofNat 77))], b5_0, 5249, (.slice none 0 0), [], 5252⟩
set_option maxRecDepth 1000000 in
theorem o2067 : EntryOK Try.prog e2067 := Ax.part (K := sks) (l := []) mixed sks_ok trivial (by kernel_rfl)
noncomputable def e2069 : Entry := ⟨102, [(.agg #[(S 263 0 4 1180591620717411303428), (S 264 0 4 1180591620717411303425), (S 265 0 4 1180591620717411303425)]), (S 4033 0 1 1180591620717411303425), (.int .u8 (.ofNat 78))], b5_0, 5254, (.slice none 0 0), [], 5257⟩
set_option maxRecDepth 1000000 in
theorem o2069 : EntryOK Try.prog e2069 := Ax.part (K := sks) (l := []) mixed sks_ok trivial (by kernel_rfl)
noncomputable def e2071 : Entry := ⟨102, [(.agg #[(S 263 0 4 1180591620717411303428), (S 264 0 4 1180591620717411303425), (S 265 0 4 1180591620717411303425)]), (S 4033 0 1 1180591620717411303425), (.int .u8 (.ofNat 79))], b5_0, 5259, (.slice none 0 0), [], 5262⟩
set_option maxRecDepth 1000000 in
theorem o2071 : EntryOK Try.prog e2071 := Ax.part (K := sks) (l := []) mixed sks_ok trivial (by kernel_rfl)
noncomputable def e2073 : Entry := ⟨102, [(.agg #[(S 263 0 4 1180591620717411303428), (S 264 0 4 1180591620717411303425), (S 265 0 4 1180591620717411303425)]), (S 4033 0 1 1180591620717411303425), (.int .u8 (.ofNat 80))], b5_0, 5264, (.slice none 0 0), [], 5267⟩
set_option maxRecDepth 1000000 in
theorem o2073 : EntryOK Try.prog e2073 := Ax.part (K := sks) (l := []) mixed sks_ok trivial (by kernel_rfl)
noncomputable def e2075 : Entry := ⟨102, [(.agg #[(S 263 0 4 1180591620717411303428), (S 264 0 4 1180591620717411303425), (S 265 0 4 1180591620717411303425)]), (S 4033 0 1 1180591620717411303425), (.int .u8 (.ofNat 81))], b5_0, 5269, (.slice none 0 0), [], 5272⟩
set_option maxRecDepth 1000000 in
theorem o2075 : EntryOK Try.prog e2075 := Ax.part (K := sks) (l := []) mixed sks_ok trivial (by kernel_rfl)
noncomputable def e2077 : Entry := ⟨102, [(.agg #[(S 263 0 4 1180591620717411303428), (S 264 0 4 1180591620717411303425), (S 265 0 4 1180591620717411303425)]), (S 4033 0 1 1180591620717411303425), (.int .u8 (.ofNat 82))], b5_0, 5274, (.slice none 0 0), [], 5277⟩
set_option maxRecDepth 1000000 in
theorem o2077 : EntryOK Try.prog e2077 := Ax.part (K := sks) (l := []) mixed sks_ok trivial (by kernel_rfl)
noncomputable def e2079 : Entry := ⟨102, [(.agg #[(S 263 0 4 1180591620717411303428), (S 264 0 4 1180591620717411303425), (S 265 0 4 1180591620717411303425)]), (S 4033 0 1 1180591620717411303425), (.int .u8 (.ofNat 83))], b5_0, 5279, (.slice none 0 0), [], 5282⟩
set_option maxRecDepth 1000000 in
theorem o2079 : EntryOK Try.prog e2079 := Ax.part (K := sks) (l := []) mixed sks_ok trivial (by kernel_rfl)
noncomputable def e2081 : Entry := ⟨102, [(.agg #[(S 263 0 4 1180591620717411303428), (S 264 0 4 1180591620717411303425), (S 265 0 4 1180591620717411303425)]), (S 4033 0 1 1180591620717411303425), (.int .u8 (.ofNat 84))], b5_0, 5284, (.slice none 0 0), [], 5287⟩
set_option maxRecDepth 1000000 in
theorem o2081 : EntryOK Try.prog e2081 := Ax.part (K := sks) (l := []) mixed sks_ok trivial (by kernel_rfl)
noncomputable def e2083 : Entry := ⟨102, [(.agg #[(S 263 0 4 1180591620717411303428), (S 264 0 4 1180591620717411303425), (S 265 0 4 1180591620717411303425)]), (S 4033 0 1 1180591620717411303425), (.int .u8 (.ofNat 85))], b5_0, 5289, (.slice none 0 0), [], 5292⟩
set_option maxRecDepth 1000000 in
theorem o2083 : EntryOK Try.prog e2083 := Ax.part (K := sks) (l := []) mixed sks_ok trivial (by kernel_rfl)
noncomputable def e2085 : Entry := ⟨102, [(.agg #[(S 263 0 4 1180591620717411303428), (S 264 0 4 1180591620717411303425), (S 265 0 4 1180591620717411303425)]), (S 4033 0 1 1180591620717411303425), (.int .u8 (.ofNat 86))], b5_0, 5294, (.slice none 0 0), [], 5297⟩
set_option maxRecDepth 1000000 in
theorem o2085 : EntryOK Try.prog e2085 := Ax.part (K := sks) (l := []) mixed sks_ok trivial (by kernel_rfl)
noncomputable def e2087 : Entry := ⟨102, [(.agg #[(S 263 0 4 1180591620717411303428), (S 264 0 4 1180591620717411303425), (S 265 0 4 1180591620717411303425)]), (S 4033 0 1 1180591620717411303425), (.int .u8 (.ofNat 87))], b5_0, 5299, (.slice none 0 0), [], 5302⟩
set_option maxRecDepth 1000000 in
theorem o2087 : EntryOK Try.prog e2087 := Ax.part (K := sks) (l := []) mixed sks_ok trivial (by kernel_rfl)
noncomputable def e2089 : Entry := ⟨102, [(.agg #[(S 263 0 4 1180591620717411303428), (S 264 0 4 1180591620717411303425), (S 265 0 4 1180591620717411303425)]), (S 4033 0 1 1180591620717411303425), (.int .u8 (.ofNat 88))], b5_0, 5304, (.slice none 0 0), [], 5307⟩
set_option maxRecDepth 1000000 in
theorem o2089 : EntryOK Try.prog e2089 := Ax.part (K := sks) (l := []) mixed sks_ok trivial (by kernel_rfl)
noncomputable def e2091 : Entry := ⟨102, [(.agg #[(S 263 0 4 1180591620717411303428), (S 264 0 4 1180591620717411303425), (S 265 0 4 1180591620717411303425)]), (S 4033 0 1 1180591620717411303425), (.int .u8 (.ofNat 89))], b5_0, 5309, (.slice none 0 0), [], 5312⟩
set_option maxRecDepth 1000000 in
theorem o2091 : EntryOK Try.prog e2091 := Ax.part (K := sks) (l := []) mixed sks_ok trivial (by kernel_rfl)
noncomputable def e2093 : Entry := ⟨102, [(.agg #[(S 263 0 4 1180591620717411303428), (S 264 0 4 1180591620717411303425), (S 265 0 4 1180591620717411303425)]), (S 4033 0 1 1180591620717411303425), (.int .u8 (.ofNat 90))], b5_0, 5314, (.slice none 0 0), [], 5317⟩
set_option maxRecDepth 1000000 in
theorem o2093 : EntryOK Try.prog e2093 := Ax.part (K := sks) (l := []) mixed sks_ok trivial (by kernel_rfl)
noncomputable def e2095 : Entry := ⟨102, [(.agg #[(S 263 0 4 1180591620717411303428), (S 264 0 4 1180591620717411303425), (S 265 0 4 1180591620717411303425)]), (S 4033 0 1 1180591620717411303425), (.int .u8 (.ofNat 91))], b5_0, 5319, (.slice none 0 0), [], 5322⟩
set_option maxRecDepth 1000000 in
theorem o2095 : EntryOK Try.prog e2095 := Ax.part (K := sks) (l := []) mixed sks_ok trivial (by kernel_rfl)
noncomputable def e2097 : Entry := ⟨102, [(.agg #[(S 263 0 4 1180591620717411303428), (S 264 0 4 1180591620717411303425), (S 265 0 4 1180591620717411303425)]), (S 4033 0 1 1180591620717411303425), (.int .u8 (.ofNat 92))], b5_0, 5324, (.slice none 0 0), [], 5327⟩
set_option maxRecDepth 1000000 in
theorem o2097 : EntryOK Try.prog e2097 := Ax.part (K := sks) (l := []) mixed sks_ok trivial (by kernel_rfl)
noncomputable def e2099 : Entry := ⟨102, [(.agg #[(S 263 0 4 1180591620717411303428), (S 264 0 4 1180591620717411303425), (S 265 0 4 1180591620717411303425)]), (S 4033 0 1 1180591620717411303425), (.int .u8 (.ofNat 93))], b5_0, 5329, (.slice none 0 0), [], 5332⟩
set_option maxRecDepth 1000000 in
theorem o2099 : EntryOK Try.prog e2099 := Ax.part (K := sks) (l := []) mixed sks_ok trivial (by kernel_rfl)
noncomputable def e2101 : Entry := ⟨102, [(.agg #[(S 263 0 4 1180591620717411303428), (S 264 0 4 1180591620717411303425), (S 265 0 4 1180591620717411303425)]), (S 4033 0 1 1180591620717411303425), (.int .u8 (.ofNat 94))], b5_0, 5334, (.slice none 0 0), [], 5337⟩
set_option maxRecDepth 1000000 in
theorem o2101 : EntryOK Try.prog e2101 := Ax.part (K := sks) (l := []) mixed sks_ok trivial (by kernel_rfl)
noncomputable def e2103 : Entry := ⟨102, [(.agg #[(S 263 0 4 1180591620717411303428), (S 264 0 4 1180591620717411303425), (S 265 0 4 1180591620717411303425)]), (S 4033 0 1 1180591620717411303425), (.int .u8 (.ofNat 95))], b5_0, 5339, (.slice none 0 0), [], 5342⟩
set_option maxRecDepth 1000000 in
theorem o2103 : EntryOK Try.prog e2103 := Ax.part (K := sks) (l := []) mixed sks_ok trivial (by kernel_rfl)
noncomputable def e2105 : Entry := ⟨102, [(.agg #[(S 263 0 4 1180591620717411303428), (S 264 0 4 1180591620717411303425), (S 265 0 4 1180591620717411303425)]), (S 4033 0 1 1180591620717411303425), (.int .u8 (.ofNat 96))], b5_0, 5344, (.slice none 0 0), [], 5347⟩
set_option maxRecDepth 1000000 in
theorem o2105 : EntryOK Try.prog e2105 := Ax.part (K := sks) (l := []) mixed sks_ok trivial (by kernel_rfl)
noncomputable def e2107 : Entry := ⟨102, [(.agg #[(S 263 0 4 1180591620717411303428), (S 264 0 4 1180591620717411303425), (S 265 0 4 1180591620717411303425)]), (S 4033 0 1 1180591620717411303425), (.int .u8 (.ofNat 97))], b5_0, 5349, (.slice none 0 0), [], 5352⟩
set_option maxRecDepth 1000000 in
theorem o2107 : EntryOK Try.prog e2107 := Ax.part (K := sks) (l := []) mixed sks_ok trivial (by kernel_rfl)
noncomputable def e2109 : Entry := ⟨102, [(.agg #[(S 263 0 4 1180591620717411303428), (S 264 0 4 1180591620717411303425), (S 265 0 4 1180591620717411303425)]), (S 4033 0 1 1180591620717411303425), (.int .u8 (.ofNat 98))], b5_0, 5354, (S 5358 0 1 1180591620717411303425), [⟨5358, .cells 3 [(I 2)]⟩], 5359⟩
set_option maxRecDepth 1000000 in
theorem o2109 : EntryOK Try.prog e2109 := Ax.part (K := sks) (l := []) mixed sks_ok trivial (by kernel_rfl)
noncomputable def e2112 : Entry := ⟨102, [(.agg #[(S 263 0 4 1180591620717411303428), (S 264 0 4 1180591620717411303425), (S 265 0 4 1180591620717411303425)]), (S 4033 0 1 1180591620717411303425), (.int .u8 (.ofNat 99))], b5_0, 5376, (.slice none 0 0), [], 5379⟩
set_option maxRecDepth 1000000 in
theorem o2112 : EntryOK Try.prog e2112 := Ax.part (K := sks) (l := []) mixed sks_ok trivial (by kernel_rfl)
noncomputable def e2114 : Entry := ⟨102, [(.agg #[(S 263 0 4 1180591620717411303428), (S 264 0 4 1180591620717411303425), (S 265 0 4 1180591620717411303425)]), (S 4033 0 1 1180591620717411303425), (.int .u8 (.ofNat 100))], b5_0, 5381, (.slice none 0 0), [], 5384⟩
set_option maxRecDepth 1000000 in
theorem o2114 : EntryOK Try.prog e2114 := Ax.part (K := sks) (l := []) mixed sks_ok trivial (by kernel_rfl)
noncomputable def e2116 : Entry := ⟨102, [(.agg #[(S 263 0 4 1180591620717411303428), (S 264 0 4 1180591620717411303425), (S 265 0 4 1180591620717411303425)]), (S 4033 0 1 1180591620717411303425), (.int .u8 (.ofNat 101))], b5_0, 5386, (.slice none 0 0), [], 5389⟩
set_option maxRecDepth 1000000 in
theorem o2116 : EntryOK Try.prog e2116 := Ax.part (K := sks) (l := []) mixed sks_ok trivial (by kernel_rfl)
noncomputable def e2118 : Entry := ⟨102, [(.agg #[(S 263 0 4 1180591620717411303428), (S 264 0 4 1180591620717411303425), (S 265 0 4 1180591620717411303425)]), (S 4033 0 1 1180591620717411303425), (.int .u8 (.ofNat 102))], b5_0, 5391, (.slice none 0 0), [], 5394⟩
set_option maxRecDepth 1000000 in
theorem o2118 : EntryOK Try.prog e2118 := Ax.part (K := sks) (l := []) mixed sks_ok trivial (by kernel_rfl)
noncomputable def e2120 : Entry := ⟨102, [(.agg #[(S 263 0 4 1180591620717411303428), (S 264 0 4 1180591620717411303425), (S 265 0 4 1180591620717411303425)]), (S 4033 0 1 1180591620717411303425), (.int .u8 (.ofNat 103))], b5_0, 5396, (.slice none 0 0), [], 5399⟩
set_option maxRecDepth 1000000 in
theorem o2120 : EntryOK Try.prog e2120 := Ax.part (K := sks) (l := []) mixed sks_ok trivial (by kernel_rfl)
noncomputable def e2122 : Entry := ⟨102, [(.agg #[(S 263 0 4 1180591620717411303428), (S 264 0 4 1180591620717411303425), (S 265 0 4 1180591620717411303425)]), (S 4033 0 1 1180591620717411303425), (.int .u8 (.ofNat 104))], b5_0, 5401, (.slice none 0 0), [], 5404⟩
set_option maxRecDepth 1000000 in
theorem o2122 : EntryOK Try.prog e2122 := Ax.part (K := sks) (l := []) mixed sks_ok trivial (by kernel_rfl)
noncomputable def e2124 : Entry := ⟨102, [(.agg #[(S 263 0 4 1180591620717411303428), (S 264 0 4 1180591620717411303425), (S 265 0 4 1180591620717411303425)]), (S 4033 0 1 1180591620717411303425), (.int .u8 (.ofNat 105))], b5_0, 5406, (.slice none 0 0), [], 5409⟩
set_option maxRecDepth 1000000 in
theorem o2124 : EntryOK Try.prog e2124 := Ax.part (K := sks) (l := []) mixed sks_ok trivial (by kernel_rfl)
noncomputable def e2126 : Entry := ⟨102, [(.agg #[(S 263 0 4 1180591620717411303428), (S 264 0 4 1180591620717411303425), (S 265 0 4 1180591620717411303425)]), (S 4033 0 1 1180591620717411303425), (.int .u8 (.ofNat 106))], b5_0, 5411, (.slice none 0 0), [], 5414⟩
set_option maxRecDepth 1000000 in
theorem o2126 : EntryOK Try.prog e2126 := Ax.part (K := sks) (l := []) mixed sks_ok trivial (by kernel_rfl)
noncomputable def e2128 : Entry := ⟨102, [(.agg #[(S 263 0 4 1180591620717411303428), (S 264 0 4 1180591620717411303425), (S 265 0 4 1180591620717411303425)]), (S 4033 0 1 1180591620717411303425), (.int .u8 (.ofNat 107))], b5_0, 5416, (.slice none 0 0), [], 5419⟩
set_option maxRecDepth 1000000 in
theorem o2128 : EntryOK Try.prog e2128 := Ax.part (K := sks) (l := []) mixed sks_ok trivial (by kernel_rfl)
noncomputable def e2130 : Entry := ⟨102, [(.agg #[(S 263 0 4 1180591620717411303428), (S 264 0 4 1180591620717411303425), (S 265 0 4 1180591620717411303425)]), (S 4033 0 1 1180591620717411303425), (.int .u8 (.ofNat 108))], b5_0, 5421, (.slice none 0 0), [], 5424⟩
set_option maxRecDepth 1000000 in
theorem o2130 : EntryOK Try.prog e2130 := Ax.part (K := sks) (l := []) mixed sks_ok trivial (by kernel_rfl)
noncomputable def e2132 : Entry := ⟨102, [(.agg #[(S 263 0 4 1180591620717411303428), (S 264 0 4 1180591620717411303425), (S 265 0 4 1180591620717411303425)]), (S 4033 0 1 1180591620717411303425), (.int .u8 (.ofNat 109))], b5_0, 5426, (.slice none 0 0), [], 5429⟩
set_option maxRecDepth 1000000 in
theorem o2132 : EntryOK Try.prog e2132 := Ax.part (K := sks) (l := []) mixed sks_ok trivial (by kernel_rfl)
noncomputable def e2134 : Entry := ⟨102, [(.agg #[(S 263 0 4 1180591620717411303428), (S 264 0 4 1180591620717411303425), (S 265 0 4 1180591620717411303425)]), (S 4033 0 1 1180591620717411303425), (.int .u8 (.ofNat 110))], b5_0, 5431, (.slice none 0 0), [], 5434⟩
set_option maxRecDepth 1000000 in
theorem o2134 : EntryOK Try.prog e2134 := Ax.part (K := sks) (l := []) mixed sks_ok trivial (by kernel_rfl)
noncomputable def e2136 : Entry := ⟨102, [(.agg #[(S 263 0 4 1180591620717411303428), (S 264 0 4 1180591620717411303425), (S 265 0 4 1180591620717411303425)]), (S 4033 0 1 1180591620717411303425), (.int .u8 (.ofNat 111))], b5_0, 5436, (.slice none 0 0), [], 5439⟩
set_option maxRecDepth 1000000 in
theorem o2136 : EntryOK Try.prog e2136 := Ax.part (K := sks) (l := []) mixed sks_ok trivial (by kernel_rfl)
noncomputable def e2138 : Entry := ⟨102, [(.agg #[(S 263 0 4 1180591620717411303428), (S 264 0 4 1180591620717411303425), (S 265 0 4 1180591620717411303425)]), (S 4033 0 1 1180591620717411303425), (.int .u8 (.ofNat 112))], b5_0, 5441, (.slice none 0 0), [], 5444⟩
set_option maxRecDepth 1000000 in
theorem o2138 : EntryOK Try.prog e2138 := Ax.part (K := sks) (l := []) mixed sks_ok trivial (by kernel_rfl)
noncomputable def e2140 : Entry := ⟨102, [(.agg #[(S 263 0 4 1180591620717411303428), (S 264 0 4 1180591620717411303425), (S 265 0 4 1180591620717411303425)]), (S 4033 0 1 1180591620717411303425), (.int .u8 (.ofNat 113))], b5_0, 5446, (.slice none 0 0), [], 5449⟩
set_option maxRecDepth 1000000 in
theorem o2140 : EntryOK Try.prog e2140 := Ax.part (K := sks) (l := []) mixed sks_ok trivial (by kernel_rfl)
noncomputable def e2142 : Entry := ⟨102, [(.agg #[(S 263 0 4 1180591620717411303428), (S 264 0 4 1180591620717411303425), (S 265 0 4 1180591620717411303425)]), (S 4033 0 1 1180591620717411303425), (.int .u8 (.ofNat 114))], b5_0, 5451, (.slice none 0 0), [], 5454⟩
set_option maxRecDepth 1000000 in
theorem o2142 : EntryOK Try.prog e2142 := Ax.part (K := sks) (l := []) mixed sks_ok trivial (by kernel_rfl)
noncomputable def e2144 : Entry := ⟨102, [(.agg #[(S 263 0 4 1180591620717411303428), (S 264 0 4 1180591620717411303425), (S 265 0 4 1180591620717411303425)]), (S 4033 0 1 1180591620717411303425), (.int .u8 (.ofNat 115))], b5_0, 5456, (.slice none 0 0), [], 5459⟩
set_option maxRecDepth 1000000 in
theorem o2144 : EntryOK Try.prog e2144 := Ax.part (K := sks) (l := []) mixed sks_ok trivial (by kernel_rfl)
noncomputable def e2146 : Entry := ⟨102, [(.agg #[(S 263 0 4 1180591620717411303428), (S 264 0 4 1180591620717411303425), (S 265 0 4 1180591620717411303425)]), (S 4033 0 1 1180591620717411303425), (.int .u8 (.ofNat 116))], b5_0, 5461, (.slice none 0 0), [], 5464⟩
set_option maxRecDepth 1000000 in
theorem o2146 : EntryOK Try.prog e2146 := Ax.part (K := sks) (l := []) mixed sks_ok trivial (by kernel_rfl)
noncomputable def e2148 : Entry := ⟨102, [(.agg #[(S 263 0 4 1180591620717411303428), (S 264 0 4 1180591620717411303425), (S 265 0 4 1180591620717411303425)]), (S 4033 0 1 1180591620717411303425), (.int .u8 (.ofNat 117))], b5_0, 5466, (.slice none 0 0), [], 5469⟩
set_option maxRecDepth 1000000 in
theorem o2148 : EntryOK Try.prog e2148 := Ax.part (K := sks) (l := []) mixed sks_ok trivial (by kernel_rfl)
noncomputable def e2150 : Entry := ⟨102, [(.agg #[(S 263 0 4 1180591620717411303428), (S 264 0 4 1180591620717411303425), (S 265 0 4 1180591620717411303425)]), (S 4033 0 1 1180591620717411303425), (.int .u8 (.ofNat 118))], b5_0, 5471, (.slice none 0 0), [], 5474⟩
set_option maxRecDepth 1000000 in
theorem o2150 : EntryOK Try.prog e2150 := Ax.part (K := sks) (l := []) mixed sks_ok trivial (by kernel_rfl)
noncomputable def e2152 : Entry := ⟨102, [(.agg #[(S 263 0 4 1180591620717411303428), (S 264 0 4 1180591620717411303425), (S 265 0 4 1180591620717411303425)]), (S 4033 0 1 1180591620717411303425), (.int .u8 (.ofNat 119))], b5_0, 5476, (.slice none 0 0), [], 5479⟩
set_option maxRecDepth 1000000 in
theorem o2152 : EntryOK Try.prog e2152 := Ax.part (K := sks) (l := []) mixed sks_ok trivial (by kernel_rfl)
noncomputable def e2154 : Entry := ⟨102, [(.agg #[(S 263 0 4 1180591620717411303428), (S 264 0 4 1180591620717411303425), (S 265 0 4 1180591620717411303425)]), (S 4033 0 1 1180591620717411303425), (.int .u8 (.ofNat 120))], b5_0, 5481, (.slice none 0 0), [], 5484⟩
set_option maxRecDepth 1000000 in
theorem o2154 : EntryOK Try.prog e2154 := Ax.part (K := sks) (l := []) mixed sks_ok trivial (by kernel_rfl)
noncomputable def e2156 : Entry := ⟨102, [(.agg #[(S 263 0 4 1180591620717411303428), (S 264 0 4 1180591620717411303425), (S 265 0 4 1180591620717411303425)]), (S 4033 0 1 1180591620717411303425), (.int .u8 (.ofNat 121))], b5_0, 5486, (.slice none 0 0), [], 5489⟩
set_option maxRecDepth 1000000 in
theorem o2156 : EntryOK Try.prog e2156 := Ax.part (K := sks) (l := []) mixed sks_ok trivial (by kernel_rfl)
noncomputable def e2158 : Entry := ⟨102, [(.agg #[(S 263 0 4 1180591620717411303428), (S 264 0 4 1180591620717411303425), (S 265 0 4 1180591620717411303425)]), (S 4033 0 1 1180591620717411303425), (.int .u8 (.ofNat 122))], b5_0, 5491, (.slice none 0 0), [], 5494⟩
set_option maxRecDepth 1000000 in
theorem o2158 : EntryOK Try.prog e2158 := Ax.part (K := sks) (l := []) mixed sks_ok trivial (by kernel_rfl)
noncomputable def e2160 : Entry := ⟨102, [(.agg #[(S 263 0 4 1180591620717411303428), (S 264 0 4 1180591620717411303425), (S 265 0 4 1180591620717411303425)]), (S 4033 0 1 1180591620717411303425), (.int .u8 (.ofNat 123))], b5_0, 5496, (.slice none 0 0), [], 5499⟩
set_option maxRecDepth 1000000 in
theorem o2160 : EntryOK Try.prog e2160 := Ax.part (K := sks) (l := []) mixed sks_ok trivial (by kernel_rfl)
noncomputable def e2162 : Entry := ⟨102, [(.agg #[(S 263 0 4 1180591620717411303428), (S 264 0 4 1180591620717411303425), (S 265 0 4 1180591620717411303425)]), (S 4033 0 1 1180591620717411303425), (.int .u8 (.ofNat 124))], b5_0, 5501, (.slice none 0 0), [], 5504⟩
set_option maxRecDepth 1000000 in
theorem o2162 : EntryOK Try.prog e2162 := Ax.part (K := sks) (l := []) mixed sks_ok trivial (by kernel_rfl)
noncomputable def e2164 : Entry := ⟨102, [(.agg #[(S 263 0 4 1180591620717411303428), (S 264 0 4 1180591620717411303425), (S 265 0 4 1180591620717411303425)]), (S 4033 0 1 1180591620717411303425), (.int .u8 (.ofNat 125))], b5_0, 5506, (.slice none 0 0), [], 5509⟩
set_option maxRecDepth 1000000 in
theorem o2164 : EntryOK Try.prog e2164 := Ax.part (K := sks) (l := []) mixed sks_ok trivial (by kernel_rfl)
noncomputable def e2166 : Entry := ⟨102, [(.agg #[(S 263 0 4 1180591620717411303428), (S 264 0 4 1180591620717411303425), (S 265 0 4 1180591620717411303425)]), (S 4033 0 1 1180591620717411303425), (.int .u8 (.ofNat 126))], b5_0, 5511, (.slice none 0 0), [], 5514⟩
set_option maxRecDepth 1000000 in
theorem o2166 : EntryOK Try.prog e2166 := Ax.part (K := sks) (l := []) mixed sks_ok trivial (by kernel_rfl)
noncomputable def e2168 : Entry := ⟨102, [(.agg #[(S 263 0 4 1180591620717411303428), (S 264 0 4 1180591620717411303425), (S 265 0 4 1180591620717411303425)]), (S 4033 0 1 1180591620717411303425), (.int .u8 (.ofNat 127))], b5_0, 5516, (.slice none 0 0), [], 5519⟩
set_option maxRecDepth 1000000 in
theorem o2168 : EntryOK Try.prog e2168 := Ax.part (K := sks) (l := []) mixed sks_ok trivial (by kernel_rfl)
noncomputable def e2170 : Entry := ⟨102, [(.agg #[(S 263 0 4 1180591620717411303428), (S 264 0 4 1180591620717411303425), (S 265 0 4 1180591620717411303425)]), (S 4033 0 1 1180591620717411303425), (.int .u8 (.ofNat 128))], b5_0, 5521, (.slice none 0 0), [], 5524⟩
set_option maxRecDepth 1000000 in
theorem o2170 : EntryOK Try.prog e2170 := Ax.part (K := sks) (l := []) mixed sks_ok trivial (by kernel_rfl)
noncomputable def e2172 : Entry := ⟨102, [(.agg #[(S 263 0 4 1180591620717411303428), (S 264 0 4 1180591620717411303425), (S 265 0 4 1180591620717411303425)]), (S 4033 0 1 1180591620717411303425), (.int .u8 (.ofNat 129))], b5_0, 5526, (.slice none 0 0), [], 5529⟩
set_option maxRecDepth 1000000 in
theorem o2172 : EntryOK Try.prog e2172 := Ax.part (K := sks) (l := []) mixed sks_ok trivial (by kernel_rfl)
noncomputable def e2174 : Entry := ⟨102, [(.agg #[(S 263 0 4 1180591620717411303428), (S 264 0 4 1180591620717411303425), (S 265 0 4 1180591620717411303425)]), (S 4033 0 1 1180591620717411303425), (.int .u8 (.ofNat 130))], b5_0, 5531, (.slice none 0 0), [], 5534⟩
set_option maxRecDepth 1000000 in
theorem o2174 : EntryOK Try.prog e2174 := Ax.part (K := sks) (l := []) mixed sks_ok trivial (by kernel_rfl)
noncomputable def e2176 : Entry := ⟨102, [(.agg #[(S 263 0 4 1180591620717411303428), (S 264 0 4 1180591620717411303425), (S 265 0 4 1180591620717411303425)]), (S 4033 0 1 1180591620717411303425), (.int .u8 (.ofNat 131))], b5_0, 5536, (.slice none 0 0), [], 5539⟩
set_option maxRecDepth 1000000 in
theorem o2176 : EntryOK Try.prog e2176 := Ax.part (K := sks) (l := []) mixed sks_ok trivial (by kernel_rfl)
noncomputable def e2178 : Entry := ⟨102, [(.agg #[(S 263 0 4 1180591620717411303428), (S 264 0 4 1180591620717411303425), (S 265 0 4 1180591620717411303425)]), (S 4033 0 1 1180591620717411303425), (.int .u8 (.ofNat 132))], b5_0, 5541, (.slice none 0 0), [], 5544⟩
set_option maxRecDepth 1000000 in
theorem o2178 : EntryOK Try.prog e2178 := Ax.part (K := sks) (l := []) mixed sks_ok trivial (by kernel_rfl)
noncomputable def e2180 : Entry := ⟨102, [(.agg #[(S 263 0 4 1180591620717411303428), (S 264 0 4 1180591620717411303425), (S 265 0 4 1180591620717411303425)]), (S 4033 0 1 1180591620717411303425), (.int .u8 (.ofNat 133))], b5_0, 5546, (.slice none 0 0), [], 5549⟩
set_option maxRecDepth 1000000 in
theorem o2180 : EntryOK Try.prog e2180 := Ax.part (K := sks) (l := []) mixed sks_ok trivial (by kernel_rfl)
noncomputable def e2182 : Entry := ⟨102, [(.agg #[(S 263 0 4 1180591620717411303428), (S 264 0 4 1180591620717411303425), (S 265 0 4 1180591620717411303425)]), (S 4033 0 1 1180591620717411303425), (.int .u8 (.ofNat 134))], b5_0, 5551, (.slice none 0 0), [], 5554⟩
set_option maxRecDepth 1000000 in
theorem o2182 : EntryOK Try.prog e2182 := Ax.part (K := sks) (l := []) mixed sks_ok trivial (by kernel_rfl)
noncomputable def e2184 : Entry := ⟨102, [(.agg #[(S 263 0 4 1180591620717411303428), (S 264 0 4 1180591620717411303425), (S 265 0 4 1180591620717411303425)]), (S 4033 0 1 1180591620717411303425), (.int .u8 (.ofNat 135))], b5_0, 5556, (.slice none 0 0), [], 5559⟩
set_option maxRecDepth 1000000 in
theorem o2184 : EntryOK Try.prog e2184 := Ax.part (K := sks) (l := []) mixed sks_ok trivial (by kernel_rfl)
noncomputable def e2186 : Entry := ⟨102, [(.agg #[(S 263 0 4 1180591620717411303428), (S 264 0 4 1180591620717411303425), (S 265 0 4 1180591620717411303425)]), (S 4033 0 1 1180591620717411303425), (.int .u8 (.ofNat 136))], b5_0, 5561, (.slice none 0 0), [], 5564⟩
set_option maxRecDepth 1000000 in
theorem o2186 : EntryOK Try.prog e2186 := Ax.part (K := sks) (l := []) mixed sks_ok trivial (by kernel_rfl)
noncomputable def e2188 : Entry := ⟨102, [(.agg #[(S 263 0 4 1180591620717411303428), (S 264 0 4 1180591620717411303425), (S 265 0 4 1180591620717411303425)]), (S 4033 0 1 1180591620717411303425), (.int .u8 (.ofNat 137))], b5_0, 5566, (.slice none 0 0), [], 5569⟩
set_option maxRecDepth 1000000 in
theorem o2188 : EntryOK Try.prog e2188 := Ax.part (K := sks) (l := []) mixed sks_ok trivial (by kernel_rfl)
noncomputable def e2190 : Entry := ⟨102, [(.agg #[(S 263 0 4 1180591620717411303428), (S 264 0 4 1180591620717411303425), (S 265 0 4 1180591620717411303425)]), (S 4033 0 1 1180591620717411303425), (.int .u8 (.ofNat 138))], b5_0, 5571, (.slice none 0 0), [], 5574⟩
set_option maxRecDepth 1000000 in
theorem o2190 : EntryOK Try.prog e2190 := Ax.part (K := sks) (l := []) mixed sks_ok trivial (by kernel_rfl)
noncomputable def e2192 : Entry := ⟨102, [(.agg #[(S 263 0 4 1180591620717411303428), (S 264 0 4 1180591620717411303425), (S 265 0 4 1180591620717411303425)]), (S 4033 0 1 1180591620717411303425), (.int .u8 (.ofNat 139))], b5_0, 5576, (.slice none 0 0), [], 5579⟩
set_option maxRecDepth 1000000 in
theorem o2192 : EntryOK Try.prog e2192 := Ax.part (K := sks) (l := []) mixed sks_ok trivial (by kernel_rfl)
noncomputable def e2194 : Entry := ⟨102, [(.agg #[(S 263 0 4 1180591620717411303428), (S 264 0 4 1180591620717411303425), (S 265 0 4 1180591620717411303425)]), (S 4033 0 1 1180591620717411303425), (.int .u8 (.ofNat 140))], b5_0, 5581, (.slice none 0 0), [], 5584⟩
set_option maxRecDepth 1000000 in
theorem o2194 : EntryOK Try.prog e2194 := Ax.part (K := sks) (l := []) mixed sks_ok trivial (by kernel_rfl)
noncomputable def e2196 : Entry := ⟨102, [(.agg #[(S 263 0 4 1180591620717411303428), (S 264 0 4 1180591620717411303425), (S 265 0 4 1180591620717411303425)]), (S 4033 0 1 1180591620717411303425), (.int .u8 (.ofNat 141))], b5_0, 5586, (.slice none 0 0), [], 5589⟩
set_option maxRecDepth 1000000 in
theorem o2196 : EntryOK Try.prog e2196 := Ax.part (K := sks) (l := []) mixed sks_ok trivial (by kernel_rfl)
noncomputable def e2198 : Entry := ⟨102, [(.agg #[(S 263 0 4 1180591620717411303428), (S 264 0 4 1180591620717411303425), (S 265 0 4 1180591620717411303425)]), (S 4033 0 1 1180591620717411303425), (.int .u8 (.ofNat 142))], b5_0, 5591, (.slice none 0 0), [], 5594⟩
set_option maxRecDepth 1000000 in
theorem o2198 : EntryOK Try.prog e2198 := Ax.part (K := sks) (l := []) mixed sks_ok trivial (by kernel_rfl)
noncomputable def e2200 : Entry := ⟨102, [(.agg #[(S 263 0 4 1180591620717411303428), (S 264 0 4 1180591620717411303425), (S 265 0 4 1180591620717411303425)]), (S 4033 0 1 1180591620717411303425), (.int .u8 (.ofNat 143))], b5_0, 5596, (.slice none 0 0), [], 5599⟩
set_option maxRecDepth 1000000 in
theorem o2200 : EntryOK Try.prog e2200 := Ax.part (K := sks) (l := []) mixed sks_ok trivial (by kernel_rfl)
noncomputable def e2202 : Entry := ⟨102, [(.agg #[(S 263 0 4 1180591620717411303428), (S 264 0 4 1180591620717411303425), (S 265 0 4 1180591620717411303425)]), (S 4033 0 1 1180591620717411303425), (.int .u8 (.ofNat 144))], b5_0, 5601, (.slice none 0 0), [], 5604⟩
set_option maxRecDepth 1000000 in
theorem o2202 : EntryOK Try.prog e2202 := Ax.part (K := sks) (l := []) mixed sks_ok trivial (by kernel_rfl)
noncomputable def e2204 : Entry := ⟨102, [(.agg #[(S 263 0 4 1180591620717411303428), (S 264 0 4 1180591620717411303425), (S 265 0 4 1180591620717411303425)]), (S 4033 0 1 1180591620717411303425), (.int .u8 (.ofNat 145))], b5_0, 5606, (.slice none 0 0), [], 5609⟩
set_option maxRecDepth 1000000 in
theorem o2204 : EntryOK Try.prog e2204 := Ax.part (K := sks) (l := []) mixed sks_ok trivial (by kernel_rfl)
noncomputable def e2206 : Entry := ⟨102, [(.agg #[(S 263 0 4 1180591620717411303428), (S 264 0 4 1180591620717411303425), (S 265 0 4 1180591620717411303425)]), (S 4033 0 1 1180591620717411303425), (.int .u8 (.ofNat 146))], b5_0, 5611, (.slice none 0 0), [], 5614⟩
set_option maxRecDepth 1000000 in
theorem o2206 : EntryOK Try.prog e2206 := Ax.part (K := sks) (l := []) mixed sks_ok trivial (by kernel_rfl)
noncomputable def e2208 : Entry := ⟨102, [(.agg #[(S 263 0 4 1180591620717411303428), (S 264 0 4 1180591620717411303425), (S 265 0 4 1180591620717411303425)]), (S 4033 0 1 1180591620717411303425), (.int .u8 (.ofNat 147))], b5_0, 5616, (.slice none 0 0), [], 5619⟩
set_option maxRecDepth 1000000 in
theorem o2208 : EntryOK Try.prog e2208 := Ax.part (K := sks) (l := []) mixed sks_ok trivial (by kernel_rfl)
noncomputable def e2210 : Entry := ⟨102, [(.agg #[(S 263 0 4 1180591620717411303428), (S 264 0 4 1180591620717411303425), (S 265 0 4 1180591620717411303425)]), (S 4033 0 1 1180591620717411303425), (.int .u8 (.ofNat 148))], b5_0, 5621, (.slice none 0 0), [], 5624⟩
set_option maxRecDepth 1000000 in
theorem o2210 : EntryOK Try.prog e2210 := Ax.part (K := sks) (l := []) mixed sks_ok trivial (by kernel_rfl)
noncomputable def e2212 : Entry := ⟨102, [(.agg #[(S 263 0 4 1180591620717411303428), (S 264 0 4 1180591620717411303425), (S 265 0 4 1180591620717411303425)]), (S 4033 0 1 1180591620717411303425), (.int .u8 (.ofNat 149))], b5_0, 5626, (.slice none 0 0), [], 5629⟩
set_option maxRecDepth 1000000 in
theorem o2212 : EntryOK Try.prog e2212 := Ax.part (K := sks) (l := []) mixed sks_ok trivial (by kernel_rfl)
noncomputable def e2214 : Entry := ⟨102, [(.agg #[(S 263 0 4 1180591620717411303428), (S 264 0 4 1180591620717411303425), (S 265 0 4 1180591620717411303425)]), (S 4033 0 1 1180591620717411303425), (.int .u8 (.ofNat 150))], b5_0, 5631, (.slice none 0 0), [], 5634⟩
set_option maxRecDepth 1000000 in
theorem o2214 : EntryOK Try.prog e2214 := Ax.part (K := sks) (l := []) mixed sks_ok trivial (by kernel_rfl)
noncomputable def e2216 : Entry := ⟨102, [(.agg #[(S 263 0 4 1180591620717411303428), (S 264 0 4 1180591620717411303425), (S 265 0 4 1180591620717411303425)]), (S 4033 0 1 1180591620717411303425), (.int .u8 (.ofNat 151))], b5_0, 5636, (.slice none 0 0), [], 5639⟩
set_option maxRecDepth 1000000 in
theorem o2216 : EntryOK Try.prog e2216 := Ax.part (K := sks) (l := []) mixed sks_ok trivial (by kernel_rfl)
noncomputable def e2218 : Entry := ⟨102, [(.agg #[(S 263 0 4 1180591620717411303428), (S 264 0 4 1180591620717411303425), (S 265 0 4 1180591620717411303425)]), (S 4033 0 1 1180591620717411303425), (.int .u8 (.ofNat 152))], b5_0, 5641, (.slice none 0 0), [], 5644⟩
set_option maxRecDepth 1000000 in
theorem o2218 : EntryOK Try.prog e2218 := Ax.part (K := sks) (l := []) mixed sks_ok trivial (by kernel_rfl)
noncomputable def e2220 : Entry := ⟨102, [(.agg #[(S 263 0 4 1180591620717411303428), (S 264 0 4 1180591620717411303425), (S 265 0 4 1180591620717411303425)]), (S 4033 0 1 1180591620717411303425), (.int .u8 (.ofNat 153))], b5_0, 5646, (.slice none 0 0), [], 5649⟩
set_option maxRecDepth 1000000 in
theorem o2220 : EntryOK Try.prog e2220 := Ax.part (K := sks) (l := []) mixed sks_ok trivial (by kernel_rfl)
noncomputable def e2222 : Entry := ⟨102, [(.agg #[(S 263 0 4 1180591620717411303428), (S 264 0 4 1180591620717411303425), (S 265 0 4 1180591620717411303425)]), (S 4033 0 1 1180591620717411303425), (.int .u8 (.ofNat 154))], b5_0, 5651, (.slice none 0 0), [], 5654⟩
set_option maxRecDepth 1000000 in
theorem o2222 : EntryOK Try.prog e2222 := Ax.part (K := sks) (l := []) mixed sks_ok trivial (by kernel_rfl)
noncomputable def e2224 : Entry := ⟨102, [(.agg #[(S 263 0 4 1180591620717411303428), (S 264 0 4 1180591620717411303425), (S 265 0 4 1180591620717411303425)]), (S 4033 0 1 1180591620717411303425), (.int .u8 (.ofNat 155))], b5_0, 5656, (.slice none 0 0), [], 5659⟩
set_option maxRecDepth 1000000 in
theorem o2224 : EntryOK Try.prog e2224 := Ax.part (K := sks) (l := []) mixed sks_ok trivial (by kernel_rfl)
noncomputable def e2226 : Entry := ⟨102, [(.agg #[(S 263 0 4 1180591620717411303428), (S 264 0 4 1180591620717411303425), (S 265 0 4 1180591620717411303425)]), (S 4033 0 1 1180591620717411303425), (.int .u8 (.ofNat 156))], b5_0, 5661, (.slice none 0 0), [], 5664⟩
set_option maxRecDepth 1000000 in
theorem o2226 : EntryOK Try.prog e2226 := Ax.part (K := sks) (l := []) mixed sks_ok trivial (by kernel_rfl)
noncomputable def e2228 : Entry := ⟨102, [(.agg #[(S 263 0 4 1180591620717411303428), (S 264 0 4 1180591620717411303425), (S 265 0 4 1180591620717411303425)]), (S 4033 0 1 1180591620717411303425), (.int .u8 (.ofNat 157))], b5_0, 5666, (.slice none 0 0), [], 5669⟩
set_option maxRecDepth 1000000 in
theorem o2228 : EntryOK Try.prog e2228 := Ax.part (K := sks) (l := []) mixed sks_ok trivial (by kernel_rfl)
noncomputable def e2230 : Entry := ⟨102, [(.agg #[(S 263 0 4 1180591620717411303428), (S 264 0 4 1180591620717411303425), (S 265 0 4 1180591620717411303425)]), (S 4033 0 1 1180591620717411303425), (.int .u8 (.ofNat 158))], b5_0, 5671, (.slice none 0 0), [], 5674⟩
set_option maxRecDepth 1000000 in
theorem o2230 : EntryOK Try.prog e2230 := Ax.part (K := sks) (l := []) mixed sks_ok trivial (by kernel_rfl)
noncomputable def e2232 : Entry := ⟨102, [(.agg #[(S 263 0 4 1180591620717411303428), (S 264 0 4 1180591620717411303425), (S 265 0 4 1180591620717411303425)]), (S 4033 0 1 1180591620717411303425), (.int .u8 (.ofNat 159))], b5_0, 5676, (.slice none 0 0), [], 5679⟩
set_option maxRecDepth 1000000 in
theorem o2232 : EntryOK Try.prog e2232 := Ax.part (K := sks) (l := []) mixed sks_ok trivial (by kernel_rfl)
noncomputable def e2234 : Entry := ⟨102, [(.agg #[(S 263 0 4 1180591620717411303428), (S 264 0 4 1180591620717411303425), (S 265 0 4 1180591620717411303425)]), (S 4033 0 1 1180591620717411303425), (.int .u8 (.ofNat 160))], b5_0, 5681, (.slice none 0 0), [], 5684⟩
set_option maxRecDepth 1000000 in
theorem o2234 : EntryOK Try.prog e2234 := Ax.part (K := sks) (l := []) mixed sks_ok trivial (by kernel_rfl)
noncomputable def e2236 : Entry := ⟨102, [(.agg #[(S 263 0 4 1180591620717411303428), (S 264 0 4 1180591620717411303425), (S 265 0 4 1180591620717411303425)]), (S 4033 0 1 1180591620717411303425), (.int .u8 (.ofNat 161))], b5_0, 5686, (.slice none 0 0), [], 5689⟩
set_option maxRecDepth 1000000 in
theorem o2236 : EntryOK Try.prog e2236 := Ax.part (K := sks) (l := []) mixed sks_ok trivial (by kernel_rfl)
noncomputable def e2238 : Entry := ⟨102, [(.agg #[(S 263 0 4 1180591620717411303428), (S 264 0 4 1180591620717411303425), (S 265 0 4 1180591620717411303425)]), (S 4033 0 1 1180591620717411303425), (.int .u8 (.ofNat 162))], b5_0, 5691, (.slice none 0 0), [], 5694⟩
set_option maxRecDepth 1000000 in
theorem o2238 : EntryOK Try.prog e2238 := Ax.part (K := sks) (l := []) mixed sks_ok trivial (by kernel_rfl)
noncomputable def e2240 : Entry := ⟨102, [(.agg #[(S 263 0 4 1180591620717411303428), (S 264 0 4 1180591620717411303425), (S 265 0 4 1180591620717411303425)]), (S 4033 0 1 1180591620717411303425), (.int .u8 (.ofNat 163))], b5_0, 5696, (.slice none 0 0), [], 5699⟩
set_option maxRecDepth 1000000 in
theorem o2240 : EntryOK Try.prog e2240 := Ax.part (K := sks) (l := []) mixed sks_ok trivial (by kernel_rfl)
noncomputable def e2242 : Entry := ⟨102, [(.agg #[(S 263 0 4 1180591620717411303428), (S 264 0 4 1180591620717411303425), (S 265 0 4 1180591620717411303425)]), (S 4033 0 1 1180591620717411303425), (.int .u8 (.ofNat 164))], b5_0, 5701, (.slice none 0 0), [], 5704⟩
set_option maxRecDepth 1000000 in
theorem o2242 : EntryOK Try.prog e2242 := Ax.part (K := sks) (l := []) mixed sks_ok trivial (by kernel_rfl)
noncomputable def e2244 : Entry := ⟨102, [(.agg #[(S 263 0 4 1180591620717411303428), (S 264 0 4 1180591620717411303425), (S 265 0 4 1180591620717411303425)]), (S 4033 0 1 1180591620717411303425), (.int .u8 (.ofNat 165))], b5_0, 5706, (.slice none 0 0), [], 5709⟩
set_option maxRecDepth 1000000 in
theorem o2244 : EntryOK Try.prog e2244 := Ax.part (K := sks) (l := []) mixed sks_ok trivial (by kernel_rfl)
noncomputable def e2246 : Entry := ⟨102, [(.agg #[(S 263 0 4 1180591620717411303428), (S 264 0 4 1180591620717411303425), (S 265 0 4 1180591620717411303425)]), (S 4033 0 1 1180591620717411303425), (.int .u8 (.ofNat 166))], b5_0, 5711, (.slice none 0 0), [], 5714⟩
set_option maxRecDepth 1000000 in
theorem o2246 : EntryOK Try.prog e2246 := Ax.part (K := sks) (l := []) mixed sks_ok trivial (by kernel_rfl)
noncomputable def e2248 : Entry := ⟨102, [(.agg #[(S 263 0 4 1180591620717411303428), (S 264 0 4 1180591620717411303425), (S 265 0 4 1180591620717411303425)]), (S 4033 0 1 1180591620717411303425), (.int .u8 (.ofNat 167))], b5_0, 5716, (.slice none 0 0), [], 5719⟩
set_option maxRecDepth 1000000 in
theorem o2248 : EntryOK Try.prog e2248 := Ax.part (K := sks) (l := []) mixed sks_ok trivial (by kernel_rfl)
noncomputable def e2250 : Entry := ⟨102, [(.agg #[(S 263 0 4 1180591620717411303428), (S 264 0 4 1180591620717411303425), (S 265 0 4 1180591620717411303425)]), (S 4033 0 1 1180591620717411303425), (.int .u8 (.ofNat 168))], b5_0, 5721, (.slice none 0 0), [], 5724⟩
set_option maxRecDepth 1000000 in
theorem o2250 : EntryOK Try.prog e2250 := Ax.part (K := sks) (l := []) mixed sks_ok trivial (by kernel_rfl)
noncomputable def e2252 : Entry := ⟨102, [(.agg #[(S 263 0 4 1180591620717411303428), (S 264 0 4 1180591620717411303425), (S 265 0 4 1180591620717411303425)]), (S 4033 0 1 1180591620717411303425), (.int .u8 (.ofNat 169))], b5_0, 5726, (.slice none 0 0), [], 5729⟩
set_option maxRecDepth 1000000 in
theorem o2252 : EntryOK Try.prog e2252 := Ax.part (K := sks) (l := []) mixed sks_ok trivial (by kernel_rfl)
noncomputable def e2254 : Entry := ⟨102, [(.agg #[(S 263 0 4 1180591620717411303428), (S 264 0 4 1180591620717411303425), (S 265 0 4 1180591620717411303425)]), (S 4033 0 1 1180591620717411303425), (.int .u8 (.ofNat 170))], b5_0, 5731, (.slice none 0 0), [], 5734⟩
set_option maxRecDepth 1000000 in
theorem o2254 : EntryOK Try.prog e2254 := Ax.part (K := sks) (l := []) mixed sks_ok trivial (by kernel_rfl)
noncomputable def e2256 : Entry := ⟨102, [(.agg #[(S 263 0 4 1180591620717411303428), (S 264 0 4 1180591620717411303425), (S 265 0 4 1180591620717411303425)]), (S 4033 0 1 1180591620717411303425), (.int .u8 (.ofNat 171))], b5_0, 5736, (.slice none 0 0), [], 5739⟩
set_option maxRecDepth 1000000 in
theorem o2256 : EntryOK Try.prog e2256 := Ax.part (K := sks) (l := []) mixed sks_ok trivial (by kernel_rfl)
noncomputable def e2258 : Entry := ⟨102, [(.agg #[(S 263 0 4 1180591620717411303428), (S 264 0 4 1180591620717411303425), (S 265 0 4 1180591620717411303425)]), (S 4033 0 1 1180591620717411303425), (.int .u8 (.ofNat 172))], b5_0, 5741, (.slice none 0 0), [], 5744⟩
set_option maxRecDepth 1000000 in
theorem o2258 : EntryOK Try.prog e2258 := Ax.part (K := sks) (l := []) mixed sks_ok trivial (by kernel_rfl)
noncomputable def e2260 : Entry := ⟨102, [(.agg #[(S 263 0 4 1180591620717411303428), (S 264 0 4 1180591620717411303425), (S 265 0 4 1180591620717411303425)]), (S 4033 0 1 1180591620717411303425), (.int .u8 (.ofNat 173))], b5_0, 5746, (.slice none 0 0), [], 5749⟩
set_option maxRecDepth 1000000 in
theorem o2260 : EntryOK Try.prog e2260 := Ax.part (K := sks) (l := []) mixed sks_ok trivial (by kernel_rfl)
noncomputable def e2262 : Entry := ⟨102, [(.agg #[(S 263 0 4 1180591620717411303428), (S 264 0 4 1180591620717411303425), (S 265 0 4 1180591620717411303425)]), (S 4033 0 1 1180591620717411303425), (.int .u8 (.ofNat 174))], b5_0, 5751, (.slice none 0 0), [], 5754⟩
set_option maxRecDepth 1000000 in
theorem o2262 : EntryOK Try.prog e2262 := Ax.part (K := sks) (l := []) mixed sks_ok trivial (by kernel_rfl)
noncomputable def e2264 : Entry := ⟨102, [(.agg #[(S 263 0 4 1180591620717411303428), (S 264 0 4 1180591620717411303425), (S 265 0 4 1180591620717411303425)]), (S 4033 0 1 1180591620717411303425), (.int .u8 (.ofNat 175))], b5_0, 5756, (.slice none 0 0), [], 5759⟩
set_option maxRecDepth 1000000 in
theorem o2264 : EntryOK Try.prog e2264 := Ax.part (K := sks) (l := []) mixed sks_ok trivial (by kernel_rfl)
noncomputable def e2266 : Entry := ⟨102, [(.agg #[(S 263 0 4 1180591620717411303428), (S 264 0 4 1180591620717411303425), (S 265 0 4 1180591620717411303425)]), (S 4033 0 1 1180591620717411303425), (.int .u8 (.ofNat 176))], b5_0, 5761, (.slice none 0 0), [], 5764⟩
set_option maxRecDepth 1000000 in
theorem o2266 : EntryOK Try.prog e2266 := Ax.part (K := sks) (l := []) mixed sks_ok trivial (by kernel_rfl)
noncomputable def e2268 : Entry := ⟨102, [(.agg #[(S 263 0 4 1180591620717411303428), (S 264 0 4 1180591620717411303425), (S 265 0 4 1180591620717411303425)]), (S 4033 0 1 1180591620717411303425), (.int .u8 (.ofNat 177))], b5_0, 5766, (.slice none 0 0), [], 5769⟩
set_option maxRecDepth 1000000 in
theorem o2268 : EntryOK Try.prog e2268 := Ax.part (K := sks) (l := []) mixed sks_ok trivial (by kernel_rfl)
noncomputable def e2270 : Entry := ⟨102, [(.agg #[(S 263 0 4 1180591620717411303428), (S 264 0 4 1180591620717411303425), (S 265 0 4 1180591620717411303425)]), (S 4033 0 1 1180591620717411303425), (.int .u8 (.ofNat 178))], b5_0, 5771, (.slice none 0 0), [], 5774⟩
set_option maxRecDepth 1000000 in
theorem o2270 : EntryOK Try.prog e2270 := Ax.part (K := sks) (l := []) mixed sks_ok trivial (by kernel_rfl)
noncomputable def e2272 : Entry := ⟨102, [(.agg #[(S 263 0 4 1180591620717411303428), (S 264 0 4 1180591620717411303425), (S 265 0 4 1180591620717411303425)]), (S 4033 0 1 1180591620717411303425), (.int .u8 (.ofNat 179))], b5_0, 5776, (.slice none 0 0), [], 5779⟩
set_option maxRecDepth 1000000 in
theorem o2272 : EntryOK Try.prog e2272 := Ax.part (K := sks) (l := []) mixed sks_ok trivial (by kernel_rfl)
noncomputable def e2274 : Entry := ⟨102, [(.agg #[(S 263 0 4 1180591620717411303428), (S 264 0 4 1180591620717411303425), (S 265 0 4 1180591620717411303425)]), (S 4033 0 1 1180591620717411303425), (.int .u8 (.ofNat 180))], b5_0, 5781, (.slice none 0 0), [], 5784⟩
set_option maxRecDepth 1000000 in
theorem o2274 : EntryOK Try.prog e2274 := Ax.part (K := sks) (l := []) mixed sks_ok trivial (by kernel_rfl)
noncomputable def e2276 : Entry := ⟨102, [(.agg #[(S 263 0 4 1180591620717411303428), (S 264 0 4 1180591620717411303425), (S 265 0 4 1180591620717411303425)]), (S 4033 0 1 1180591620717411303425), (.int .u8 (.ofNat 181))], b5_0, 5786, (.slice none 0 0), [], 5789⟩
set_option maxRecDepth 1000000 in
theorem o2276 : EntryOK Try.prog e2276 := Ax.part (K := sks) (l := []) mixed sks_ok trivial (by kernel_rfl)
noncomputable def e2278 : Entry := ⟨102, [(.agg #[(S 263 0 4 1180591620717411303428), (S 264 0 4 1180591620717411303425), (S 265 0 4 1180591620717411303425)]), (S 4033 0 1 1180591620717411303425), (.int .u8 (.ofNat 182))], b5_0, 5791, (.slice none 0 0), [], 5794⟩
set_option maxRecDepth 1000000 in
theorem o2278 : EntryOK Try.prog e2278 := Ax.part (K := sks) (l := []) mixed sks_ok trivial (by kernel_rfl)
noncomputable def e2280 : Entry := ⟨102, [(.agg #[(S 263 0 4 1180591620717411303428), (S 264 0 4 1180591620717411303425), (S 265 0 4 1180591620717411303425)]), (S 4033 0 1 1180591620717411303425), (.int .u8 (.ofNat 183))], b5_0, 5796, (.slice none 0 0), [], 5799⟩
set_option maxRecDepth 1000000 in
theorem o2280 : EntryOK Try.prog e2280 := Ax.part (K := sks) (l := []) mixed sks_ok trivial (by kernel_rfl)
noncomputable def e2282 : Entry := ⟨102, [(.agg #[(S 263 0 4 1180591620717411303428), (S 264 0 4 1180591620717411303425), (S 265 0 4 1180591620717411303425)]), (S 4033 0 1 1180591620717411303425), (.int .u8 (.ofNat 184))], b5_0, 5801, (.slice none 0 0), [], 5804⟩
set_option maxRecDepth 1000000 in
theorem o2282 : EntryOK Try.prog e2282 := Ax.part (K := sks) (l := []) mixed sks_ok trivial (by kernel_rfl)
noncomputable def e2284 : Entry := ⟨102, [(.agg #[(S 263 0 4 1180591620717411303428), (S 264 0 4 1180591620717411303425), (S 265 0 4 1180591620717411303425)]), (S 4033 0 1 1180591620717411303425), (.int .u8 (.ofNat 185))], b5_0, 5806, (.slice none 0 0), [], 5809⟩
set_option maxRecDepth 1000000 in
theorem o2284 : EntryOK Try.prog e2284 := Ax.part (K := sks) (l := []) mixed sks_ok trivial (by kernel_rfl)
noncomputable def e2286 : Entry := ⟨102, [(.agg #[(S 263 0 4 1180591620717411303428), (S 264 0 4 1180591620717411303425), (S 265 0 4 1180591620717411303425)]), (S 4033 0 1 1180591620717411303425), (.int .u8 (.ofNat 186))], b5_0, 5811, (.slice none 0 0), [], 5814⟩
set_option maxRecDepth 1000000 in
theorem o2286 : EntryOK Try.prog e2286 := Ax.part (K := sks) (l := []) mixed sks_ok trivial (by kernel_rfl)
noncomputable def e2288 : Entry := ⟨102, [(.agg #[(S 263 0 4 1180591620717411303428), (S 264 0 4 1180591620717411303425), (S 265 0 4 1180591620717411303425)]), (S 4033 0 1 1180591620717411303425), (.int .u8 (.ofNat 187))], b5_0, 5816, (.slice none 0 0), [], 5819⟩
set_option maxRecDepth 1000000 in
theorem o2288 : EntryOK Try.prog e2288 := Ax.part (K := sks) (l := []) mixed sks_ok trivial (by kernel_rfl)
noncomputable def e2290 : Entry := ⟨102, [(.agg #[(S 263 0 4 1180591620717411303428), (S 264 0 4 1180591620717411303425), (S 265 0 4 1180591620717411303425)]), (S 4033 0 1 1180591620717411303425), (.int .u8 (.ofNat 188))], b5_0, 5821, (.slice none 0 0), [], 5824⟩
set_option maxRecDepth 1000000 in
theorem o2290 : EntryOK Try.prog e2290 := Ax.part (K := sks) (l := []) mixed sks_ok trivial (by kernel_rfl)
noncomputable def e2292 : Entry := ⟨102, [(.agg #[(S 263 0 4 1180591620717411303428), (S 264 0 4 1180591620717411303425), (S 265 0 4 1180591620717411303425)]), (S 4033 0 1 1180591620717411303425), (.int .u8 (.ofNat 189))], b5_0, 5826, (.slice none 0 0), [], 5829⟩
set_option maxRecDepth 1000000 in
theorem o2292 : EntryOK Try.prog e2292 := Ax.part (K := sks) (l := []) mixed sks_ok trivial (by kernel_rfl)
noncomputable def e2294 : Entry := ⟨102, [(.agg #[(S 263 0 4 1180591620717411303428), (S 264 0 4 1180591620717411303425), (S 265 0 4 1180591620717411303425)]), (S 4033 0 1 1180591620717411303425), (.int .u8 (.ofNat 190))], b5_0, 5831, (.slice none 0 0), [], 5834⟩
set_option maxRecDepth 1000000 in
theorem o2294 : EntryOK Try.prog e2294 := Ax.part (K := sks) (l := []) mixed sks_ok trivial (by kernel_rfl)
noncomputable def e2296 : Entry := ⟨102, [(.agg #[(S 263 0 4 1180591620717411303428), (S 264 0 4 1180591620717411303425), (S 265 0 4 1180591620717411303425)]), (S 4033 0 1 1180591620717411303425), (.int .u8 (.ofNat 191))], b5_0, 5836, (.slice none 0 0), [], 5839⟩
set_option maxRecDepth 1000000 in
theorem o2296 : EntryOK Try.prog e2296 := Ax.part (K := sks) (l := []) mixed sks_ok trivial (by kernel_rfl)
noncomputable def e2298 : Entry := ⟨102, [(.agg #[(S 263 0 4 1180591620717411303428), (S 264 0 4 1180591620717411303425), (S 265 0 4 1180591620717411303425)]), (S 4033 0 1 1180591620717411303425), (.int .u8 (.ofNat 192))], b5_0, 5841, (.slice none 0 0), [], 5844⟩
set_option maxRecDepth 1000000 in
theorem o2298 : EntryOK Try.prog e2298 := Ax.part (K := sks) (l := []) mixed sks_ok trivial (by kernel_rfl)
noncomputable def e2300 : Entry := ⟨102, [(.agg #[(S 263 0 4 1180591620717411303428), (S 264 0 4 1180591620717411303425), (S 265 0 4 1180591620717411303425)]), (S 4033 0 1 1180591620717411303425), (.int .u8 (.ofNat 193))], b5_0, 5846, (.slice none 0 0), [], 5849⟩
set_option maxRecDepth 1000000 in
theorem o2300 : EntryOK Try.prog e2300 := Ax.part (K := sks) (l := []) mixed sks_ok trivial (by kernel_rfl)
noncomputable def e2302 : Entry := ⟨102, [(.agg #[(S 263 0 4 1180591620717411303428), (S 264 0 4 1180591620717411303425), (S 265 0 4 1180591620717411303425)]), (S 4033 0 1 1180591620717411303425), (.int .u8 (.ofNat 194))], b5_0, 5851, (.slice none 0 0), [], 5854⟩
set_option maxRecDepth 1000000 in
theorem o2302 : EntryOK Try.prog e2302 := Ax.part (K := sks) (l := []) mixed sks_ok trivial (by kernel_rfl)
noncomputable def e2304 : Entry := ⟨102, [(.agg #[(S 263 0 4 1180591620717411303428), (S 264 0 4 1180591620717411303425), (S 265 0 4 1180591620717411303425)]), (S 4033 0 1 1180591620717411303425), (.int .u8 (.ofNat 195))], b5_0, 5856, (.slice none 0 0), [], 5859⟩
set_option maxRecDepth 1000000 in
theorem o2304 : EntryOK Try.prog e2304 := Ax.part (K := sks) (l := []) mixed sks_ok trivial (by kernel_rfl)
noncomputable def e2306 : Entry := ⟨102, [(.agg #[(S 263 0 4 1180591620717411303428), (S 264 0 4 1180591620717411303425), (S 265 0 4 1180591620717411303425)]), (S 4033 0 1 1180591620717411303425), (.int .u8 (.ofNat 196))], b5_0, 5861, (.slice none 0 0), [], 5864⟩
set_option maxRecDepth 1000000 in
theorem o2306 : EntryOK Try.prog e2306 := Ax.part (K := sks) (l := []) mixed sks_ok trivial (by kernel_rfl)
noncomputable def e2308 : Entry := ⟨102, [(.agg #[(S 263 0 4 1180591620717411303428), (S 264 0 4 1180591620717411303425), (S 265 0 4 1180591620717411303425)]), (S 4033 0 1 1180591620717411303425), (.int .u8 (.ofNat 197))], b5_0, 5866, (.slice none 0 0), [], 5869⟩
set_option maxRecDepth 1000000 in
theorem o2308 : EntryOK Try.prog e2308 := Ax.part (K := sks) (l := []) mixed sks_ok trivial (by kernel_rfl)
noncomputable def e2310 : Entry := ⟨102, [(.agg #[(S 263 0 4 1180591620717411303428), (S 264 0 4 1180591620717411303425), (S 265 0 4 1180591620717411303425)]), (S 4033 0 1 1180591620717411303425), (.int .u8 (.ofNat 198))], b5_0, 5871, (.slice none 0 0), [], 5874⟩
set_option maxRecDepth 1000000 in
theorem o2310 : EntryOK Try.prog e2310 := Ax.part (K := sks) (l := []) mixed sks_ok trivial (by kernel_rfl)
noncomputable def e2312 : Entry := ⟨102, [(.agg #[(S 263 0 4 1180591620717411303428), (S 264 0 4 1180591620717411303425), (S 265 0 4 1180591620717411303425)]), (S 4033 0 1 1180591620717411303425), (.int .u8 (.ofNat 199))], b5_0, 5876, (.slice none 0 0), [], 5879⟩
set_option maxRecDepth 1000000 in
theorem o2312 : EntryOK Try.prog e2312 := Ax.part (K := sks) (l := []) mixed sks_ok trivial (by kernel_rfl)
noncomputable def e2314 : Entry := ⟨102, [(.agg #[(S 263 0 4 1180591620717411303428), (S 264 0 4 1180591620717411303425), (S 265 0 4 1180591620717411303425)]), (S 4033 0 1 1180591620717411303425), (.int .u8 (.ofNat 200))], b5_0, 5881, (.slice none 0 0), [], 5884⟩
set_option maxRecDepth 1000000 in
theorem o2314 : EntryOK Try.prog e2314 := Ax.part (K := sks) (l := []) mixed sks_ok trivial (by kernel_rfl)
noncomputable def e2316 : Entry := ⟨102, [(.agg #[(S 263 0 4 1180591620717411303428), (S 264 0 4 1180591620717411303425), (S 265 0 4 1180591620717411303425)]), (S 4033 0 1 1180591620717411303425), (.int .u8 (.ofNat 201))], b5_0, 5886, (.slice none 0 0), [], 5889⟩
set_option maxRecDepth 1000000 in
theorem o2316 : EntryOK Try.prog e2316 := Ax.part (K := sks) (l := []) mixed sks_ok trivial (by kernel_rfl)
noncomputable def e2318 : Entry := ⟨102, [(.agg #[(S 263 0 4 1180591620717411303428), (S 264 0 4 1180591620717411303425), (S 265 0 4 1180591620717411303425)]), (S 4033 0 1 1180591620717411303425), (.int .u8 (.ofNat 202))], b5_0, 5891, (.slice none 0 0), [], 5894⟩
set_option maxRecDepth 1000000 in
theorem o2318 : EntryOK Try.prog e2318 := Ax.part (K := sks) (l := []) mixed sks_ok trivial (by kernel_rfl)
noncomputable def e2320 : Entry := ⟨102, [(.agg #[(S 263 0 4 1180591620717411303428), (S 264 0 4 1180591620717411303425), (S 265 0 4 1180591620717411303425)]), (S 4033 0 1 1180591620717411303425), (.int .u8 (.ofNat 203))], b5_0, 5896, (.slice none 0 0), [], 5899⟩
set_option maxRecDepth 1000000 in
theorem o2320 : EntryOK Try.prog e2320 := Ax.part (K := sks) (l := []) mixed sks_ok trivial (by kernel_rfl)
noncomputable def e2322 : Entry := ⟨102, [(.agg #[(S 263 0 4 1180591620717411303428), (S 264 0 4 1180591620717411303425), (S 265 0 4 1180591620717411303425)]), (S 4033 0 1 1180591620717411303425), (.int .u8 (.ofNat 204))], b5_0, 5901, (.slice none 0 0), [], 5904⟩
set_option maxRecDepth 1000000 in
theorem o2322 : EntryOK Try.prog e2322 := Ax.part (K := sks) (l := []) mixed sks_ok trivial (by kernel_rfl)
noncomputable def e2324 : Entry := ⟨102, [(.agg #[(S 263 0 4 1180591620717411303428), (S 264 0 4 1180591620717411303425), (S 265 0 4 1180591620717411303425)]), (S 4033 0 1 1180591620717411303425), (.int .u8 (.ofNat 205))], b5_0, 5906, (.slice none 0 0), [], 5909⟩
set_option maxRecDepth 1000000 in
theorem o2324 : EntryOK Try.prog e2324 := Ax.part (K := sks) (l := []) mixed sks_ok trivial (by kernel_rfl)
noncomputable def e2326 : Entry := ⟨102, [(.agg #[(S 263 0 4 1180591620717411303428), (S 264 0 4 1180591620717411303425), (S 265 0 4 1180591620717411303425)]), (S 4033 0 1 1180591620717411303425), (.int .u8 (.ofNat 206))], b5_0, 5911, (.slice none 0 0), [], 5914⟩
set_option maxRecDepth 1000000 in
theorem o2326 : EntryOK Try.prog e2326 := Ax.part (K := sks) (l := []) mixed sks_ok trivial (by kernel_rfl)
noncomputable def e2328 : Entry := ⟨102, [(.agg #[(S 263 0 4 1180591620717411303428), (S 264 0 4 1180591620717411303425), (S 265 0 4 1180591620717411303425)]), (S 4033 0 1 1180591620717411303425), (.int .u8 (.ofNat 207))], b5_0, 5916, (.slice none 0 0), [], 5919⟩
set_option maxRecDepth 1000000 in
theorem o2328 : EntryOK Try.prog e2328 := Ax.part (K := sks) (l := []) mixed sks_ok trivial (by kernel_rfl)
noncomputable def e2330 : Entry := ⟨102, [(.agg #[(S 263 0 4 1180591620717411303428), (S 264 0 4 1180591620717411303425), (S 265 0 4 1180591620717411303425)]), (S 4033 0 1 1180591620717411303425), (.int .u8 (.ofNat 208))], b5_0, 5921, (.slice none 0 0), [], 5924⟩
set_option maxRecDepth 1000000 in
theorem o2330 : EntryOK Try.prog e2330 := Ax.part (K := sks) (l := []) mixed sks_ok trivial (by kernel_rfl)
noncomputable def e2332 : Entry := ⟨102, [(.agg #[(S 263 0 4 1180591620717411303428), (S 264 0 4 1180591620717411303425), (S 265 0 4 1180591620717411303425)]), (S 4033 0 1 1180591620717411303425), (.int .u8 (.ofNat 209))], b5_0, 5926, (.slice none 0 0), [], 5929⟩
set_option maxRecDepth 1000000 in
theorem o2332 : EntryOK Try.prog e2332 := Ax.part (K := sks) (l := []) mixed sks_ok trivial (by kernel_rfl)
noncomputable def e2334 : Entry := ⟨102, [(.agg #[(S 263 0 4 1180591620717411303428), (S 264 0 4 1180591620717411303425), (S 265 0 4 1180591620717411303425)]), (S 4033 0 1 1180591620717411303425), (.int .u8 (.ofNat 210))], b5_0, 5931, (.slice none 0 0), [], 5934⟩
set_option maxRecDepth 1000000 in
theorem o2334 : EntryOK Try.prog e2334 := Ax.part (K := sks) (l := []) mixed sks_ok trivial (by kernel_rfl)
noncomputable def e2336 : Entry := ⟨102, [(.agg #[(S 263 0 4 1180591620717411303428), (S 264 0 4 1180591620717411303425), (S 265 0 4 1180591620717411303425)]), (S 4033 0 1 1180591620717411303425), (.int .u8 (.ofNat 211))], b5_0, 5936, (.slice none 0 0), [], 5939⟩
set_option maxRecDepth 1000000 in
theorem o2336 : EntryOK Try.prog e2336 := Ax.part (K := sks) (l := []) mixed sks_ok trivial (by kernel_rfl)
noncomputable def e2338 : Entry := ⟨102, [(.agg #[(S 263 0 4 1180591620717411303428), (S 264 0 4 1180591620717411303425), (S 265 0 4 1180591620717411303425)]), (S 4033 0 1 1180591620717411303425), (.int .u8 (.ofNat 212))], b5_0, 5941, (.slice none 0 0), [], 5944⟩
set_option maxRecDepth 1000000 in
theorem o2338 : EntryOK Try.prog e2338 := Ax.part (K := sks) (l := []) mixed sks_ok trivial (by kernel_rfl)
noncomputable def e2340 : Entry := ⟨102, [(.agg #[(S 263 0 4 1180591620717411303428), (S 264 0 4 1180591620717411303425), (S 265 0 4 1180591620717411303425)]), (S 4033 0 1 1180591620717411303425), (.int .u8 (.ofNat 213))], b5_0, 5946, (.slice none 0 0), [], 5949⟩
set_option maxRecDepth 1000000 in
theorem o2340 : EntryOK Try.prog e2340 := Ax.part (K := sks) (l := []) mixed sks_ok trivial (by kernel_rfl)
noncomputable def e2342 : Entry := ⟨102, [(.agg #[(S 263 0 4 1180591620717411303428), (S 264 0 4 1180591620717411303425), (S 265 0 4 1180591620717411303425)]), (S 4033 0 1 1180591620717411303425), (.int .u8 (.ofNat 214))], b5_0, 5951, (.slice none 0 0), [], 5954⟩
set_option maxRecDepth 1000000 in
theorem o2342 : EntryOK Try.prog e2342 := Ax.part (K := sks) (l := []) mixed sks_ok trivial (by kernel_rfl)
noncomputable def e2344 : Entry := ⟨102, [(.agg #[(S 263 0 4 1180591620717411303428), (S 264 0 4 1180591620717411303425), (S 265 0 4 1180591620717411303425)]), (S 4033 0 1 1180591620717411303425), (.int .u8 (.ofNat 215))], b5_0, 5956, (.slice none 0 0), [], 5959⟩
set_option maxRecDepth 1000000 in
theorem o2344 : EntryOK Try.prog e2344 := Ax.part (K := sks) (l := []) mixed sks_ok trivial (by kernel_rfl)
noncomputable def e2346 : Entry := ⟨102, [(.agg #[(S 263 0 4 1180591620717411303428), (S 264 0 4 1180591620717411303425), (S 265 0 4 1180591620717411303425)]), (S 4033 0 1 1180591620717411303425), (.int .u8 (.ofNat 216))], b5_0, 5961, (.slice none 0 0), [], 5964⟩
set_option maxRecDepth 1000000 in
theorem o2346 : EntryOK Try.prog e2346 := Ax.part (K := sks) (l := []) mixed sks_ok trivial (by kernel_rfl)
noncomputable def e2348 : Entry := ⟨102, [(.agg #[(S 263 0 4 1180591620717411303428), (S 264 0 4 1180591620717411303425), (S 265 0 4 1180591620717411303425)]), (S 4033 0 1 1180591620717411303425), (.int .u8 (.ofNat 217))], b5_0, 5966, (.slice none 0 0), [], 5969⟩
set_option maxRecDepth 1000000 in
theorem o2348 : EntryOK Try.prog e2348 := Ax.part (K := sks) (l := []) mixed sks_ok trivial (by kernel_rfl)
noncomputable def e2350 : Entry := ⟨102, [(.agg #[(S 263 0 4 1180591620717411303428), (S 264 0 4 1180591620717411303425), (S 265 0 4 1180591620717411303425)]), (S 4033 0 1 1180591620717411303425), (.int .u8 (.ofNat 218))], b5_0, 5971, (.slice none 0 0), [], 5974⟩
set_option maxRecDepth 1000000 in
theorem o2350 : EntryOK Try.prog e2350 := Ax.part (K := sks) (l := []) mixed sks_ok trivial (by kernel_rfl)
noncomputable def e2352 : Entry := ⟨102, [(.agg #[(S 263 0 4 1180591620717411303428), (S 264 0 4 1180591620717411303425), (S 265 0 4 1180591620717411303425)]), (S 4033 0 1 1180591620717411303425), (.int .u8 (.ofNat 219))], b5_0, 5976, (.slice none 0 0), [], 5979⟩
set_option maxRecDepth 1000000 in
theorem o2352 : EntryOK Try.prog e2352 := Ax.part (K := sks) (l := []) mixed sks_ok trivial (by kernel_rfl)
noncomputable def e2354 : Entry := ⟨102, [(.agg #[(S 263 0 4 1180591620717411303428), (S 264 0 4 1180591620717411303425), (S 265 0 4 1180591620717411303425)]), (S 4033 0 1 1180591620717411303425), (.int .u8 (.ofNat 220))], b5_0, 5981, (.slice none 0 0), [], 5984⟩
set_option maxRecDepth 1000000 in
theorem o2354 : EntryOK Try.prog e2354 := Ax.part (K := sks) (l := []) mixed sks_ok trivial (by kernel_rfl)
noncomputable def e2356 : Entry := ⟨102, [(.agg #[(S 263 0 4 1180591620717411303428), (S 264 0 4 1180591620717411303425), (S 265 0 4 1180591620717411303425)]), (S 4033 0 1 1180591620717411303425), (.int .u8 (.ofNat 221))], b5_0, 5986, (.slice none 0 0), [], 5989⟩
set_option maxRecDepth 1000000 in
theorem o2356 : EntryOK Try.prog e2356 := Ax.part (K := sks) (l := []) mixed sks_ok trivial (by kernel_rfl)
noncomputable def e2358 : Entry := ⟨102, [(.agg #[(S 263 0 4 1180591620717411303428), (S 264 0 4 1180591620717411303425), (S 265 0 4 1180591620717411303425)]), (S 4033 0 1 1180591620717411303425), (.int .u8 (.ofNat 222))], b5_0, 5991, (.slice none 0 0), [], 5994⟩
set_option maxRecDepth 1000000 in
theorem o2358 : EntryOK Try.prog e2358 := Ax.part (K := sks) (l := []) mixed sks_ok trivial (by kernel_rfl)
noncomputable def e2360 : Entry := ⟨102, [(.agg #[(S 263 0 4 1180591620717411303428), (S 264 0 4 1180591620717411303425), (S 265 0 4 1180591620717411303425)]), (S 4033 0 1 1180591620717411303425), (.int .u8 (.ofNat 223))], b5_0, 5996, (.slice none 0 0), [], 5999⟩
set_option maxRecDepth 1000000 in
theorem o2360 : EntryOK Try.prog e2360 := Ax.part (K := sks) (l := []) mixed sks_ok trivial (by kernel_rfl)
noncomputable def e2362 : Entry := ⟨102, [(.agg #[(S 263 0 4 1180591620717411303428), (S 264 0 4 1180591620717411303425), (S 265 0 4 1180591620717411303425)]), (S 4033 0 1 1180591620717411303425), (.int .u8 (.ofNat 224))], b5_0, 6001, (.slice none 0 0), [], 6004⟩
set_option maxRecDepth 1000000 in
theorem o2362 : EntryOK Try.prog e2362 := Ax.part (K := sks) (l := []) mixed sks_ok trivial (by kernel_rfl)
noncomputable def e2364 : Entry := ⟨102, [(.agg #[(S 263 0 4 1180591620717411303428), (S 264 0 4 1180591620717411303425), (S 265 0 4 1180591620717411303425)]), (S 4033 0 1 1180591620717411303425), (.int .u8 (.ofNat 225))], b5_0, 6006, (.slice none 0 0), [], 6009⟩
set_option maxRecDepth 1000000 in
theorem o2364 : EntryOK Try.prog e2364 := Ax.part (K := sks) (l := []) mixed sks_ok trivial (by kernel_rfl)
noncomputable def e2366 : Entry := ⟨102, [(.agg #[(S 263 0 4 1180591620717411303428), (S 264 0 4 1180591620717411303425), (S 265 0 4 1180591620717411303425)]), (S 4033 0 1 1180591620717411303425), (.int .u8 (.ofNat 226))], b5_0, 6011, (.slice none 0 0), [], 6014⟩
set_option maxRecDepth 1000000 in
theorem o2366 : EntryOK Try.prog e2366 := Ax.part (K := sks) (l := []) mixed sks_ok trivial (by kernel_rfl)
noncomputable def e2368 : Entry := ⟨102, [(.agg #[(S 263 0 4 1180591620717411303428), (S 264 0 4 1180591620717411303425), (S 265 0 4 1180591620717411303425)]), (S 4033 0 1 1180591620717411303425), (.int .u8 (.ofNat 227))], b5_0, 6016, (.slice none 0 0), [], 6019⟩
set_option maxRecDepth 1000000 in
theorem o2368 : EntryOK Try.prog e2368 := Ax.part (K := sks) (l := []) mixed sks_ok trivial (by kernel_rfl)
noncomputable def e2370 : Entry := ⟨102, [(.agg #[(S 263 0 4 1180591620717411303428), (S 264 0 4 1180591620717411303425), (S 265 0 4 1180591620717411303425)]), (S 4033 0 1 1180591620717411303425), (.int .u8 (.ofNat 228))], b5_0, 6021, (.slice none 0 0), [], 6024⟩
set_option maxRecDepth 1000000 in
theorem o2370 : EntryOK Try.prog e2370 := Ax.part (K := sks) (l := []) mixed sks_ok trivial (by kernel_rfl)
noncomputable def e2372 : Entry := ⟨102, [(.agg #[(S 263 0 4 1180591620717411303428), (S 264 0 4 1180591620717411303425), (S 265 0 4 1180591620717411303425)]), (S 4033 0 1 1180591620717411303425), (.int .u8 (.ofNat 229))], b5_0, 6026, (.slice none 0 0), [], 6029⟩
set_option maxRecDepth 1000000 in
theorem o2372 : EntryOK Try.prog e2372 := Ax.part (K := sks) (l := []) mixed sks_ok trivial (by kernel_rfl)
noncomputable def e2374 : Entry := ⟨102, [(.agg #[(S 263 0 4 1180591620717411303428), (S 264 0 4 1180591620717411303425), (S 265 0 4 1180591620717411303425)]), (S 4033 0 1 1180591620717411303425), (.int .u8 (.ofNat 230))], b5_0, 6031, (.slice none 0 0), [], 6034⟩
set_option maxRecDepth 1000000 in
theorem o2374 : EntryOK Try.prog e2374 := Ax.part (K := sks) (l := []) mixed sks_ok trivial (by kernel_rfl)
noncomputable def e2376 : Entry := ⟨102, [(.agg #[(S 263 0 4 1180591620717411303428), (S 264 0 4 1180591620717411303425), (S 265 0 4 1180591620717411303425)]), (S 4033 0 1 1180591620717411303425), (.int .u8 (.ofNat 231))], b5_0, 6036, (.slice none 0 0), [], 6039⟩
set_option maxRecDepth 1000000 in
theorem o2376 : EntryOK Try.prog e2376 := Ax.part (K := sks) (l := []) mixed sks_ok trivial (by kernel_rfl)
noncomputable def e2378 : Entry := ⟨102, [(.agg #[(S 263 0 4 1180591620717411303428), (S 264 0 4 1180591620717411303425), (S 265 0 4 1180591620717411303425)]), (S 4033 0 1 1180591620717411303425), (.int .u8 (.ofNat 232))], b5_0, 6041, (.slice none 0 0), [], 6044⟩
set_option maxRecDepth 1000000 in
theorem o2378 : EntryOK Try.prog e2378 := Ax.part (K := sks) (l := []) mixed sks_ok trivial (by kernel_rfl)
noncomputable def e2380 : Entry := ⟨102, [(.agg #[(S 263 0 4 1180591620717411303428), (S 264 0 4 1180591620717411303425), (S 265 0 4 1180591620717411303425)]), (S 4033 0 1 1180591620717411303425), (.int .u8 (.ofNat 233))], b5_0, 6046, (.slice none 0 0), [], 6049⟩
set_option maxRecDepth 1000000 in
theorem o2380 : EntryOK Try.prog e2380 := Ax.part (K := sks) (l := []) mixed sks_ok trivial (by kernel_rfl)
noncomputable def e2382 : Entry := ⟨102, [(.agg #[(S 263 0 4 1180591620717411303428), (S 264 0 4 1180591620717411303425), (S 265 0 4 1180591620717411303425)]), (S 4033 0 1 1180591620717411303425), (.int .u8 (.ofNat 234))], b5_0, 6051, (.slice none 0 0), [], 6054⟩
set_option maxRecDepth 1000000 in
theorem o2382 : EntryOK Try.prog e2382 := Ax.part (K := sks) (l := []) mixed sks_ok trivial (by kernel_rfl)
noncomputable def e2384 : Entry := ⟨102, [(.agg #[(S 263 0 4 1180591620717411303428), (S 264 0 4 1180591620717411303425), (S 265 0 4 1180591620717411303425)]), (S 4033 0 1 1180591620717411303425), (.int .u8 (.ofNat 235))], b5_0, 6056, (.slice none 0 0), [], 6059⟩
set_option maxRecDepth 1000000 in
theorem o2384 : EntryOK Try.prog e2384 := Ax.part (K := sks) (l := []) mixed sks_ok trivial (by kernel_rfl)
noncomputable def e2386 : Entry := ⟨102, [(.agg #[(S 263 0 4 1180591620717411303428), (S 264 0 4 1180591620717411303425), (S 265 0 4 1180591620717411303425)]), (S 4033 0 1 1180591620717411303425), (.int .u8 (.ofNat 236))], b5_0, 6061, (.slice none 0 0), [], 6064⟩
set_option maxRecDepth 1000000 in
theorem o2386 : EntryOK Try.prog e2386 := Ax.part (K := sks) (l := []) mixed sks_ok trivial (by kernel_rfl)

end Go.Proofs.Ytoocpkmefmjcjaa.munchNil
