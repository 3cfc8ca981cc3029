/-
  Parts of the run of viewportlaw06.MunchNil, in order: what each of these calls gives, for each memory that holds what it looks at. No condition.
-/
import Derived.Test.YtoocpkmefmjcjaaAx1
import Derived.Test.YtoocpkmefmjcjaaKeys
import Derived.Test.YtoocpkmefmjcjaaProg
import Derived.KernelRfl
set_option linter.unusedSimpArgs false
set_option linter.unusedVariables false
namespace Go.Proofs.Ytoocpkmefmjcjaa.munchNil
open Go.Proofs Go.Proofs.Ytoocpkmefmjcjaa Ax

noncomputable def b1_0 : List LBlk := [⟨263, .cells 149 [(.int .u64 (.ofNat 0)), (.int .u64 (.ofNat 0)), (.int .u64 (.ofNat 0)), (.int .u64 (.ofNat 0)), (.int .u64 (.ofNat 0)), (.int .u64 (.ofNat 8589934592)), (.int .u64 (.ofNat 0)), (.int .u64 (.ofNat 0)), (.int .u64 (.ofNat 0)), (.int .u64 (.ofNat 17179869184)), (.int .u64 (.ofNat 0)), (.int .u64 (.ofNat 0)), (.int .u64 (.ofNat 287948901175001088)), (.int .u64 (.ofNat 0)), (.int .u64 (.ofNat 0)), (.int .u64 (.ofNat 0))]⟩, ⟨275, .cells 3 [(I 1), (I 3)]⟩, ⟨217, .cells 3 [(I 2)]⟩, ⟨213, .cells 3 [(I 2)]⟩, ⟨271, .cells 3 [(I 3)]⟩, ⟨264, .cells 47 [(S 275 0 2 1180591620717411303425), (S 217 0 1 1180591620717411303425), (S 213 0 1 1180591620717411303425), (S 271 0 1 1180591620717411303425)]⟩, ⟨265, .cells 3 [(M 0), (I 0), (I 0), (I 1)]⟩, ⟨280, .cells 3 [(I 0)]⟩]
noncomputable def e90 : Entry := ⟨99, [(.agg #[(S 263 0 4 1180591620717411303428), (S 264 0 4 1180591620717411303425), (S 265 0 4 1180591620717411303425)])], [⟨263, .cells 149 [(.int .u64 (.ofNat 0)), (.int .u64 (.ofNat 0)), (.int .u64 (.ofNat 0)), (.int .u64 (.ofNat 0)), (.int .u64 (.ofNat 0)), (.int .u64 (.ofNat 8589934592)), (.int .u64 (.ofNat 0)), (.int .u64 (.ofNat 0)), (.int .u64 (.ofNat 0)), (.int .u64 (.ofNat 17179869184)), (.int .u64 (.ofNat 0)), (.int .u64 (.ofNat 0)), (.int .u64 (.ofNat 287948901175001088)), (.int .u64 (.ofNat 0)), (.int .u64 (.ofNat 0)), (.int .u64 (.ofNat 0))]⟩, ⟨275, .cells 3 [(I 1), (I 3)]⟩, ⟨217, .cells 3 [(I 2)]⟩, ⟨213, .cells 3 [(I 2)]⟩, ⟨271, .cells 3 [(I 3)]⟩, ⟨264, .cells 47 [(S 275 0 2 1180591620717411303425), (S 217 0 1 1180591620717411303425), (S 213 0 1 1180591620717411303425), (S 271 0 1 1180591620717411303425)]⟩, ⟨265, .cells 3 [(M 0), (I 0), (I 0), (I 1)]⟩], 279, (I 0), [], 280⟩
set_option maxRecDepth 1000000 in
theorem o90 : EntryOK Try.prog e90 := Ax.part (K := sks) (l := []) mixed sks_ok trivial (by kernel_rfl)
noncomputable def e93 : Entry := ⟨102, [(.agg #[(S 263 0 4 1180591620717411303428), (S 264 0 4 1180591620717411303425), (S 265 0 4 1180591620717411303425)]), (S 280 0 1 1), (.int .u8 (.ofNat 0))], b1_0, 310, (.slice none 0 0), [], 314⟩
set_option maxRecDepth 1000000 in
theorem o93 : EntryOK Try.prog e93 := Ax.part (K := sks) (l := []) mixed sks_ok trivial (by kernel_rfl)
noncomputable def e96 : Entry := ⟨102, [(.agg #[(S 263 0 4 1180591620717411303428), (S 264 0 4 1180591620717411303425), (S 265 0 4 1180591620717411303425)]), (S 280 0 1 1), (.int .u8 (.ofNat 1))], b1_0, 316, (.slice none 0 0), [], 320⟩
set_option maxRecDepth 1000000 in
theorem o96 : EntryOK Try.prog e96 := Ax.part (K := sks) (l := []) mixed sks_ok trivial (by kernel_rfl)
noncomputable def e99 : Entry := ⟨102, [(.agg #[(S 263 0 4 1180591620717411303428), (S 264 0 4 1180591620717411303425), (S 265 0 4 1180591620717411303425)]), (S 280 0 1 1), (.int .u8 (.ofNat 2))], b1_0, 322, (.slice none 0 0), [], 326⟩
set_option maxRecDepth 1000000 in
theorem o99 : EntryOK Try.prog e99 := Ax.part (K := sks) (l := []) mixed sks_ok trivial (by kernel_rfl)
noncomputable def e102 : Entry := ⟨102, [(.agg #[(S 263 0 4 1180591620717411303428), (S 264 0 4 1180591620717411303425), (S 265 0 4 1180591620717411303425)]), (S 280 0 1 1), (.int .u8 (.ofNat 3))], b1_0, 328, (.slice none 0 0), [], 332⟩
set_option maxRecDepth 1000000 in
theorem o102 : EntryOK Try.prog e102 := Ax.part (K := sks) (l := []) mixed sks_ok trivial (by kernel_rfl)
noncomputable def e105 : Entry := ⟨102, [(.agg #[(S 263 0 4 1180591620717411303428), (S 264 0 4 1180591620717411303425), (S 265 0 4 1180591620717411303425)]), (S 280 0 1 1), (.int .u8 (.ofNat 4))], b1_0, 334, (.slice none 0 0), [], 338⟩
set_option maxRecDepth 1000000 in
theorem o105 : EntryOK Try.prog e105 := Ax.part (K := sks) (l := []) mixed sks_ok trivial (by kernel_rfl)
noncomputable def e108 : Entry := ⟨102, [(.agg #[(S 263 0 4 1180591620717411303428), (S 264 0 4 1180591620717411303425), (S 265 0 4 1180591620717411303425)]), (S 280 0 1 1), (.int .u8 (.ofNat 5))], b1_0, 340, (.slice none 0 0), [], 344⟩
set_option maxRecDepth 1000000 in
theorem o108 : EntryOK Try.prog e108 := Ax.part (K := sks) (l := []) mixed sks_ok trivial (by kernel_rfl)
noncomputable def e111 : Entry := ⟨102, [(.agg #[(S 263 0 4 1180591620717411303428), (S 264 0 4 1180591620717411303425), (S 265 0 4 1180591620717411303425)]), (S 280 0 1 1), (.int .u8 (.ofNat 6))], b1_0, 346, (.slice none 0 0), [], 350⟩
set_option maxRecDepth 1000000 in
theorem o111 : EntryOK Try.prog e111 := Ax.part (K := sks) (l := []) mixed sks_ok trivial (by kernel_rfl)
noncomputable def e114 : Entry := ⟨102, [(.agg #[(S 263 0 4 1180591620717411303428), (S 264 0 4 1180591620717411303425), (S 265 0 4 1180591620717411303425)]), (S 280 0 1 1), (.int .u8 (.ofNat 7))], b1_0, 352, (.slice none 0 0), [], 356⟩
set_option maxRecDepth 1000000 in
theorem o114 : EntryOK Try.prog e114 := Ax.part (K := sks) (l := []) mixed sks_ok trivial (by kernel_rfl)
noncomputable def e117 : Entry := ⟨102, [(.agg #[(S 263 0 4 1180591620717411303428), (S 264 0 4 1180591620717411303425), (S 265 0 4 1180591620717411303425)]), (S 280 0 1 1), (.int .u8 (.ofNat 8))], b1_0, 358, (.slice none 0 0), [], 362⟩
set_option maxRecDepth 1000000 in
theorem o117 : EntryOK Try.prog e117 := Ax.part (K := sks) (l := []) mixed sks_ok trivial (by kernel_rfl)
noncomputable def e120 : Entry := ⟨102, [(.agg #[(S 263 0 4 1180591620717411303428), (S 264 0 4 1180591620717411303425), (S 265 0 4 1180591620717411303425)]), (S 280 0 1 1), (.int .u8 (.ofNat 9))], b1_0, 364, (.slice none 0 0), [], 368⟩
set_option maxRecDepth 1000000 in
theorem o120 : EntryOK Try.prog e120 := Ax.part (K := sks) (l := []) mixed sks_ok trivial (by kernel_rfl)
noncomputable def e123 : Entry := ⟨102, [(.agg #[(S 263 0 4 1180591620717411303428), (S 264 0 4 1180591620717411303425), (S 265 0 4 1180591620717411303425)]), (S 280 0 1 1), (.int .u8 (.ofNat 10))], b1_0, 370, (.slice none 0 0), [], 374⟩
set_option maxRecDepth 1000000 in
theorem o123 : EntryOK Try.prog e123 := Ax.part (K := sks) (l := []) mixed sks_ok trivial (by kernel_rfl)
noncomputable def e126 : Entry := ⟨102, [(.agg #[(S 263 0 4 1180591620717411303428), (S 264 0 4 1180591620717411303425), (S 265 0 4 1180591620717411303425)]), (S 280 0 1 1), (.int .u8 (.ofNat 11))], b1_0, 376, (.slice none 0 0), [], 380⟩
set_option maxRecDepth 1000000 in
theorem o126 : EntryOK Try.prog e126 := Ax.part (K := sks) (l := []) mixed sks_ok trivial (by kernel_rfl)
noncomputable def e129 : Entry := ⟨102, [(.agg #[(S 263 0 4 1180591620717411303428), (S 264 0 4 1180591620717411303425), (S 265 0 4 1180591620717411303425)]), (S 280 0 1 1), (.int .u8 (.ofNat 12))], b1_0, 382, (.slice none 0 0), [], 386⟩
set_option maxRecDepth 1000000 in
theorem o129 : EntryOK Try.prog e129 := Ax.part (K := sks) (l := []) mixed sks_ok trivial (by kernel_rfl)
noncomputable def e132 : Entry := ⟨102, [(.agg #[(S 263 0 4 1180591620717411303428), (S 264 0 4 1180591620717411303425), (S 265 0 4 1180591620717411303425)]), (S 280 0 1 1), (.int .u8 (.ofNat 13))], b1_0, 388, (.slice none 0 0), [], 392⟩
set_option maxRecDepth 1000000 in
theorem o132 : EntryOK Try.prog e132 := Ax.part (K := sks) (l := []) mixed sks_ok trivial (by kernel_rfl)
noncomputable def e135 : Entry := ⟨102, [(.agg #[(S 263 0 4 1180591620717411303428), (S 264 0 4 1180591620717411303425), (S 265 0 4 1180591620717411303425)]), (S 280 0 1 1), (.int .u8 (.ofNat 14))], b1_0, 394, (.slice none 0 0), [], 398⟩
set_option maxRecDepth 1000000 in
theorem o135 : EntryOK Try.prog e135 := Ax.part (K := sks) (l := []) mixed sks_ok trivial (by kernel_rfl)
noncomputable def e138 : Entry := ⟨102, [(.agg #[(S 263 0 4 1180591620717411303428), (S 264 0 4 1180591620717411303425), (S 265 0 4 1180591620717411303425)]), (S 280 0 1 1), (.int .u8 (.ofNat 15))], b1_0, 400, (.slice none 0 0), [], 404⟩
set_option maxRecDepth 1000000 in
theorem o138 : EntryOK Try.prog e138 := Ax.part (K := sks) (l := []) mixed sks_ok trivial (by kernel_rfl)
noncomputable def e141 : Entry := ⟨102, [(.agg #[(S 263 0 4 1180591620717411303428), (S 264 0 4 1180591620717411303425), (S 265 0 4 1180591620717411303425)]), (S 280 0 1 1), (.int .u8 (.ofNat 16))], b1_0, 406, (.slice none 0 0), [], 410⟩
set_option maxRecDepth 1000000 in
theorem o141 : EntryOK Try.prog e141 := Ax.part (K := sks) (l := []) mixed sks_ok trivial (by kernel_rfl)
noncomputable def e144 : Entry := ⟨102, [(.agg #[(S 263 0 4 1180591620717411303428), (S 264 0 4 1180591620717411303425), (S 265 0 4 1180591620717411303425)]), (S 280 0 1 1), (.int .u8 (.ofNat 17))], b1_0, 412, (.slice none 0 0), [], 416⟩
set_option maxRecDepth 1000000 in
theorem o144 : EntryOK Try.prog e144 := Ax.part (K := sks) (l := []) mixed sks_ok trivial (by kernel_rfl)
noncomputable def e147 : Entry := ⟨102, [(.agg #[(S 263 0 4 1180591620717411303428), (S 264 0 4 1180591620717411303425), (S 265 0 4 1180591620717411303425)]), (S 280 0 1 1), (.int .u8 (.ofNat 18))], b1_0, 418, (.slice none 0 0), [], 422⟩
set_option maxRecDepth 1000000 in
theorem o147 : EntryOK Try.prog e147 := Ax.part (K := sks) (l := []) mixed sks_ok trivial (by kernel_rfl)
noncomputable def e150 : Entry := ⟨102, [(.agg #[(S 263 0 4 1180591620717411303428), (S 264 0 4 1180591620717411303425), (S 265 0 4 1180591620717411303425)]), (S 280 0 1 1), (.int .u8 (.ofNat 19))], b1_0, 424, (.slice none 0 0), [], 428⟩
set_option maxRecDepth 1000000 in
theorem o150 : EntryOK Try.prog e150 := Ax.part (K := sks) (l := []) mixed sks_ok trivial (by kernel_rfl)
noncomputable def e153 : Entry := ⟨102, [(.agg #[(S 263 0 4 1180591620717411303428), (S 264 0 4 1180591620717411303425), (S 265 0 4 1180591620717411303425)]), (S 280 0 1 1), (.int .u8 (.ofNat 20))], b1_0, 430, (.slice none 0 0), [], 434⟩
set_option maxRecDepth 1000000 in
theorem o153 : EntryOK Try.prog e153 := Ax.part (K := sks) (l := []) mixed sks_ok trivial (by kernel_rfl)
noncomputable def e156 : Entry := ⟨102, [(.agg #[(S 263 0 4 1180591620717411303428), (S 264 0 4 1180591620717411303425), (S 265 0 4 1180591620717411303425)]), (S 280 0 1 1), (.int .u8 (.ofNat 21))], b1_0, 436, (.slice none 0 0), [], 440⟩
set_option maxRecDepth 1000000 in
theorem o156 : EntryOK Try.prog e156 := Ax.part (K := sks) (l := []) mixed sks_ok trivial (by kernel_rfl)
noncomputable def e159 : Entry := ⟨102, [(.agg #[(S 263 0 4 1180591620717411303428), (S 264 0 4 1180591620717411303425), (S 265 0 4 1180591620717411303425)]), (S 280 0 1 1), (.int .u8 (.ofNat 22))], b1_0, 442, (.slice none 0 0), [], 446⟩
set_option maxRecDepth 1000000 in
theorem o159 : EntryOK Try.prog e159 := Ax.part (K := sks) (l := []) mixed sks_ok trivial (by kernel_rfl)
noncomputable def e162 : Entry := ⟨102, [(.agg #[(S 263 0 4 1180591620717411303428), (S 264 0 4 1180591620717411303425), (S 265 0 4 1180591620717411303425)]), (S 280 0 1 1), (.int .u8 (.ofNat 23))], b1_0, 448, (.slice none 0 0), [], 452⟩
set_option maxRecDepth 1000000 in
theorem o162 : EntryOK Try.prog e162 := Ax.part (K := sks) (l := []) mixed sks_ok trivial (by kernel_rfl)
noncomputable def e165 : Entry := ⟨102, [(.agg #[(S 263 0 4 1180591620717411303428), (S 264 0 4 1180591620717411303425), (S 265 0 4 1180591620717411303425)]), (S 280 0 1 1), (.int .u8 (.ofNat 24))], b1_0, 454, (.slice none 0 0), [], 458⟩
set_option maxRecDepth 1000000 in
theorem o165 : EntryOK Try.prog e165 := Ax.part (K := sks) (l := []) mixed sks_ok trivial (by kernel_rfl)
noncomputable def e168 : Entry := ⟨102, [(.agg #[(S 263 0 4 1180591620717411303428), (S 264 0 4 1180591620717411303425), (S 265 0 4 1180591620717411303425)]), (S 280 0 1 1), (.int .u8 (.ofNat 25))], b1_0, 460, (.slice none 0 0), [], 464⟩
set_option maxRecDepth 1000000 in
theorem o168 : EntryOK Try.prog e168 := Ax.part (K := sks) (l := []) mixed sks_ok trivial (by kernel_rfl)
noncomputable def e171 : Entry := ⟨102, [(.agg #[(S 263 0 4 1180591620717411303428), (S 264 0 4 1180591620717411303425), (S 265 0 4 1180591620717411303425)]), (S 280 0 1 1), (.int .u8 (.ofNat 26))], b1_0, 466, (.slice none 0 0), [], 470⟩
set_option maxRecDepth 1000000 in
theorem o171 : EntryOK Try.prog e171 := Ax.part (K := sks) (l := []) mixed sks_ok trivial (by kernel_rfl)
noncomputable def e174 : Entry := ⟨102, [(.agg #[(S 263 0 4 1180591620717411303428), (S 264 0 4 1180591620717411303425), (S 265 0 4 1180591620717411303425)]), (S 280 0 1 1), (.int .u8 (.ofNat 27))], b1_0, 472, (.slice none 0 0), [], 476⟩
set_option maxRecDepth 1000000 in
theorem o174 : EntryOK Try.prog e174 := Ax.part (K := sks) (l := []) mixed sks_ok trivial (by kernel_rfl)
noncomputable def e177 : Entry := ⟨102, [(.agg #[(S 263 0 4 1180591620717411303428), (S 264 0 4 1180591620717411303425), (S 265 0 4 1180591620717411303425)]), (S 280 0 1 1), (.int .u8 (.ofNat 28))], b1_0, 478, (.slice none 0 0), [], 482⟩
set_option maxRecDepth 1000000 in
theorem o177 : EntryOK Try.prog e177 := Ax.part (K := sks) (l := []) mixed sks_ok trivial (by kernel_rfl)
noncomputable def e180 : Entry := ⟨102, [(.agg #[(S 263 0 4 1180591620717411303428), (S 264 0 4 1180591620717411303425), (S 265 0 4 1180591620717411303425)]), (S 280 0 1 1), (.int .u8 (.ofNat 29))], b1_0, 484, (.slice none 0 0), [], 488⟩
set_option maxRecDepth 1000000 in
theorem o180 : EntryOK Try.prog e180 := Ax.part (K := sks) (l := []) mixed sks_ok trivial (by kernel_rfl)
noncomputable def e183 : Entry := ⟨102, [(.agg #[(S 263 0 4 1180591620717411303428), (S 264 0 4 1180591620717411303425), (S 265 0 4 1180591620717411303425)]), (S 280 0 1 1), (.int .u8 (.ofNat 30))], b1_0, 490, (.slice none 0 0), [], 494⟩
set_option maxRecDepth 1000000 in
theorem o183 : EntryOK Try.prog e183 := Ax.part (K := sks) (l := []) mixed sks_ok trivial (by kernel_rfl)
noncomputable def e186 : Entry := ⟨102, [(.agg #[(S 263 0 4 1180591620717411303428), (S 264 0 4 1180591620717411303425), (S 265 0 4 1180591620717411303425)]), (S 280 0 1 1), (.int .u8 (.ofNat 31))], b1_0, 496, (.slice none 0 0), [], 500⟩
set_option maxRecDepth 1000000 in
theorem o186 : EntryOK Try.prog e186 := Ax.part (K := sks) (l := []) mixed sks_ok trivial (by kernel_rfl)
noncomputable def e189 : Entry := ⟨102, [(.agg #[(S 263 0 4 1180591620717411303428), (S 264 0 4 1180591620717411303425), (S 265 0 4 1180591620717411303425)]), (S 280 0 1 1), (.int .u8 (.ofNat 32))], b1_0, 502, (.slice none 0 0), [], 506⟩
set_option maxRecDepth 1000000 in
theorem o189 : EntryOK Try.prog e189 := Ax.part (K := sks) (l := []) mixed sks_ok trivial (by kernel_rfl)
noncomputable def e192 : Entry := ⟨102, [(.agg #[(S 263 0 4 1180591620717411303428), (S 264 0 4 1180591620717411303425), (S 265 0 4 1180591620717411303425)]), (S 280 0 1 1), (.int .u8 (.ofNat 33))], b1_0, 508, (.slice none 0 0), [], 512⟩
set_option maxRecDepth 1000000 in
theorem o192 : EntryOK Try.prog e192 := Ax.part (K := sks) (l := []) mixed sks_ok trivial (by kernel_rfl)
noncomputable def e195 : Entry := ⟨102, [(.agg #[(S 263 0 4 1180591620717411303428), (S 264 0 4 1180591620717411303425), (S 265 0 4 1180591620717411303425)]), (S 280 0 1 1), (.int .u8 (.ofNat 34))], b1_0, 514, (.slice none 0 0), [], 518⟩
set_option maxRecDepth 1000000 in
theorem o195 : EntryOK Try.prog e195 := Ax.part (K := sks) (l := []) mixed sks_ok trivial (by kernel_rfl)
noncomputable def e198 : Entry := ⟨102, [(.agg #[(S 263 0 4 1180591620717411303428), (S 264 0 4 1180591620717411303425), (S 265 0 4 1180591620717411303425)]), (S 280 0 1 1), (.int .u8 (.ofNat 35))], b1_0, 520, (.slice none 0 0), [], 524⟩
set_option maxRecDepth 1000000 in
theorem o198 : EntryOK Try.prog e198 := Ax.part (K := sks) (l := []) mixed sks_ok trivial (by kernel_rfl)
noncomputable def e201 : Entry := ⟨102, [(.agg #[(S 263 0 4 1180591620717411303428), (S 264 0 4 1180591620717411303425), (S 265 0 4 1180591620717411303425)]), (S 280 0 1 1), (.int .u8 (.ofNat 36))], b1_0, 526, (.slice none 0 0), [], 530⟩
set_option maxRecDepth 1000000 in
theorem o201 : EntryOK Try.prog e201 := Ax.part (K := sks) (l := []) mixed sks_ok trivial (by kernel_rfl)
noncomputable def e204 : Entry := ⟨102, [(.agg #[(S 263 0 4 1180591620717411303428), (S 264 0 4 1180591620717411303425), (S 265 0 4 1180591620717411303425)]), (S 280 0 1 1), (.int .u8 (.ofNat 37))], b1_0, 532, (.slice none 0 0), [], 536⟩
set_option maxRecDepth 1000000 in
theorem o204 : EntryOK Try.prog e204 := Ax.part (K := sks) (l := []) mixed sks_ok trivial (by kernel_rfl)
noncomputable def e207 : Entry := ⟨102, [(.agg #[(S 263 0 4 1180591620717411303428), (S 264 0 4 1180591620717411303425), (S 265 0 4 1180591620717411303425)]), (S 280 0 1 1), (.int .u8 (.ofNat 38))], b1_0, 538, (.slice none 0 0), [], 542⟩
set_option maxRecDepth 1000000 in
theorem o207 : EntryOK Try.prog e207 := Ax.part (K := sks) (l := []) mixed sks_ok trivial (by kernel_rfl)
noncomputable def e210 : Entry := ⟨102, [(.agg #[(S 263 0 4 1180591620717411303428), (S 264 0 4 1180591620717411303425), (S 265 0 4 1180591620717411303425)]), (S 280 0 1 1), (.int .u8 (.ofNat 39))], b1_0, 544, (.slice none 0 0), [], 548⟩
set_option maxRecDepth 1000000 in
theorem o210 : EntryOK Try.prog e210 := Ax.part (K := sks) (l := []) mixed sks_ok trivial (by kernel_rfl)
noncomputable def e213 : Entry := ⟨102, [(.agg #[(S 263 0 4 1180591620717411303428), (S 264 0 4 1180591620717411303425), (S 265 0 4 1180591620717411303425)]), (S 280 0 1 1), (.int .u8 (.ofNat 40))], b1_0, 550, (.slice none 0 0), [], 554⟩
set_option maxRecDepth 1000000 in
theorem o213 : EntryOK Try.prog e213 := Ax.part (K := sks) (l := []) mixed sks_ok trivial (by kernel_rfl)
noncomputable def e216 : Entry := ⟨102, [(.agg #[(S 263 0 4 1180591620717411303428), (S 264 0 4 1180591620717411303425), (S 265 0 4 1180591620717411303425)]), (S 280 0 1 1), (.int .u8 (.ofNat 41))], b1_0, 556, (.slice none 0 0), [], 560⟩
set_option maxRecDepth 1000000 in
theorem o216 : EntryOK Try.prog e216 := Ax.part (K := sks) (l := []) mixed sks_ok trivial (by kernel_rfl)
noncomputable def e219 : Entry := ⟨102, [(.agg #[(S 263 0 4 1180591620717411303428), (S 264 0 4 1180591620717411303425), (S 265 0 4 1180591620717411303425)]), (S 280 0 1 1), (.int .u8 (.ofNat 42))], b1_0, 562, (.slice none 0 0), [], 566⟩
set_option maxRecDepth 1000000 in
theorem o219 : EntryOK Try.prog e219 := Ax.part (K := sks) (l := []) mixed sks_ok trivial (by kernel_rfl)
noncomputable def e222 : Entry := ⟨102, [(.agg #[(S 263 0 4 1180591620717411303428), (S 264 0 4 1180591620717411303425), (S 265 0 4 1180591620717411303425)]), (S 280 0 1 1), (.int .u8 (.ofNat 43))], b1_0, 568, (.slice none 0 0), [], 572⟩
set_option maxRecDepth 1000000 in
theorem o222 : EntryOK Try.prog e222 := Ax.part (K := sks) (l := []) mixed sks_ok trivial (by kernel_rfl)
noncomputable def e225 : Entry := ⟨102, [(.agg #[(S 263 0 4 1180591620717411303428), (S 264 0 4 1180591620717411303425), (S 265 0 4 1180591620717411303425)]), (S 280 0 1 1), (.int .u8 (.ofNat 44))], b1_0, 574, (.slice none 0 0), [], 578⟩
set_option maxRecDepth 1000000 in
theorem o225 : EntryOK Try.prog e225 := Ax.part (K := sks) (l := []) mixed sks_ok trivial (by kernel_rfl)
noncomputable def e228 : Entry := ⟨102, [(.agg #[(S 263 0 4 1180591620717411303428), (S 264 0 4 1180591620717411303425), (S 265 0 4 1180591620717411303425)]), (S 280 0 1 1), (.int .u8 (.ofNat 45))], b1_0, 580, (.slice none 0 0), [], 584⟩
set_option maxRecDepth 1000000 in
theorem o228 : EntryOK Try.prog e228 := Ax.part (K := sks) (l := []) mixed sks_ok trivial (by kernel_rfl)
noncomputable def e231 : Entry := ⟨102, [(.agg #[(S 263 0 4 1180591620717411303428), (S 264 0 4 1180591620717411303425), (S 265 0 4 1180591620717411303425)]), (S 280 0 1 1), (.int .u8 (.ofNat 46))], b1_0, 586, (.slice none 0 0), [], 590⟩
set_option maxRecDepth 1000000 in
theorem o231 : EntryOK Try.prog e231 := Ax.part (K := sks) (l := []) mixed sks_ok trivial (by kernel_rfl)
noncomputable def e234 : Entry := ⟨102, [(.agg #[(S 263 0 4 1180591620717411303428), (S 264 0 4 1180591620717411303425), (S 265 0 4 1180591620717411303425)]), (S 280 0 1 1), (.int .u8 (.ofNat 47))], b1_0, 592, (.slice none 0 0), [], 596⟩
set_option maxRecDepth 1000000 in
theorem o234 : EntryOK Try.prog e234 := Ax.part (K := sks) (l := []) mixed sks_ok trivial (by kernel_rfl)
noncomputable def e237 : Entry := ⟨102, [(.agg #[(S 263 0 4 1180591620717411303428), (S 264 0 4 1180591620717411303425), (S 265 0 4 1180591620717411303425)]), (S 280 0 1 1), (.int .u8 (.ofNat 48))], b1_0, 598, (S 603 0 1 1180591620717411303425), [⟨603, .cells 3 [(I 3)]⟩], 604⟩
set_option maxRecDepth 1000000 in
theorem o237 : EntryOK Try.prog e237 := Ax.part (K := sks) (l := []) mixed sks_ok trivial (by kernel_rfl)
noncomputable def e242 : Entry := ⟨102, [(.agg #[(S 263 0 4 1180591620717411303428), (S 264 0 4 1180591620717411303425), (S 265 0 4 1180591620717411303425)]), (S 280 0 1 1), (.int .u8 (.ofNat 49))], b1_0, 638, (S 643 0 1 1180591620717411303425), [⟨643, .cells 3 [(I 3)]⟩], 644⟩
set_option maxRecDepth 1000000 in
theorem o242 : EntryOK Try.prog e242 := Ax.part (K := sks) (l := []) mixed sks_ok trivial (by kernel_rfl)
noncomputable def e246 : Entry := ⟨102, [(.agg #[(S 263 0 4 1180591620717411303428), (S 264 0 4 1180591620717411303425), (S 265 0 4 1180591620717411303425)]), (S 280 0 1 1), (.int .u8 (.ofNat 50))], b1_0, 661, (S 666 0 1 1180591620717411303425), [⟨666, .cells 3 [(I 3)]⟩], 667⟩
set_option maxRecDepth 1000000 in
theorem o246 : EntryOK Try.prog e246 := Ax.part (K := sks) (l := []) mixed sks_ok trivial (by kernel_rfl)
noncomputable def e250 : Entry := ⟨102, [(.agg #[(S 263 0 4 1180591620717411303428), (S 264 0 4 1180591620717411303425), (S 265 0 4 1180591620717411303425)]), (S 280 0 1 1), (.int .u8 (.ofNat 51))], b1_0, 684, (S 689 0 1 1180591620717411303425), [⟨689, .cells 3 [(I 3)]⟩], 690⟩
set_option maxRecDepth 1000000 in
theorem o250 : EntryOK Try.prog e250 := Ax.part (K := sks) (l := []) mixed sks_ok trivial (by kernel_rfl)
noncomputable def e254 : Entry := ⟨102, [(.agg #[(S 263 0 4 1180591620717411303428), (S 264 0 4 1180591620717411303425), (S 265 0 4 1180591620717411303425)]), (S 280 0 1 1), (.int .u8 (.ofNat 52))], b1_0, 707, (S 712 0 1 1180591620717411303425), [⟨712, .cells 3 [(I 3)]⟩], 713⟩
set_option maxRecDepth 1000000 in
theorem o254 : EntryOK Try.prog e254 := Ax.part (K := sks) (l := []) mixed sks_ok trivial (by kernel_rfl)
noncomputable def e258 : Entry := ⟨102, [(.agg #[(S 263 0 4 1180591620717411303428), (S 264 0 4 1180591620717411303425), (S 265 0 4 1180591620717411303425)]), (S 280 0 1 1), (.int .u8 (.ofNat 53))], b1_0, 730, (S 735 0 1 1180591620717411303425), [⟨735, .cells 3 [(I 3)]⟩], 736⟩
set_option maxRecDepth 1000000 in
theorem o258 : EntryOK Try.prog e258 := Ax.part (K := sks) (l := []) mixed sks_ok trivial (by kernel_rfl)
noncomputable def e262 : Entry := ⟨102, [(.agg #[(S 263 0 4 1180591620717411303428), (S 264 0 4 1180591620717411303425), (S 265 0 4 1180591620717411303425)]), (S 280 0 1 1), (.int .u8 (.ofNat 54))], b1_0, 753, (S 758 0 1 1180591620717411303425), [⟨758, .cells 3 [(I 3)]⟩], 759⟩
set_option maxRecDepth 1000000 in
theorem o262 : EntryOK Try.prog e262 := Ax.part (K := sks) (l := []) mixed sks_ok trivial (by kernel_rfl)
noncomputable def e266 : Entry := ⟨102, [(.agg #[(S 263 0 4 1180591620717411303428), (S 264 0 4 1180591620717411303425), (S 265 0 4 1180591620717411303425)]), (S 280 0 1 1), (.int .u8 (.ofNat 55))], b1_0, 776, (S 781 0 1 1180591620717411303425), [⟨781, .cells 3 [(I 3)]⟩], 782⟩
set_option maxRecDepth 1000000 in
theorem o266 : EntryOK Try.prog e266 := Ax.part (K := sks) (l := []) mixed sks_ok trivial (by kernel_rfl)
noncomputable def e270 : Entry := ⟨102, [(.agg #[(S 263 0 4 1180591620717411303428), (S 264 0 4 1180591620717411303425), (S 265 0 4 1180591620717411303425)]), (S 280 0 1 1), (.int .u8 (.ofNat 56))], b1_0, 799, (S 804 0 1 1180591620717411303425), [⟨804, .cells 3 [(I 3)]⟩], 805⟩
set_option maxRecDepth 1000000 in
theorem o270 : EntryOK Try.prog e270 := Ax.part (K := sks) (l := []) mixed sks_ok trivial (by kernel_rfl)
noncomputable def e274 : Entry := ⟨102, [(.agg #[(S 263 0 4 1180591620717411303428), (S 264 0 4 1180591620717411303425), (S 265 0 4 1180591620717411303425)]), (S 280 0 1 1), (.int .u8 (.ofNat 57))], b1_0, 822, (S 827 0 1 1180591620717411303425), [⟨827, .cells 3 [(I 3)]⟩], 828⟩
set_option maxRecDepth 1000000 in
theorem o274 : EntryOK Try.prog e274 := Ax.part (K := sks) (l := []) mixed sks_ok trivial (by kernel_rfl)
noncomputable def e278 : Entry := ⟨102, [(.agg #[(S 263 0 4 1180591620717411303428), (S 264 0 4 1180591620717411303425), (S 265 0 4 1180591620717411303425)]), (S 280 0 1 1), (.int .u8 (.ofNat 58))], b1_0, 845, (.slice none 0 0), [], 849⟩
set_option maxRecDepth 1000000 in
theorem o278 : EntryOK Try.prog e278 := Ax.part (K := sks) (l := []) mixed sks_ok trivial (by kernel_rfl)
noncomputable def e281 : Entry := ⟨102, [(.agg #[(S 263 0 4 1180591620717411303428), (S 264 0 4 1180591620717411303425), (S 265 0 4 1180591620717411303425)]), (S 280 0 1 1), (.int .u8 (.ofNat 59))], b1_0, 851, (.slice none 0 0), [], 855⟩
set_option maxRecDepth 1000000 in
theorem o281 : EntryOK Try.prog e281 := Ax.part (K := sks) (l := []) mixed sks_ok trivial (by kernel_rfl)
noncomputable def e284 : Entry := ⟨102, [(.agg #[(S 263 0 4 1180591620717411303428), (S 264 0 4 1180591620717411303425), (S 265 0 4 1180591620717411303425)]), (S 280 0 1 1), (.int .u8 (.ofNat 60))], b1_0, 857, (.slice none 0 0), [], 861⟩
set_option maxRecDepth 1000000 in
theorem o284 : EntryOK Try.prog e284 := Ax.part (K := sks) (l := []) mixed sks_ok trivial (by kernel_rfl)
noncomputable def e287 : Entry := ⟨102, [(.agg #[(S 263 0 4 1180591620717411303428), (S 264 0 4 1180591620717411303425), (S 265 0 4 1180591620717411303425)]), (S 280 0 1 1), (.int .u8 (.ofNat 61))], b1_0, 863, (.slice none 0 0), [], 867⟩
set_option maxRecDepth 1000000 in
theorem o287 : EntryOK Try.prog e287 := Ax.part (K := sks) (l := []) mixed sks_ok trivial (by kernel_rfl)
noncomputable def e290 : Entry := ⟨102, [(.agg #[(S 263 0 4 1180591620717411303428), (S 264 0 4 1180591620717411303425), (S 265 0 4 1180591620717411303425)]), (S 280 0 1 1), (.int .u8 (.ofNat 62))], b1_0, 869, (.slice none 0 0), [], 873⟩
set_option maxRecDepth 1000000 in
theorem o290 : EntryOK Try.prog e290 := Ax.part (K := sks) (l := []) mixed sks_ok trivial (by kernel_rfl)
noncomputable def e293 : Entry := ⟨102, [(.agg #[(S 263 0 4 1180591620717411303428), (S 264 0 4 1180591620717411303425), (S 265 0 4 1180591620717411303425)]), (S 280 0 1 1), (.int .u8 (.ofNat 63))], b1_0, 875, (.slice none 0 0), [], 879⟩
set_option maxRecDepth 1000000 in
theorem o293 : EntryOK Try.prog e293 := Ax.part (K := sks) (l := []) mixed sks_ok trivial (by kernel_rfl)
noncomputable def e296 : Entry := ⟨102, [(.agg #[(S 263 0 4 1180591620717411303428), (S 264 0 4 1180591620717411303425), (S 265 0 4 1180591620717411303425)]), (S 280 0 1 1), (.int .u8 (.ofNat 64))], b1_0, 881, (.slice none 0 0), [], 885⟩
set_option maxRecDepth 1000000 in
theorem o296 : EntryOK Try.prog e296 := Ax.part (K := sks) (l := []) mixed sks_ok trivial (by kernel_rfl)
noncomputable def e299 : Entry := ⟨102, [(.agg #[(S 263 0 4 1180591620717411303428), (S 264 0 4 1180591620717411303425), (S 265 0 4 1180591620717411303425)]), (S 280 0 1 1), (.int .u8 (.ofNat 65))], b1_0, 887, (.slice none 0 0), [], 891⟩
set_option maxRecDepth 1000000 in
theorem o299 : EntryOK Try.prog e299 := Ax.part (K := sks) (l := []) mixed sks_ok trivial (by kernel_rfl)
noncomputable def e302 : Entry := ⟨102, [(.agg #[(S 263 0 4 1180591620717411303428), (S 264 0 4 1180591620717411303425), (S 265 0 4 1180591620717411303425)]), (S 280 0 1 1), (.int .u8 (.ofNat 66))], b1_0, 893, (.slice none 0 0), [], 897⟩
set_option maxRecDepth 1000000 in
theorem o302 : EntryOK Try.prog e302 := Ax.part (K := sks) (l := []) mixed sks_ok trivial (by kernel_rfl)
noncomputable def e305 : Entry := ⟨102, [(.agg #[(S 263 0 4 1180591620717411303428), (S 264 0 4 1180591620717411303425), (S 265 0 4 1180591620717411303425)]), (S 280 0 1 1), (.int .u8 (.ofNat 67))], b1_0, 899, (.slice none 0 0), [], 903⟩
set_option maxRecDepth 1000000 in
theorem o305 : EntryOK Try.prog e305 := Ax.part (K := sks) (l := []) mixed sks_ok trivial (by kernel_rfl)
noncomputable def e308 : Entry := ⟨102, [(.agg #[(S 263 0 4 1180591620717411303428), (S 264 0 4 1180591620717411303425), (S 265 0 4 1180591620717411303425)]), (S 280 0 1 1), (.int .u8 (.ofNat 68))], b1_0, 905, (.slice none 0 0), [], 909⟩
set_option maxRecDepth 1000000 in
theorem o308 : EntryOK Try.prog e308 := Ax.part (K := sks) (l := []) mixed sks_ok trivial (by kernel_rfl)
noncomputable def e311 : Entry := ⟨102, [(.agg #[(S 263 0 4 1180591620717411303428), (S 264 0 4 1180591620717411303425), (S 265 0 4 1180591620717411303425)]), (S 280 0 1 1), (.int .u8 (.ofNat 69))], b1_0, 911, (.slice none 0 0), [], 915⟩
set_option maxRecDepth 1000000 in
theorem o311 : EntryOK Try.prog e311 := Ax.part (K := sks) (l := []) mixed sks_ok trivial (by kernel_rfl)
noncomputable def e314 : Entry := ⟨102, [(.agg #[(S 263 0 4 1180591620717411303428), (S 264 0 4 1180591620717411303425), (S 265 0 4 1180591620717411303425)]), (S 280 0 1 1), (.int .u8 (.ofNat 70))], b1_0, 917, (.slice none 0 0), [], 921⟩
set_option maxRecDepth 1000000 in
theorem o314 : EntryOK Try.prog e314 := Ax.part (K := sks) (l := []) mixed sks_ok trivial (by kernel_rfl)
noncomputable def e317 : Entry := ⟨102, [(.agg #[(S 263 0 4 1180591620717411303428), (S 264 0 4 1180591620717411303425), (S 265 0 4 1180591620717411303425)]), (S 280 0 1 1), (.int .u8 (.ofNat 71))], b1_0, 923, (.slice none 0 0), [], 927⟩
set_option maxRecDepth 1000000 in
theorem o317 : EntryOK Try.prog e317 := Ax.part (K := sks) (l := []) mixed sks_ok trivial (by kernel_rfl)
noncomputable def e320 : Entry := ⟨102, [(.agg #[(S 263 0 4 1180591620717411303428), (S 264 0 4 1180591620717411303425), (S 265 0 4 1180591620717411303425)]), (S 280 0 1 1), (.int .u8 (.ofNat 72))], b1_0, 929, (.slice none 0 0), [], 933⟩
set_option maxRecDepth 1000000 in
theorem o320 : EntryOK Try.prog e320 := Ax.part (K := sks) (l := []) mixed sks_ok trivial (by kernel_rfl)
noncomputable def e323 : Entry := ⟨102, [(.agg #[(S 263 0 4 1180591620717411303428), (S 264 0 4 1180591620717411303425), (S 265 0 4 1180591620717411303425)]), (S 280 0 1 1), (.int .u8 (.ofNat 73))], b1_0, 935, (.slice none 0 0), [], 939⟩
set_option maxRecDepth 1000000 in
theorem o323 : EntryOK Try.prog e323 := Ax.part (K := sks) (l := []) mixed sks_ok trivial (by kernel_rfl)
noncomputable def e326 : Entry := ⟨102, [(.agg #[(S 263 0 4 1180591620717411303428), (S 264 0 4 1180591620717411303425), (S 265 0 4 1180591620717411303425)]), (S 280 0 1 1), (.int .u8 (.ofNat 74))], b1_0, 941, (.slice none 0 0), [], 945⟩
set_option maxRecDepth 1000000 in
theorem o326 : EntryOK Try.prog e326 := Ax.part (K := sks) (l := []) mixed sks_ok trivial (by kernel_rfl)
noncomputable def e329 : Entry := ⟨102, [(.agg #[(S 263 0 4 1180591620717411303428), (S 264 0 4 1180591620717411303425), (S 265 0 4 1180591620717411303425)]), (S 280 0 1 1), (.int .u8 (.ofNat 75))], b1_0, 947, (.slice none 0 0), [], 951⟩
set_option maxRecDepth 1000000 in
theorem o329 : EntryOK Try.prog e329 := Ax.part (K := sks) (l := []) mixed sks_ok trivial (by kernel_rfl)
noncomputable def e332 : Entry := ⟨102, [(.agg #[(S 263 0 4 1180591620717411303428), (S 264 0 4 1180591620717411303425), (S 265 0 4 1180591620717411303425)]), (S 280 0 1 1), (.int .u8 (.ofNat 76))], b1_0, 953, (.slice none 0 0), [], 957⟩
set_option maxRecDepth 1000000 in
theorem o332 : EntryOK Try.prog e332 := Ax.part (K := sks) (l := []) mixed sks_ok trivial (by kernel_rfl)
noncomputable def e335 : Entry := ⟨102, [(.agg #[(S 263 0 4 1180591620717411303428), (S 264 0 4 1180591620717411303425), (S 265 0 4 1180591620717411303425)]), (S 280 0 1 1), (.int .u8 (.ofNat 77))], b1_0, 959, (.slice none 0 0), [], 963⟩
set_option maxRecDepth 1000000 in
theorem o335 : EntryOK Try.prog e335 := Ax.part (K := sks) (l := []) mixed sks_ok trivial (by kernel_rfl)
noncomputable def e338 : Entry := ⟨102, [(.agg #[(S 263 0 4 1180591620717411303428), (S 264 0 4 1180591620717411303425), (S 265 0 4 1180591620717411303425)]), (S 280 0 1 1), (.int .u8 (.ofNat 78))], b1_0, 965, (.slice none 0 0), [], 969⟩
set_option maxRecDepth 1000000 in
theorem o338 : EntryOK Try.prog e338 := Ax.part (K := sks) (l := []) mixed sks_ok trivial (by kernel_rfl)
noncomputable def e341 : Entry := ⟨102, [(.agg #[(S 263 0 4 1180591620717411303428), (S 264 0 4 1180591620717411303425), (S 265 0 4 1180591620717411303425)]), (S 280 0 1 1), (.int .u8 (.ofNat 79))], b1_0, 971, (.slice none 0 0), [], 975⟩
set_option maxRecDepth 1000000 in
theorem o341 : EntryOK Try.prog e341 := Ax.part (K := sks) (l := []) mixed sks_ok trivial (by kernel_rfl)
noncomputable def e344 : Entry := ⟨102, [(.agg #[(S 263 0 4 1180591620717411303428), (S 264 0 4 1180591620717411303425), (S 265 0 4 1180591620717411303425)]), (S 280 0 1 1), (.int .u8 (.ofNat 80))], b1_0, 977, (.slice none 0 0), [], 981⟩
set_option maxRecDepth 1000000 in
theorem o344 : EntryOK Try.prog e344 := Ax.part (K := sks) (l := []) mixed sks_ok trivial (by kernel_rfl)
noncomputable def e347 : Entry := ⟨102, [(.agg #[(S 263 0 4 1180591620717411303428), (S 264 0 4 1180591620717411303425), (S 265 0 4 1180591620717411303425)]), (S 280 0 1 1), (.int .u8 (.ofNat 81))], b1_0, 983, (.slice none 0 0), [], 987⟩
set_option maxRecDepth 1000000 in
theorem o347 : EntryOK Try.prog e347 := Ax.part (K := sks) (l := []) mixed sks_ok trivial (by kernel_rfl)
noncomputable def e350 : Entry := ⟨102, [(.agg #[(S 263 0 4 1180591620717411303428), (S 264 0 4 1180591620717411303425), (S 265 0 4 1180591620717411303425)]), (S 280 0 1 1), (.int .u8 (.ofNat 82))], b1_0, 989, (.slice none 0 0), [], 993⟩
set_option maxRecDepth 1000000 in
theorem o350 : EntryOK Try.prog e350 := Ax.part (K := sks) (l := []) mixed sks_ok trivial (by kernel_rfl)
noncomputable def e353 : Entry := ⟨102, [(.agg #[(S 263 0 4 1180591620717411303428), (S 264 0 4 1180591620717411303425), (S 265 0 4 1180591620717411303425)]), (S 280 0 1 1), (.int .u8 (.ofNat 83))], b1_0, 995, (.slice none 0 0), [], 999⟩
set_option maxRecDepth 1000000 in
theorem o353 : EntryOK Try.prog e353 := Ax.part (K := sks) (l := []) mixed sks_ok trivial (by kernel_rfl)
noncomputable def e356 : Entry := ⟨102, [(.agg #[(S 263 0 4 1180591620717411303428), (S 264 0 4 1180591620717411303425), (S 265 0 4 1180591620717411303425)]), (S 280 0 1 1), (.int .u8 (.ofNat 84))], b1_0, 1001, (.slice none 0 0), [], 1005⟩
set_option maxRecDepth 1000000 in
theorem o356 : EntryOK Try.prog e356 := Ax.part (K := sks) (l := []) mixed sks_ok trivial (by kernel_rfl)
noncomputable def e359 : Entry := ⟨102, [(.agg #[(S 263 0 4 1180591620717411303428), (S 264 0 4 1180591620717411303425), (S 265 0 4 1180591620717411303425)]), (S 280 0 1 1), (.int .u8 (.ofNat 85))], b1_0, 1007, (.slice none 0 0), [], 1011⟩
set_option maxRecDepth 1000000 in
theorem o359 : EntryOK Try.prog e359 := Ax.part (K := sks) (l := []) mixed sks_ok trivial (by kernel_rfl)
noncomputable def e362 : Entry := ⟨102, [(.agg #[(S 263 0 4 1180591620717411303428), (S 264 0 4 1180591620717411303425), (S 265 0 4 1180591620717411303425)]), (S 280 0 1 1), (.int .u8 (.ofNat 86))], b1_0, 1013, (.slice none 0 0), [], 1017⟩
set_option maxRecDepth 1000000 in
theorem o362 : EntryOK Try.prog e362 := Ax.part (K := sks) (l := []) mixed sks_ok trivial (by kernel_rfl)
noncomputable def e365 : Entry := ⟨102, [(.agg #[(S 263 0 4 1180591620717411303428), (S 264 0 4 1180591620717411303425), (S 265 0 4 1180591620717411303425)]), (S 280 0 1 1), (.int .u8 (.ofNat 87))], b1_0, 1019, (.slice none 0 0), [], 1023⟩
set_option maxRecDepth 1000000 in
theorem o365 : EntryOK Try.prog e365 := Ax.part (K := sks) (l := []) mixed sks_ok trivial (by kernel_rfl)
noncomputable def e368 : Entry := ⟨102, [(.agg #[(S 263 0 4 1180591620717411303428), (S 264 0 4 1180591620717411303425), (S 265 0 4 1180591620717411303425)]), (S 280 0 1 1), (.int .u8 (.ofNat 88))], b1_0, 1025, (.slice none 0 0), [], 1029⟩
set_option maxRecDepth 1000000 in
theorem o368 : EntryOK Try.prog e368 := Ax.part (K := sks) (l := []) mixed sks_ok trivial (by kernel_rfl)
noncomputable def e371 : Entry := ⟨102, [(.agg #[(S 263 0 4 1180591620717411303428), (S 264 0 4 1180591620717411303425), (S 265 0 4 1180591620717411303425)]), (S 280 0 1 1), (.int .u8 (.ofNat 89))], b1_0, 1031, (.slice none 0 0), [], 1035⟩
set_option maxRecDepth 1000000 in
theorem o371 : EntryOK Try.prog e371 := Ax.part (K := sks) (l := []) mixed sks_ok trivial (by kernel_rfl)
noncomputable def e374 : Entry := ⟨102, [(.agg #[(S 263 0 4 1180591620717411303428), (S 264 0 4 1180591620717411303425), (S 265 0 4 1180591620717411303425)]), (S 280 0 1 1), (.int .u8 (.ofNat 90))], b1_0, 1037, (.slice none 0 0), [], 1041⟩
set_option maxRecDepth 1000000 in
theorem o374 : EntryOK Try.prog e374 := Ax.part (K := sks) (l := []) mixed sks_ok trivial (by kernel_rfl)
noncomputable def e377 : Entry := ⟨102, [(.agg #[(S 263 0 4 1180591620717411303428), (S 264 0 4 1180591620717411303425), (S 265 0 4 1180591620717411303425)]), (S 280 0 1 1), (.int .u8 (.ofNat 91))], b1_0, 1043, (.slice none 0 0), [], 1047⟩
set_option maxRecDepth 1000000 in
theorem o377 : EntryOK Try.prog e377 := Ax.part (K := sks) (l := []) mixed sks_ok trivial (by kernel_rfl)
noncomputable def e380 : Entry := ⟨102, [(.agg #[(S 263 0 4 1180591620717411303428), (S 264 0 4 1180591620717411303425), (S 265 0 4 1180591620717411303425)]), (S 280 0 1 1), (.int .u8 (.ofNat 92))], b1_0, 1049, (.slice none 0 0), [], 1053⟩
set_option maxRecDepth 1000000 in
theorem o380 : EntryOK Try.prog e380 := Ax.part (K := sks) (l := []) mixed sks_ok trivial (by kernel_rfl)
noncomputable def e383 : Entry := ⟨102, [(.agg #[(S 263 0 4 1180591620717411303428), (S 264 0 4 1180591620717411303425), (S 265 0 4 1180591620717411303425)]), (S 280 0 1 1), (.int .u8 (.ofNat 93))], b1_0, 1055, (.slice none 0 0), [], 1059⟩
set_option maxRecDepth 1000000 in
theorem o383 : EntryOK Try.prog e383 := Ax.part (K := sks) (l := []) mixed sks_ok trivial (by kernel_rfl)
noncomputable def e386 : Entry := ⟨102, [(.agg #[(S 263 0 4 1180591620717411303428), (S 264 0 4 1180591620717411303425), (S 265 0 4 1180591620717411303425)]), (S 280 0 1 1), (.int .u8 (.ofNat 94))], b1_0, 1061, (.slice none 0 0), [], 1065⟩
set_option maxRecDepth 1000000 in
theorem o386 : EntryOK Try.prog e386 := Ax.part (K := sks) (l := []) mixed sks_ok trivial (by kernel_rfl)
noncomputable def e389 : Entry := ⟨102, [(.agg #[(S 263 0 4 1180591620717411303428), (S 264 0 4 1180591620717411303425), (S 265 0 4 1180591620717411303425)]), (S 280 0 1 1), (.int .u8 (.ofNat 95))], b1_0, 1067, (.slice none 0 0), [], 1071⟩
set_option maxRecDepth 1000000 in
theorem o389 : EntryOK Try.prog e389 := Ax.part (K := sks) (l := []) mixed sks_ok trivial (by kernel_rfl)
noncomputable def e392 : Entry := ⟨102, [(.agg #[(S 263 0 4 1180591620717411303428), (S 264 0 4 1180591620717411303425), (S 265 0 4 1180591620717411303425)]), (S 280 0 1 1), (.int .u8 (.ofNat 96))], b1_0, 1073, (.slice none 0 0), [], 1077⟩
set_option maxRecDepth 1000000 in
theorem o392 : EntryOK Try.prog e392 := Ax.part (K := sks) (l := []) mixed sks_ok trivial (by kernel_rfl)
noncomputable def e395 : Entry := ⟨102, [(.agg #[(S 263 0 4 1180591620717411303428), (S 264 0 4 1180591620717411303425), (S 265 0 4 1180591620717411303425)]), (S 280 0 1 1), (.int .u8 (.ofNat 97))], b1_0, 1079, (S 1084 0 1 1180591620717411303425), [⟨1084, .cells 3 [(I 1)]⟩], 1085⟩
set_option maxRecDepth 1000000 in
theorem o395 : EntryOK Try.prog e395 := Ax.part (K := sks) (l := []) mixed sks_ok trivial (by kernel_rfl)
noncomputable def e400 : Entry := ⟨102, [(.agg #[(S 263 0 4 1180591620717411303428), (S 264 0 4 1180591620717411303425), (S 265 0 4 1180591620717411303425)]), (S 280 0 1 1), (.int .u8 (.ofNat 98))], b1_0, 1119, (.slice none 0 0), [], 1123⟩
set_option maxRecDepth 1000000 in
theorem o400 : EntryOK Try.prog e400 := Ax.part (K := sks) (l := []) mixed sks_ok trivial (by kernel_rfl)
noncomputable def e403 : Entry := ⟨102, [(.agg #[(S 263 0 4 1180591620717411303428), (S 264 0 4 1180591620717411303425), (S 265 0 4 1180591620717411303425)]), (S 280 0 1 1), (.int .u8 (.ofNat 99))], b1_0, 1125, (.slice none 0 0), [], 1129⟩
set_option maxRecDepth 1000000 in
theorem o403 : EntryOK Try.prog e403 := Ax.part (K := sks) (l := []) mixed sks_ok trivial (by kernel_rfl)
noncomputable def e406 : Entry := ⟨102, [(.agg #[(S 263 0 4 1180591620717411303428), (S 264 0 4 1180591620717411303425), (S 265 0 4 1180591620717411303425)]), (S 280 0 1 1), (.int .u8 (.ofNat 100))], b1_0, 1131, (.slice none 0 0), [], 1135⟩
set_option maxRecDepth 1000000 in
theorem o406 : EntryOK Try.prog e406 := Ax.part (K := sks) (l := []) mixed sks_ok trivial (by kernel_rfl)
noncomputable def e409 : Entry := ⟨102, [(.agg #[(S 263 0 4 1180591620717411303428), (S 264 0 4 1180591620717411303425), (S 265 0 4 1180591620717411303425)]), (S 280 0 1 1), (.int .u8 (.ofNat 101))], b1_0, 1137, (.slice none 0 0), [], 1141⟩
set_option maxRecDepth 1000000 in
theorem o409 : EntryOK Try.prog e409 := Ax.part (K := sks) (l := []) mixed sks_ok trivial (by kernel_rfl)
noncomputable def e412 : Entry := ⟨102, [(.agg #[(S 263 0 4 1180591620717411303428), (S 264 0 4 1180591620717411303425), (S 265 0 4 1180591620717411303425)]), (S 280 0 1 1), (.int .u8 (.ofNat 102))], b1_0, 1143, (.slice none 0 0), [], 1147⟩
set_option maxRecDepth 1000000 in
theorem o412 : EntryOK Try.prog e412 := Ax.part (K := sks) (l := []) mixed sks_ok trivial (by kernel_rfl)
noncomputable def e415 : Entry := ⟨102, [(.agg #[(S 263 0 4 1180591620717411303428), (S 264 0 4 1180591620717411303425), (S 265 0 4 1180591620717411303425)]), (S 280 0 1 1), (.int .u8 (.ofNat 103))], b1_0, 1149, (.slice none 0 0), [], 1153⟩
set_option maxRecDepth 1000000 in
theorem o415 : EntryOK Try.prog e415 := Ax.part (K := sks) (l := []) mixed sks_ok trivial (by kernel_rfl)
noncomputable def e418 : Entry := ⟨102, [(.agg #[(S 263 0 4 1180591620717411303428), (S 264 0 4 1180591620717411303425), (S 265 0 4 1180591620717411303425)]), (S 280 0 1 1), (.int .u8 (.ofNat 104))], b1_0, 1155, (.slice none 0 0), [], 1159⟩
set_option maxRecDepth 1000000 in
theorem o418 : EntryOK Try.prog e418 := Ax.part (K := sks) (l := []) mixed sks_ok trivial (by kernel_rfl)
noncomputable def e421 : Entry := ⟨102, [(.agg #[(S 263 0 4 1180591620717411303428), (S 264 0 4 1180591620717411303425), (S 265 0 4 1180591620717411303425)]), (S 280 0 1 1), (.int .u8 (.ofNat 105))], b1_0, 1161, (.slice none 0 0), [], 1165⟩
set_option maxRecDepth 1000000 in
theorem o421 : EntryOK Try.prog e421 := Ax.part (K := sks) (l := []) mixed sks_ok trivial (by kernel_rfl)
noncomputable def e424 : Entry := ⟨102, [(.agg #[(S 263 0 4 1180591620717411303428), (S 264 0 4 1180591620717411303425), (S 265 0 4 1180591620717411303425)]), (S 280 0 1 1), (.int .u8 (.ofNat 106))], b1_0, 1167, (.slice none 0 0), [], 1171⟩
set_option maxRecDepth 1000000 in
theorem o424 : EntryOK Try.prog e424 := Ax.part (K := sks) (l := []) mixed sks_ok trivial (by kernel_rfl)
noncomputable def e427 : Entry := ⟨102, [(.agg #[(S 263 0 4 1180591620717411303428), (S 264 0 4 1180591620717411303425), (S 265 0 4 1180591620717411303425)]), (S 280 0 1 1), (.int .u8 (.ofNat 107))], b1_0, 1173, (.slice none 0 0), [], 1177⟩
set_option maxRecDepth 1000000 in
theorem o427 : EntryOK Try.prog e427 := Ax.part (K := sks) (l := []) mixed sks_ok trivial (by kernel_rfl)
noncomputable def e430 : Entry := ⟨102, [(.agg #[(S 263 0 4 1180591620717411303428), (S 264 0 4 1180591620717411303425), (S 265 0 4 1180591620717411303425)]), (S 280 0 1 1), (.int .u8 (.ofNat 108))], b1_0, 1179, (.slice none 0 0), [], 1183⟩
set_option maxRecDepth 1000000 in
theorem o430 : EntryOK Try.prog e430 := Ax.part (K := sks) (l := []) mixed sks_ok trivial (by kernel_rfl)
noncomputable def e433 : Entry := ⟨102, [(.agg #[(S 263 0 4 1180591620717411303428), (S 264 0 4 1180591620717411303425), (S 265 0 4 1180591620717411303425)]), (S 280 0 1 1), (.int .u8 (.ofNat 109))], b1_0, 1185, (.slice none 0 0), [], 1189⟩
set_option maxRecDepth 1000000 in
theorem o433 : EntryOK Try.prog e433 := Ax.part (K := sks) (l := []) mixed sks_ok trivial (by kernel_rfl)
noncomputable def e436 : Entry := ⟨102, [(.agg #[(S 263 0 4 1180591620717411303428), (S 264 0 4 1180591620717411303425), (S 265 0 4 1180591620717411303425)]), (S 280 0 1 1), (.int .u8 (.ofNat 110))], b1_0, 1191, (.slice none 0 0), [], 1195⟩
set_option maxRecDepth 1000000 in
theorem o436 : EntryOK Try.prog e436 := Ax.part (K := sks) (l := []) mixed sks_ok trivial (by kernel_rfl)
noncomputable def e439 : Entry := ⟨102, [(.agg #[(S 263 0 4 1180591620717411303428), (S 264 0 4 1180591620717411303425), (S 265 0 4 1180591620717411303425)]), (S 280 0 1 1), (.int .u8 (.ofNat 111))], b1_0, 1197, (.slice none 0 0), [], 1201⟩
set_option maxRecDepth 1000000 in
theorem o439 : EntryOK Try.prog e439 := Ax.part (K := sks) (l := []) mixed sks_ok trivial (by kernel_rfl)
noncomputable def e442 : Entry := ⟨102, [(.agg #[(S 263 0 4 1180591620717411303428), (S 264 0 4 1180591620717411303425), (S 265 0 4 1180591620717411303425)]), (S 280 0 1 1), (.int .u8 (.ofNat 112))], b1_0, 1203, (.slice none 0 0), [], 1207⟩
set_option maxRecDepth 1000000 in
theorem o442 : EntryOK Try.prog e442 := Ax.part (K := sks) (l := []) mixed sks_ok trivial (by kernel_rfl)
noncomputable def e445 : Entry := ⟨102, [(.agg #[(S 263 0 4 1180591620717411303428), (S 264 0 4 1180591620717411303425), (S 265 0 4 1180591620717411303425)]), (S 280 0 1 1), (.int .u8 (.ofNat 113))], b1_0, 1209, (.slice none 0 0), [], 1213⟩
set_option maxRecDepth 1000000 in
theorem o445 : EntryOK Try.prog e445 := Ax.part (K := sks) (l := []) mixed sks_ok trivial (by kernel_rfl)
noncomputable def e448 : Entry := ⟨102, [(.agg #[(S 263 0 4 1180591620717411303428), (S 264 0 4 1180591620717411303425), (S 265 0 4 1180591620717411303425)]), (S 280 0 1 1), (.int .u8 (.ofNat 114))], b1_0, 1215, (.slice none 0 0), [], 1219⟩
set_option maxRecDepth 1000000 in
theorem o448 : EntryOK Try.prog e448 := Ax.part (K := sks) (l := []) mixed sks_ok trivial (by kernel_rfl)
noncomputable def e451 : Entry := ⟨102, [(.agg #[(S 263 0 4 1180591620717411303428), (S 264 0 4 1180591620717411303425), (S 265 0 4 1180591620717411303425)]), (S 280 0 1 1), (.int .u8 (.ofNat 115))], b1_0, 1221, (.slice none 0 0), [], 1225⟩
set_option maxRecDepth 1000000 in
theorem o451 : EntryOK Try.prog e451 := Ax.part (K := sks) (l := []) mixed sks_ok trivial (by kernel_rfl)
noncomputable def e454 : Entry := ⟨102, [(.agg #[(S 263 0 4 1180591620717411303428), (S 264 0 4 1180591620717411303425), (S 265 0 4 1180591620717411303425)]), (S 280 0 1 1), (.int .u8 (.ofNat 116))], b1_0, 1227, (.slice none 0 0), [], 1231⟩
set_option maxRecDepth 1000000 in
theorem o454 : EntryOK Try.prog e454 := Ax.part (K := sks) (l := []) mixed sks_ok trivial (by kernel_rfl)
noncomputable def e457 : Entry := ⟨102, [(.agg #[(S 263 0 4 1180591620717411303428), (S 264 0 4 1180591620717411303425), (S 265 0 4 1180591620717411303425)]), (S 280 0 1 1), (.int .u8 (.ofNat 117))], b1_0, 1233, (.slice none 0 0), [], 1237⟩
set_option maxRecDepth 1000000 in
theorem o457 : EntryOK Try.prog e457 := Ax.part (K := sks) (l := []) mixed sks_ok trivial (by kernel_rfl)
noncomputable def e460 : Entry := ⟨102, [(.agg #[(S 263 0 4 1180591620717411303428), (S 264 0 4 1180591620717411303425), (S 265 0 4 1180591620717411303425)]), (S 280 0 1 1), (.int .u8 (.ofNat 118))], b1_0, 1239, (.slice none 0 0), [], 1243⟩
set_option maxRecDepth 1000000 in
theorem o460 : EntryOK Try.prog e460 := Ax.part (K := sks) (l := []) mixed sks_ok trivial (by kernel_rfl)
noncomputable def e463 : Entry := ⟨102, [(.agg #[(S 263 0 4 1180591620717411303428), (S 264 0 4 1180591620717411303425), (S 265 0 4 1180591620717411303425)]), (S 280 0 1 1), (.int .u8 (.ofNat 119))], b1_0, 1245, (.slice none 0 0), [], 1249⟩
set_option maxRecDepth 1000000 in
theorem o463 : EntryOK Try.prog e463 := Ax.part (K := sks) (l := []) mixed sks_ok trivial (by kernel_rfl)
noncomputable def e466 : Entry := ⟨102, [(.agg #[(S 263 0 4 1180591620717411303428), (S 264 0 4 1180591620717411303425), (S 265 0 4 1180591620717411303425)]), (S 280 0 1 1), (.int .u8 (.ofNat 120))], b1_0, 1251, (.slice none 0 0), [], 1255⟩
set_option maxRecDepth 1000000 in
theorem o466 : EntryOK Try.prog e466 := Ax.part (K := sks) (l := []) mixed sks_ok trivial (by kernel_rfl)
noncomputable def e469 : Entry := ⟨102, [(.agg #[(S 263 0 4 1180591620717411303428), (S 264 0 4 1180591620717411303425), (S 265 0 4 1180591620717411303425)]), (S 280 0 1 1), (.int .u8 (.ofNat 121))], b1_0, 1257, (.slice none 0 0), [], 1261⟩
set_option maxRecDepth 1000000 in
theorem o469 : EntryOK Try.prog e469 := Ax.part (K := sks) (l := []) mixed sks_ok trivial (by kernel_rfl)
noncomputable def e472 : Entry := ⟨102, [(.agg #[(S 263 0 4 1180591620717411303428), (S 264 0 4 1180591620717411303425), (S 265 0 4 1180591620717411303425)]), (S 280 0 1 1), (.int .u8 (.ofNat 122))], b1_0, 1263, (.slice none 0 0), [], 1267⟩
set_option maxRecDepth 1000000 in
theorem o472 : EntryOK Try.prog e472 := Ax.part (K := sks) (l := []) mixed sks_ok trivial (by kernel_rfl)
noncomputable def e475 : Entry := ⟨102, [(.agg #[(S 263 0 4 1180591620717411303428), (S 264 0 4 1180591620717411303425), (S 265 0 4 1180591620717411303425)]), (S 280 0 1 1), (.int .u8 (.ofNat 123))], b1_0, 1269, (.slice none 0 0), [], 1273⟩
set_option maxRecDepth 1000000 in
theorem o475 : EntryOK Try.prog e475 := Ax.part (K := sks) (l := []) mixed sks_ok trivial (by kernel_rfl)
noncomputable def e478 : Entry := ⟨102, [(.agg #[(S 263 0 4 1180591620717411303428), (S 264 0 4 1180591620717411303425), (S 265 0 4 1180591620717411303425)]), (S 280 0 1 1), (.int .u8 (.ofNat 124))], b1_0, 1275, (.slice none 0 0), [], 1279⟩
set_option maxRecDepth 1000000 in
theorem o478 : EntryOK Try.prog e478 := Ax.part (K := sks) (l := []) mixed sks_ok trivial (by kernel_rfl)
noncomputable def e481 : Entry := ⟨102, [(.agg #[(S 263 0 4 1180591620717411303428), (S 264 0 4 1180591620717411303425), (S 265 0 4 1180591620717411303425)]), (S 280 0 1 1), (.int .u8 (.ofNat 125))], b1_0, 1281, (.slice none 0 0), [], 1285⟩
set_option maxRecDepth 1000000 in
theorem o481 : EntryOK Try.prog e481 := Ax.part (K := sks) (l := []) mixed sks_ok trivial (by kernel_rfl)
noncomputable def e484 : Entry := ⟨102, [(.agg #[(S 263 0 4 1180591620717411303428), (S 264 0 4 1180591620717411303425), (S 265 0 4 1180591620717411303425)]), (S 280 0 1 1), (.int .u8 (.ofNat 126))], b1_0, 1287, (.slice none 0 0), [], 1291⟩
set_option maxRecDepth 1000000 in
theorem o484 : EntryOK Try.prog e484 := Ax.part (K := sks) (l := []) mixed sks_ok trivial (by kernel_rfl)
noncomputable def e487 : Entry := ⟨102, [(.agg #[(S 263 0 4 1180591620717411303428), (S 264 0 4 1180591620717411303425), (S 265 0 4 1180591620717411303425)]), (S 280 0 1 1), (.int .u8 (.ofNat 127))], b1_0, 1293, (.slice none 0 0), [], 1297⟩
set_option maxRecDepth 1000000 in
theorem o487 : EntryOK Try.prog e487 := Ax.part (K := sks) (l := []) mixed sks_ok trivial (by kernel_rfl)
noncomputable def e490 : Entry := ⟨102, [(.agg #[(S 263 0 4 1180591620717411303428), (S 264 0 4 1180591620717411303425), (S 265 0 4 1180591620717411303425)]), (S 280 0 1 1), (.int .u8 (.ofNat 128))], b1_0, 1299, (.slice none 0 0), [], 1303⟩
set_option maxRecDepth 1000000 in
theorem o490 : EntryOK Try.prog e490 := Ax.part (K := sks) (l := []) mixed sks_ok trivial (by kernel_rfl)
noncomputable def e493 : Entry := ⟨102, [(.agg #[(S 263 0 4 1180591620717411303428), (S 264 0 4 1180591620717411303425), (S 265 0 4 1180591620717411303425)]), (S 280 0 1 1), (.int .u8 (.ofNat 129))], b1_0, 1305, (.slice none 0 0), [], 1309⟩
set_option maxRecDepth 1000000 in
theorem o493 : EntryOK Try.prog e493 := Ax.part (K := sks) (l := []) mixed sks_ok trivial (by kernel_rfl)
noncomputable def e496 : Entry := ⟨102, [(.agg #[(S 263 0 4 1180591620717411303428), (S 264 0 4 1180591620717411303425), (S 265 0 4 1180591620717411303425)]), (S 280 0 1 1), (.int .u8 (.ofNat 130))], b1_0, 1311, (.slice none 0 0), [], 1315⟩
set_option maxRecDepth 1000000 in
theorem o496 : EntryOK Try.prog e496 := Ax.part (K := sks) (l := []) mixed sks_ok trivial (by kernel_rfl)
noncomputable def e499 : Entry := ⟨102, [(.agg #[(S 263 0 4 1180591620717411303428), (S 264 0 4 1180591620717411303425), (S 265 0 4 1180591620717411303425)]), (S 280 0 1 1), (.int .u8 (.ofNat 131))], b1_0, 1317, (.slice none 0 0), [], 1321⟩
set_option maxRecDepth 1000000 in
theorem o499 : EntryOK Try.prog e499 := Ax.part (K := sks) (l := []) mixed sks_ok trivial (by kernel_rfl)
noncomputable def e502 : Entry := ⟨102, [(.agg #[(S 263 0 4 1180591620717411303428), (S 264 0 4 1180591620717411303425), (S 265 0 4 1180591620717411303425)]), (S 280 0 1 1), (.int .u8 (.ofNat 132))], b1_0, 1323, (.slice none 0 0), [], 1327⟩
set_option maxRecDepth 1000000 in
theorem o502 : EntryOK Try.prog e502 := Ax.part (K := sks) (l := []) mixed sks_ok trivial (by kernel_rfl)
noncomputable def e505 : Entry := ⟨102, [(.agg #[(S 263 0 4 1180591620717411303428), (S 264 0 4 1180591620717411303425), (S 265 0 4 1180591620717411303425)]), (S 280 0 1 1), (.int .u8 (.ofNat 133))], b1_0, 1329, (.slice none 0 0), [], 1333⟩
set_option maxRecDepth 1000000 in
theorem o505 : EntryOK Try.prog e505 := Ax.part (K := sks) (l := []) mixed sks_ok trivial (by kernel_rfl)
noncomputable def e508 : Entry := ⟨102, [(.agg #[(S 263 0 4 1180591620717411303428), (S 264 0 4 1180591620717411303425), (S 265 0 4 1180591620717411303425)]), (S 280 0 1 1), (.int .u8 (.ofNat 134))], b1_0, 1335, (.slice none 0 0), [], 1339⟩
set_option maxRecDepth 1000000 in
theorem o508 : EntryOK Try.prog e508 := Ax.part (K := sks) (l := []) mixed sks_ok trivial (by kernel_rfl)
noncomputable def e511 : Entry := ⟨102, [(.agg #[(S 263 0 4 1180591620717411303428), (S 264 0 4 1180591620717411303425), (S 265 0 4 1180591620717411303425)]), (S 280 0 1 1), (.int .u8 (.ofNat 135))], b1_0, 1341, (.slice none 0 0), [], 1345⟩
set_option maxRecDepth 1000000 in
theorem o511 : EntryOK Try.prog e511 := Ax.part (K := sks) (l := []) mixed sks_ok trivial (by kernel_rfl)
noncomputable def e514 : Entry := ⟨102, [(.agg #[(S 263 0 4 1180591620717411303428), (S 264 0 4 1180591620717411303425), (S 265 0 4 1180591620717411303425)]), (S 280 0 1 1), (.int .u8 (.ofNat 136))], b1_0, 1347, (.slice none 0 0), [], 1351⟩
set_option maxRecDepth 1000000 in
theorem o514 : EntryOK Try.prog e514 := Ax.part (K := sks) (l := []) mixed sks_ok trivial (by kernel_rfl)
noncomputable def e517 : Entry := ⟨102, [(.agg #[(S 263 0 4 1180591620717411303428), (S 264 0 4 1180591620717411303425), (S 265 0 4 1180591620717411303425)]), (S 280 0 1 1), (.int .u8 (.ofNat 137))], b1_0, 1353, (.slice none 0 0), [], 1357⟩
set_option maxRecDepth 1000000 in
theorem o517 : EntryOK Try.prog e517 := Ax.part (K := sks) (l := []) mixed sks_ok trivial (by kernel_rfl)
noncomputable def e520 : Entry := ⟨102, [(.agg #[(S 263 0 4 1180591620717411303428), (S 264 0 4 1180591620717411303425), (S 265 0 4 1180591620717411303425)]), (S 280 0 1 1), (.int .u8 (.ofNat 138))], b1_0, 1359, (.slice none 0 0), [], 1363⟩
set_option maxRecDepth 1000000 in
theorem o520 : EntryOK Try.prog e520 := Ax.part (K := sks) (l := []) mixed sks_ok trivial (by kernel_rfl)
noncomputable def e523 : Entry := ⟨102, [(.agg #[(S 263 0 4 1180591620717411303428), (S 264 0 4 1180591620717411303425), (S 265 0 4 1180591620717411303425)]), (S 280 0 1 1), (.int .u8 (.ofNat 139))], b1_0, 1365, (.slice none 0 0), [], 1369⟩
set_option maxRecDepth 1000000 in
theorem o523 : EntryOK Try.prog e523 := Ax.part (K := sks) (l := []) mixed sks_ok trivial (by kernel_rfl)
noncomputable def e526 : Entry := ⟨102, [(.agg #[(S 263 0 4 1180591620717411303428), (S 264 0 4 1180591620717411303425), (S 265 0 4 1180591620717411303425)]), (S 280 0 1 1), (.int .u8 (.ofNat 140))], b1_0, 1371, (.slice none 0 0), [], 1375⟩
set_option maxRecDepth 1000000 in
theorem o526 : EntryOK Try.prog e526 := Ax.part (K := sks) (l := []) mixed sks_ok trivial (by kernel_rfl)
noncomputable def e529 : Entry := ⟨102, [(.agg #[(S 263 0 4 1180591620717411303428), (S 264 0 4 1180591620717411303425), (S 265 0 4 1180591620717411303425)]), (S 280 0 1 1), (.int .u8 (.ofNat 141))], b1_0, 1377, (.slice none 0 0), [], 1381⟩
set_option maxRecDepth 1000000 in
theorem o529 : EntryOK Try.prog e529 := Ax.part (K := sks) (l := []) mixed sks_ok trivial (by kernel_rfl)
noncomputable def e532 : Entry := ⟨102, [(.agg #[(S 263 0 4 1180591620717411303428), (S 264 0 4 1180591620717411303425), (S 265 0 4 1180591620717411303425)]), (S 280 0 1 1), (.int .u8 (.ofNat 142))], b1_0, 1383, (.slice none 0 0), [], 1387⟩
set_option maxRecDepth 1000000 in
theorem o532 : EntryOK Try.prog e532 := Ax.part (K := sks) (l := []) mixed sks_ok trivial (by kernel_rfl)
noncomputable def e535 : Entry := ⟨102, [(.agg #[(S 263 0 4 1180591620717411303428), (S 264 0 4 1180591620717411303425), (S 265 0 4 1180591620717411303425)]), (S 280 0 1 1), (.int .u8 (.ofNat 143))], b1_0, 1389, (.slice none 0 0), [], 1393⟩
set_option maxRecDepth 1000000 in
theorem o535 : EntryOK Try.prog e535 := Ax.part (K := sks) (l := []) mixed sks_ok trivial (by kernel_rfl)
noncomputable def e538 : Entry := ⟨102, [(.agg #[(S 263 0 4 1180591620717411303428), (S 264 0 4 1180591620717411303425), (S 265 0 4 1180591620717411303425)]), (S 280 0 1 1), (.int .u8 (.ofNat 144))], b1_0, 1395, (.slice none 0 0), [], 1399⟩
set_option maxRecDepth 1000000 in
theorem o538 : EntryOK Try.prog e538 := Ax.part (K := sks) (l := []) mixed sks_ok trivial (by kernel_rfl)
noncomputable def e541 : Entry := ⟨102, [(.agg #[(S 263 0 4 1180591620717411303428), (S 264 0 4 1180591620717411303425), (S 265 0 4 1180591620717411303425)]), (S 280 0 1 1), (.int .u8 (.ofNat 145))], b1_0, 1401, (.slice none 0 0), [], 1405⟩
set_option maxRecDepth 1000000 in
theorem o541 : EntryOK Try.prog e541 := Ax.part (K := sks) (l := []) mixed sks_ok trivial (by kernel_rfl)
noncomputable def e544 : Entry := ⟨102, [(.agg #[(S 263 0 4 1180591620717411303428), (S 264 0 4 1180591620717411303425), (S 265 0 4 1180591620717411303425)]), (S 280 0 1 1), (.int .u8 (.ofNat 146))], b1_0, 1407, (.slice none 0 0), [], 1411⟩
set_option maxRecDepth 1000000 in
theorem o544 : EntryOK Try.prog e544 := Ax.part (K := sks) (l := []) mixed sks_ok trivial (by kernel_rfl)
noncomputable def e547 : Entry := ⟨102, [(.agg #[(S 263 0 4 1180591620717411303428), (S 264 0 4 1180591620717411303425), (S 265 0 4 1180591620717411303425)]), (S 280 0 1 1), (.int .u8 (.ofNat 147))], b1_0, 1413, (.slice none 0 0), [], 1417⟩
set_option maxRecDepth 1000000 in
theorem o547 : EntryOK Try.prog e547 := Ax.part (K := sks) (l := []) mixed sks_ok trivial (by kernel_rfl)
noncomputable def e550 : Entry := ⟨102, [(.agg #[(S 263 0 4 1180591620717411303428), (S 264 0 4 1180591620717411303425), (S 265 0 4 1180591620717411303425)]), (S 280 0 1 1), (.int .u8 (.ofNat 148))], b1_0, 1419, (.slice none 0 0), [], 1423⟩
set_option maxRecDepth 1000000 in
theorem o550 : EntryOK Try.prog e550 := Ax.part (K := sks) (l := []) mixed sks_ok trivial (by kernel_rfl)
noncomputable def e553 : Entry := ⟨102, [(.agg #[(S 263 0 4 1180591620717411303428), (S 264 0 4 1180591620717411303425), (S 265 0 4 1180591620717411303425)]), (S 280 0 1 1), (.int .u8 (.ofNat 149))], b1_0, 1425, (.slice none 0 0), [], 1429⟩
set_option maxRecDepth 1000000 in
theorem o553 : EntryOK Try.prog e553 := Ax.part (K := sks) (l := []) mixed sks_ok trivial (by kernel_rfl)
noncomputable def e556 : Entry := ⟨102, [(.agg #[(S 263 0 4 1180591620717411303428), (S 264 0 4 1180591620717411303425), (S 265 0 4 1180591620717411303425)]), (S 280 0 1 1), (.int .u8 (.ofNat 150))], b1_0, 1431, (.slice none 0 0), [], 1435⟩
set_option maxRecDepth 1000000 in
theorem o556 : EntryOK Try.prog e556 := Ax.part (K := sks) (l := []) mixed sks_ok trivial (by kernel_rfl)
noncomputable def e559 : Entry := ⟨102, [(.agg #[(S 263 0 4 1180591620717411303428), (S 264 0 4 1180591620717411303425), (S 265 0 4 1180591620717411303425)]), (S 280 0 1 1), (.int .u8 (.ofNat 151))], b1_0, 1437, (.slice none 0 0), [], 1441⟩
set_option maxRecDepth 1000000 in
theorem o559 : EntryOK Try.prog e559 := Ax.part (K := sks) (l := []) mixed sks_ok trivial (by kernel_rfl)
noncomputable def e562 : Entry := ⟨102, [(.agg #[(S 263 0 4 1180591620717411303428), (S 264 0 4 1180591620717411303425), (S 265 0 4 1180591620717411303425)]), (S 280 0 1 1), (.int .u8 (.ofNat 152))], b1_0, 1443, (.slice none 0 0), [], 1447⟩
set_option maxRecDepth 1000000 in
theorem o562 : EntryOK Try.prog e562 := Ax.part (K := sks) (l := []) mixed sks_ok trivial (by kernel_rfl)
noncomputable def e565 : Entry := ⟨102, [(.agg #[(S 263 0 4 1180591620717411303428), (S 264 0 4 1180591620717411303425), (S 265 0 4 1180591620717411303425)]), (S 280 0 1 1), (.int .u8 (.ofNat 153))], b1_0, 1449, (.slice none 0 0), [], 1453⟩
set_option maxRecDepth 1000000 in
theorem o565 : EntryOK Try.prog e565 := Ax.part (K := sks) (l := []) mixed sks_ok trivial (by kernel_rfl)
noncomputable def e568 : Entry := ⟨102, [(.agg #[(S 263 0 4 1180591620717411303428), (S 264 0 4 1180591620717411303425), (S 265 0 4 1180591620717411303425)]), (S 280 0 1 1), (.int .u8 (.ofNat 154))], b1_0, 1455, (.slice none 0 0), [], 1459⟩
set_option maxRecDepth 1000000 in
theorem o568 : EntryOK Try.prog e568 := Ax.part (K := sks) (l := []) mixed sks_ok trivial (by kernel_rfl)
noncomputable def e571 : Entry := ⟨102, [(.agg #[(S 263 0 4 1180591620717411303428), (S 264 0 4 1180591620717411303425), (S 265 0 4 1180591620717411303425)]), (S 280 0 1 1), (.int .u8 (.ofNat 155))], b1_0, 1461, (.slice none 0 0), [], 1465⟩
set_option maxRecDepth 1000000 in
theorem o571 : EntryOK Try.prog e571 := Ax.part (K := sks) (l := []) mixed sks_ok trivial (by kernel_rfl)
noncomputable def e574 : Entry := ⟨102, [(.agg #[(S 263 0 4 1180591620717411303428), (S 264 0 4 1180591620717411303425), (S 265 0 4 1180591620717411303425)]), (S 280 0 1 1), (.int .u8 (.ofNat 156))], b1_0, 1467, (.slice none 0 0), [], 1471⟩
set_option maxRecDepth 1000000 in
theorem o574 : EntryOK Try.prog e574 := Ax.part (K := sks) (l := []) mixed sks_ok trivial (by kernel_rfl)
noncomputable def e577 : Entry := ⟨102, [(.agg #[(S 263 0 4 1180591620717411303428), (S 264 0 4 1180591620717411303425), (S 265 0 4 1180591620717411303425)]), (S 280 0 1 1), (.int .u8 (.ofNat 157))], b1_0, 1473, (.slice none 0 0), [], 1477⟩
set_option maxRecDepth 1000000 in
theorem o577 : EntryOK Try.prog e577 := Ax.part (K := sks) (l := []) mixed sks_ok trivial (by kernel_rfl)
noncomputable def e580 : Entry := ⟨102, [(.agg #[(S 263 0 4 1180591620717411303428), (S 264 0 4 1180591620717411303425), (S 265 0 4 1180591620717411303425)]), (S 280 0 1 1), (.int .u8 (.ofNat 158))], b1_0, 1479, (.slice none 0 0), [], 1483⟩
set_option maxRecDepth 1000000 in
theorem o580 : EntryOK Try.prog e580 := Ax.part (K := sks) (l := []) mixed sks_ok trivial (by kernel_rfl)
noncomputable def e583 : Entry := ⟨102, [(.agg #[(S 263 0 4 1180591620717411303428), (S 264 0 4 1180591620717411303425), (S 265 0 4 1180591620717411303425)]), (S 280 0 1 1), (.int .u8 (.ofNat 159))], b1_0, 1485, (.slice none 0 0), [], 1489⟩
set_option maxRecDepth 1000000 in
theorem o583 : EntryOK Try.prog e583 := Ax.part (K := sks) (l := []) mixed sks_ok trivial (by kernel_rfl)
noncomputable def e586 : Entry := ⟨102, [(.agg #[(S 263 0 4 1180591620717411303428), (S 264 0 4 1180591620717411303425), (S 265 0 4 1180591620717411303425)]), (S 280 0 1 1), (.int .u8 (.ofNat 160))], b1_0, 1491, (.slice none 0 0), [], 1495⟩
set_option maxRecDepth 1000000 in
theorem o586 : EntryOK Try.prog e586 := Ax.part (K := sks) (l := []) mixed sks_ok trivial (by kernel_rfl)
noncomputable def e589 : Entry := ⟨102, [(.agg #[(S 263 0 4 1180591620717411303428), (S 264 0 4 1180591620717411303425), (S 265 0 4 1180591620717411303425)]), (S 280 0 1 1), (.int .u8 (.ofNat 161))], b1_0, 1497, (.slice none 0 0), [], 1501⟩
set_option maxRecDepth 1000000 in
theorem o589 : EntryOK Try.prog e589 := Ax.part (K := sks) (l := []) mixed sks_ok trivial (by kernel_rfl)
noncomputable def e592 : Entry := ⟨102, [(.agg #[(S 263 0 4 1180591620717411303428), (S 264 0 4 1180591620717411303425), (S 265 0 4 1180591620717411303425)]), (S 280 0 1 1), (.int .u8 (.ofNat 162))], b1_0, 1503, (.slice none 0 0), [], 1507⟩
set_option maxRecDepth 1000000 in
theorem o592 : EntryOK Try.prog e592 := Ax.part (K := sks) (l := []) mixed sks_ok trivial (by kernel_rfl)
noncomputable def e595 : Entry := ⟨102, [(.agg #[(S 263 0 4 1180591620717411303428), (S 264 0 4 1180591620717411303425), (S 265 0 4 1180591620717411303425)]), (S 280 0 1 1), (.int .u8 (.ofNat 163))], b1_0, 1509, (.slice none 0 0), [], 1513⟩
set_option maxRecDepth 1000000 in
theorem o595 : EntryOK Try.prog e595 := Ax.part (K := sks) (l := []) mixed sks_ok trivial (by kernel_rfl)
noncomputable def e598 : Entry := ⟨102, [(.agg #[(S 263 0 4 1180591620717411303428), (S 264 0 4 1180591620717411303425), (S 265 0 4 1180591620717411303425)]), (S 280 0 1 1), (.int .u8 (.ofNat 164))], b1_0, 1515, (.slice none 0 0), [], 1519⟩
set_option maxRecDepth 1000000 in
theorem o598 : EntryOK Try.prog e598 := Ax.part (K := sks) (l := []) mixed sks_ok trivial (by kernel_rfl)
noncomputable def e601 : Entry := ⟨102, [(.agg #[(S 263 0 4 1180591620717411303428), (S 264 0 4 1180591620717411303425), (S 265 0 4 1180591620717411303425)]), (S 280 0 1 1), (.int .u8 (.ofNat 165))], b1_0, 1521, (.slice none 0 0), [], 1525⟩
set_option maxRecDepth 1000000 in
theorem o601 : EntryOK Try.prog e601 := Ax.part (K := sks) (l := []) mixed sks_ok trivial (by kernel_rfl)
noncomputable def e604 : Entry := ⟨102, [(.agg #[(S 263 0 4 1180591620717411303428), (S 264 0 4 1180591620717411303425), (S 265 0 4 1180591620717411303425)]), (S 280 0 1 1), (.int .u8 (.ofNat 166))], b1_0, 1527, (.slice none 0 0), [], 1531⟩
set_option maxRecDepth 1000000 in
theorem o604 : EntryOK Try.prog e604 := Ax.part (K := sks) (l := []) mixed sks_ok trivial (by kernel_rfl)
noncomputable def e607 : Entry := ⟨102, [(.agg #[(S 263 0 4 1180591620717411303428), (S 264 0 4 1180591620717411303425), (S 265 0 4 1180591620717411303425)]), (S 280 0 1 1), (.int .u8 (.ofNat 167))], b1_0, 1533, (.slice none 0 0), [], 1537⟩
set_option maxRecDepth 1000000 in
theorem o607 : EntryOK Try.prog e607 := Ax.part (K := sks) (l := []) mixed sks_ok trivial (by kernel_rfl)
noncomputable def e610 : Entry := ⟨102, [(.agg #[(S 263 0 4 1180591620717411303428), (S 264 0 4 1180591620717411303425), (S 265 0 4 1180591620717411303425)]), (S 280 0 1 1), (.int .u8 (.ofNat 168))], b1_0, 1539, (.slice none 0 0), [], 1543⟩
set_option maxRecDepth 1000000 in
theorem o610 : EntryOK Try.prog e610 := Ax.part (K := sks) (l := []) mixed sks_ok trivial (by kernel_rfl)
noncomputable def e613 : Entry := ⟨102, [(.agg #[(S 263 0 4 1180591620717411303428), (S 264 0 4 1180591620717411303425), (S 265 0 4 1180591620717411303425)]), (S 280 0 1 1), (.int .u8 (.ofNat 169))], b1_0, 1545, (.slice none 0 0), [], 1549⟩
set_option maxRecDepth 1000000 in
theorem o613 : EntryOK Try.prog e613 := Ax.part (K := sks) (l := []) mixed sks_ok trivial (by kernel_rfl)
noncomputable def e616 : Entry := ⟨102, [(.agg #[(S 263 0 4 1180591620717411303428), (S 264 0 4 1180591620717411303425), (S 265 0 4 1180591620717411303425)]), (S 280 0 1 1), (.int .u8 (.ofNat 170))], b1_0, 1551, (.slice none 0 0), [], 1555⟩
set_option maxRecDepth 1000000 in
theorem o616 : EntryOK Try.prog e616 := Ax.part (K := sks) (l := []) mixed sks_ok trivial (by kernel_rfl)
noncomputable def e619 : Entry := ⟨102, [(.agg #[(S 263 0 4 1180591620717411303428), (S 264 0 4 1180591620717411303425), (S 265 0 4 1180591620717411303425)]), (S 280 0 1 1), (.int .u8 (.ofNat 171))], b1_0, 1557, (.slice none 0 0), [], 1561⟩
set_option maxRecDepth 1000000 in
theorem o619 : EntryOK Try.prog e619 := Ax.part (K := sks) (l := []) mixed sks_ok trivial (by kernel_rfl)
noncomputable def e622 : Entry := ⟨102, [(.agg #[(S 263 0 4 1180591620717411303428), (S 264 0 4 1180591620717411303425), (S 265 0 4 1180591620717411303425)]), (S 280 0 1 1), (.int .u8 (.ofNat 172))], b1_0, 1563, (.slice none 0 0), [], 1567⟩
set_option maxRecDepth 1000000 in
theorem o622 : EntryOK Try.prog e622 := Ax.part (K := sks) (l := []) mixed sks_ok trivial (by kernel_rfl)
noncomputable def e625 : Entry := ⟨102, [(.agg #[(S 263 0 4 1180591620717411303428), (S 264 0 4 1180591620717411303425), (S 265 0 4 1180591620717411303425)]), (S 280 0 1 1), (.int .u8 (.ofNat 173))], b1_0, 1569, (.slice none 0 0), [], 1573⟩
set_option maxRecDepth 1000000 in
theorem o625 : EntryOK Try.prog e625 := Ax.part (K := sks) (l := []) mixed sks_ok trivial (by kernel_rfl)
noncomputable def e628 : Entry := ⟨102, [(.agg #[(S 263 0 4 1180591620717411303428), (S 264 0 4 1180591620717411303425), (S 265 0 4 1180591620717411303425)]), (S 280 0 1 1), (.int .u8 (.ofNat 174))], b1_0, 1575, (.slice none 0 0), [], 1579⟩
set_option maxRecDepth 1000000 in
theorem o628 : EntryOK Try.prog e628 := Ax.part (K := sks) (l := []) mixed sks_ok trivial (by kernel_rfl)
noncomputable def e631 : Entry := ⟨102, [(.agg #[(S 263 0 4 1180591620717411303428), (S 264 0 4 1180591620717411303425), (S 265 0 4 1180591620717411303425)]), (S 280 0 1 1), (.int .u8 (.ofNat 175))], b1_0, 1581, (.slice none 0 0), [], 1585⟩
set_option maxRecDepth 1000000 in
theorem o631 : EntryOK Try.prog e631 := Ax.part (K := sks) (l := []) mixed sks_ok trivial (by kernel_rfl)
noncomputable def e634 : Entry := ⟨102, [(.agg #[(S 263 0 4 1180591620717411303428), (S 264 0 4 1180591620717411303425), (S 265 0 4 1180591620717411303425)]), (S 280 0 1 1), (.int .u8 (.ofNat 176))], b1_0, 1587, (.slice none 0 0), [], 1591⟩
set_option maxRecDepth 1000000 in
theorem o634 : EntryOK Try.prog e634 := Ax.part (K := sks) (l := []) mixed sks_ok trivial (by kernel_rfl)
noncomputable def e637 : Entry := ⟨102, [(.agg #[(S 263 0 4 1180591620717411303428), (S 264 0 4 1180591620717411303425), (S 265 0 4 1180591620717411303425)]), (S 280 0 1 1), (.int .u8 (.ofNat 177))], b1_0, 1593, (.slice none 0 0), [], 1597⟩
set_option maxRecDepth 1000000 in
theorem o637 : EntryOK Try.prog e637 := Ax.part (K := sks) (l := []) mixed sks_ok trivial (by kernel_rfl)
noncomputable def e640 : Entry := ⟨102, [(.agg #[(S 263 0 4 1180591620717411303428), (S 264 0 4 1180591620717411303425), (S 265 0 4 1180591620717411303425)]), (S 280 0 1 1), (.int .u8 (.ofNat 178))], b1_0, 1599, (.slice none 0 0), [], 1603⟩
set_option maxRecDepth 1000000 in
theorem o640 : EntryOK Try.prog e640 := Ax.part (K := sks) (l := []) mixed sks_ok trivial (by kernel_rfl)
noncomputable def e643 : Entry := ⟨102, [(.agg #[(S 263 0 4 1180591620717411303428), (S 264 0 4 1180591620717411303425), (S 265 0 4 1180591620717411303425)]), (S 280 0 1 1), (.int .u8 (.ofNat 179))], b1_0, 1605, (.slice none 0 0), [], 1609⟩
set_option maxRecDepth 1000000 in
theorem o643 : EntryOK Try.prog e643 := Ax.part (K := sks) (l := []) mixed sks_ok trivial (by kernel_rfl)
noncomputable def e646 : Entry := ⟨102, [(.agg #[(S 263 0 4 1180591620717411303428), (S 264 0 4 1180591620717411303425), (S 265 0 4 1180591620717411303425)]), (S 280 0 1 1), (.int .u8 (.ofNat 180))], b1_0, 1611, (.slice none 0 0), [], 1615⟩
set_option maxRecDepth 1000000 in
theorem o646 : EntryOK Try.prog e646 := Ax.part (K := sks) (l := []) mixed sks_ok trivial (by kernel_rfl)
noncomputable def e649 : Entry := ⟨102, [(.agg #[(S 263 0 4 1180591620717411303428), (S 264 0 4 1180591620717411303425), (S 265 0 4 1180591620717411303425)]), (S 280 0 1 1), (.int .u8 (.ofNat 181))], b1_0, 1617, (.slice none 0 0), [], 1621⟩
set_option maxRecDepth 1000000 in
theorem o649 : EntryOK Try.prog e649 := Ax.part (K := sks) (l := []) mixed sks_ok trivial (by kernel_rfl)
noncomputable def e652 : Entry := ⟨102, [(.agg #[(S 263 0 4 1180591620717411303428), (S 264 0 4 1180591620717411303425), (S 265 0 4 1180591620717411303425)]), (S 280 0 1 1), (.int .u8 (.ofNat 182))], b1_0, 1623, (.slice none 0 0), [], 1627⟩
set_option maxRecDepth 1000000 in
theorem o652 : EntryOK Try.prog e652 := Ax.part (K := sks) (l := []) mixed sks_ok trivial (by kernel_rfl)
noncomputable def e655 : Entry := ⟨102, [(.agg #[(S 263 0 4 1180591620717411303428), (S 264 0 4 1180591620717411303425), (S 265 0 4 1180591620717411303425)]), (S 280 0 1 1), (.int .u8 (.ofNat 183))], b1_0, 1629, (.slice none 0 0), [], 1633⟩
set_option maxRecDepth 1000000 in
theorem o655 : EntryOK Try.prog e655 := Ax.part (K := sks) (l := []) mixed sks_ok trivial (by kernel_rfl)
noncomputable def e658 : Entry := ⟨102, [(.agg #[(S 263 0 4 1180591620717411303428), (S 264 0 4 1180591620717411303425), (S 265 0 4 1180591620717411303425)]), (S 280 0 1 1), (.int .u8 (.ofNat 184))], b1_0, 1635, (.slice none 0 0), [], 1639⟩
set_option maxRecDepth 1000000 in
theorem o658 : EntryOK Try.prog e658 := Ax.part (K := sks) (l := []) mixed sks_ok trivial (by kernel_rfl)
noncomputable def e661 : Entry := ⟨102, [(.agg #[(S 263 0 4 1180591620717411303428), (S 264 0 4 1180591620717411303425), (S 265 0 4 1180591620717411303425)]), (S 280 0 1 1), (.int .u8 (.ofNat 185))], b1_0, 1641, (.slice none 0 0), [], 1645⟩
set_option maxRecDepth 1000000 in
theorem o661 : EntryOK Try.prog e661 := Ax.part (K := sks) (l := []) mixed sks_ok trivial (by kernel_rfl)
noncomputable def e664 : Entry := ⟨102, [(.agg #[(S 263 0 4 1180591620717411303428), (S 264 0 4 1180591620717411303425), (S 265 0 4 1180591620717411303425)]), (S 280 0 1 1), (.int .u8 (.ofNat 186))], b1_0, 1647, (.slice none 0 0), [], 1651⟩
set_option maxRecDepth 1000000 in
theorem o664 : EntryOK Try.prog e664 := Ax.part (K := sks) (l := []) mixed sks_ok trivial (by kernel_rfl)
noncomputable def e667 : Entry := ⟨102, [(.agg #[(S 263 0 4 1180591620717411303428), (S 264 0 4 1180591620717411303425), (S 265 0 4 1180591620717411303425)]), (S 280 0 1 1), (.int .u8 (.ofNat 187))], b1_0, 1653, (.slice none 0 0), [], 1657⟩
set_option maxRecDepth 1000000 in
theorem o667 : EntryOK Try.prog e667 := Ax.part (K := sks) (l := []) mixed sks_ok trivial (by kernel_rfl)
noncomputable def e670 : Entry := ⟨102, [(.agg #[(S 263 0 4 1180591620717411303428), (S 264 0 4 1180591620717411303425), (S 265 0 4 1180591620717411303425)]), (S 280 0 1 1), (.int .u8 (.ofNat 188))], b1_0, 1659, (.slice none 0 0), [], 1663⟩
set_option maxRecDepth 1000000 in
theorem o670 : EntryOK Try.prog e670 := Ax.part (K := sks) (l := []) mixed sks_ok trivial (by kernel_rfl)
noncomputable def e673 : Entry := ⟨102, [(.agg #[(S 263 0 4 1180591620717411303428), (S 264 0 4 1180591620717411303425), (S 265 0 4 1180591620717411303425)]), (S 280 0 1 1), (.int .u8 (.ofNat 189))], b1_0, 1665, (.slice none 0 0), [], 1669⟩
set_option maxRecDepth 1000000 in
theorem o673 : EntryOK Try.prog e673 := Ax.part (K := sks) (l := []) mixed sks_ok trivial (by kernel_rfl)
noncomputable def e676 : Entry := ⟨102, [(.agg #[(S 263 0 4 1180591620717411303428), (S 264 0 4 1180591620717411303425), (S 265 0 4 1180591620717411303425)]), (S 280 0 1 1), (.int .u8 (.ofNat 190))], b1_0, 1671, (.slice none 0 0), [], 1675⟩
set_option maxRecDepth 1000000 in
theorem o676 : EntryOK Try.prog e676 := Ax.part (K := sks) (l := []) mixed sks_ok trivial (by kernel_rfl)
noncomputable def e679 : Entry := ⟨102, [(.agg #[(S 263 0 4 1180591620717411303428), (S 264 0 4 1180591620717411303425), (S 265 0 4 1180591620717411303425)]), (S 280 0 1 1), (.int .u8 (.ofNat 191))], b1_0, 1677, (.slice none 0 0), [], 1681⟩
set_option maxRecDepth 1000000 in
theorem o679 : EntryOK Try.prog e679 := Ax.part (K := sks) (l := []) mixed sks_ok trivial (by kernel_rfl)
noncomputable def e682 : Entry := ⟨102, [(.agg #[(S 263 0 4 1180591620717411303428), (S 264 0 4 1180591620717411303425), (S 265 0 4 1180591620717411303425)]), (S 280 0 1 1), (.int .u8 (.ofNat 192))], b1_0, 1683, (.slice none 0 0), [], 1687⟩
set_option maxRecDepth 1000000 in
theorem o682 : EntryOK Try.prog e682 := Ax.part (K := sks) (l := []) mixed sks_ok trivial (by kernel_rfl)
noncomputable def e685 : Entry := ⟨102, [(.agg #[(S 263 0 4 1180591620717411303428), (S 264 0 4 1180591620717411303425), (S 265 0 4 1180591620717411303425)]), (S 280 0 1 1), (.int .u8 (.ofNat 193))], b1_0, 1689, (.slice none 0 0), [], 1693⟩
set_option maxRecDepth 1000000 in
theorem o685 : EntryOK Try.prog e685 := Ax.part (K := sks) (l := []) mixed sks_ok trivial (by kernel_rfl)
noncomputable def e688 : Entry := ⟨102, [(.agg #[(S 263 0 4 1180591620717411303428), (S 264 0 4 1180591620717411303425), (S 265 0 4 1180591620717411303425)]), (S 280 0 1 1), (.int .u8 (.ofNat 194))], b1_0, 1695, (.slice none 0 0), [], 1699⟩
set_option maxRecDepth 1000000 in
theorem o688 : EntryOK Try.prog e688 := Ax.part (K := sks) (l := []) mixed sks_ok trivial (by kernel_rfl)
noncomputable def e691 : Entry := ⟨102, [(.agg #[(S 263 0 4 1180591620717411303428), (S 264 0 4 1180591620717411303425), (S 265 0 4 1180591620717411303425)]), (S 280 0 1 1), (.int .u8 (.ofNat 195))], b1_0, 1701, (.slice none 0 0), [], 1705⟩
set_option maxRecDepth 1000000 in
theorem o691 : EntryOK Try.prog e691 := Ax.part (K := sks) (l := []) mixed sks_ok trivial (by kernel_rfl)
noncomputable def e694 : Entry := ⟨102, [(.agg #[(S 263 0 4 1180591620717411303428), (S 264 0 4 1180591620717411303425), (S 265 0 4 1180591620717411303425)]), (S 280 0 1 1), (.int .u8 (.ofNat 196))], b1_0, 1707, (.slice none 0 0), [], 1711⟩
set_option maxRecDepth 1000000 in
theorem o694 : EntryOK Try.prog e694 := Ax.part (K := sks) (l := []) mixed sks_ok trivial (by kernel_rfl)
noncomputable def e697 : Entry := ⟨102, [(.agg #[(S 263 0 4 1180591620717411303428), (S 264 0 4 1180591620717411303425), (S 265 0 4 1180591620717411303425)]), (S 280 0 1 1), (.int .u8 (.ofNat 197))], b1_0, 1713, (.slice none 0 0), [], 1717⟩
set_option maxRecDepth 1000000 in
theorem o697 : EntryOK Try.prog e697 := Ax.part (K := sks) (l := []) mixed sks_ok trivial (by kernel_rfl)
noncomputable def e700 : Entry := ⟨102, [(.agg #[(S 263 0 4 1180591620717411303428), (S 264 0 4 1180591620717411303425), (S 265 0 4 1180591620717411303425)]), (S 280 0 1 1), (.int .u8 (.ofNat 198))], b1_0, 1719, (.slice none 0 0), [], 1723⟩
set_option maxRecDepth 1000000 in
theorem o700 : EntryOK Try.prog e700 := Ax.part (K := sks) (l := []) mixed sks_ok trivial (by kernel_rfl)
noncomputable def e703 : Entry := ⟨102, [(.agg #[(S 263 0 4 1180591620717411303428), (S 264 0 4 1180591620717411303425), (S 265 0 4 1180591620717411303425)]), (S 280 0 1 1), (.int .u8 (.ofNat 199))], b1_0, 1725, (.slice none 0 0), [], 1729⟩
set_option maxRecDepth 1000000 in
theorem o703 : EntryOK Try.prog e703 := Ax.part (K := sks) (l := []) mixed sks_ok trivial (by kernel_rfl)
noncomputable def e706 : Entry := ⟨102, [(.agg #[(S 263 0 4 1180591620717411303428), (S 264 0 4 1180591620717411303425), (S 265 0 4 1180591620717411303425)]), (S 280 0 1 1), (.int .u8 (.ofNat 200))], b1_0, 1731, (.slice none 0 0), [], 1735⟩
set_option maxRecDepth 1000000 in
theorem o706 : EntryOK Try.prog e706 := Ax.part (K := sks) (l := []) mixed sks_ok trivial (by kernel_rfl)
noncomputable def e709 : Entry := ⟨102, [(.agg #[(S 263 0 4 1180591620717411303428), (S 264 0 4 1180591620717411303425), (S 265 0 4 1180591620717411303425)]), (S 280 0 1 1), (.int .u8 (.ofNat 201))], b1_0, 1737, (.slice none 0 0), [], 1741⟩
set_option maxRecDepth 1000000 in
theorem o709 : EntryOK Try.prog e709 := Ax.part (K := sks) (l := []) mixed sks_ok trivial (by kernel_rfl)
noncomputable def e712 : Entry := ⟨102, [(.agg #[(S 263 0 4 1180591620717411303428), (S 264 0 4 1180591620717411303425), (S 265 0 4 1180591620717411303425)]), (S 280 0 1 1), (.int .u8 (.ofNat 202))], b1_0, 1743, (.slice none 0 0), [], 1747⟩
set_option maxRecDepth 1000000 in
theorem o712 : EntryOK Try.prog e712 := Ax.part (K := sks) (l := []) mixed sks_ok trivial (by kernel_rfl)
noncomputable def e715 : Entry := ⟨102, [(.agg #[(S 263 0 4 1180591620717411303428), (S 264 0 4 1180591620717411303425), (S 265 0 4 1180591620717411303425)]), (S 280 0 1 1), (.int .u8 (.ofNat 203))], b1_0, 1749, (.slice none 0 0), [], 1753⟩
set_option maxRecDepth 1000000 in
theorem o715 : EntryOK Try.prog e715 := Ax.part (K := sks) (l := []) mixed sks_ok trivial (by kernel_rfl)

end Go.Proofs.Ytoocpkmefmjcjaa.munchNil
