/-
  Parts of the run of viewportlaw06.MunchNil, in order: what each of these calls gives, for each memory that holds what it looks at. No condition.
-/
import Derived.Test.YtoocpkmefmjcjaaAx1
import Derived.Test.YtoocpkmefmjcjaaKeys
import Derived.Test.YtoocpkmefmjcjaaProg
import Derived.KernelRfl
set_option linter.unusedSimpArgs false
set_option linter.unusedVariables false
namespace Go.Proofs.Ytoocpkmefmjcjaa.munchNil
open Go.Proofs Go.Proofs.Ytoocpkmefmjcjaa Ax

noncomputable def b3_0 : List LBlk := [⟨263, .cells 149 [(.int .u64 (.ofNat 0)), (.int .u64 (.ofNat 0)), (.int .u64 (.ofNat 0)), (.int .u64 (.ofNat 0)), (.int .u64 (.ofNat 0)), (.int .u64 (.ofNat 8589934592)), (.int .u64 (.ofNat 0)), (.int .u64 (.ofNat 0)), (.int .u64 (.ofNat 0)), (.int .u64 (.ofNat 17179869184)), (.int .u64 (.ofNat 0)), (.int .u64 (.ofNat 0)), (.int .u64 (.ofNat 287948901175001088)), (.int .u64 (.ofNat 0)), (.int .u64 (.ofNat 0)), (.int .u64 (.ofNat 0))]⟩, ⟨275, .cells 3 [(I 1), (I 3)]⟩, ⟨217, .cells 3 [(I 2)]⟩, ⟨213, .cells 3 [(I 2)]⟩, ⟨271, .cells 3 [(I 3)]⟩, ⟨264, .cells 47 [(S 275 0 2 1180591620717411303425), (S 217 0 1 1180591620717411303425), (S 213 0 1 1180591620717411303425), (S 271 0 1 1180591620717411303425)]⟩, ⟨265, .cells 3 [(M 0), (I 0), (I 0), (I 1)]⟩, ⟨603, .cells 3 [(I 3)]⟩]
noncomputable def b3_1 : List LBlk := [⟨263, .cells 149 [(.int .u64 (.ofNat 0)), (.int .u64 (.ofNat 0)), (.int .u64 (.ofNat 0)), (.int .u64 (.ofNat 0)), (.int .u64 (.ofNat 0)), (.int .u64 (.ofNat 8589934592)), (.int .u64 (.ofNat 0)), (.int .u64 (.ofNat 0)), (.int .u64 (.ofNat 0)), (.int .u64 (.ofNat 17179869184)), (.int .u64 (.ofNat 0)), (.int .u64 (.ofNat 0)), (.int .u64 (.ofNat 287948901175001088)), (.int .u64 (.ofNat 0)), (.int .u64 (.ofNat 0)), (.int .u64 (.ofNat 0))]⟩, ⟨275, .cells 3 [(I 1), (I 3)]⟩, ⟨217, .cells 3 [(I 2)]⟩, ⟨213, .cells 3 [(I 2)]⟩, ⟨271, .cells 3 [(I 3)]⟩, ⟨264, .cells 47 [(S 275 0 2 1180591620717411303425), (S 217 0 1 1180591620717411303425), (S 213 0 1 1180591620717411303425), (S 271 0 1 1180591620717411303425)]⟩, ⟨265, .cells 3 [(M 0), (I 0), (I 0), (I 1)]⟩, ⟨1084, .cells 3 [(I 1)]⟩]
noncomputable def e1183 : Entry := ⟨102, [(.agg #[(S 263 0 4 1180591620717411303428), (S 264 0 4 1180591620717411303425), (S 265 0 4 1180591620717411303425)]), (S 603 0 1 1180591620717411303425), (.int .u8 (.ofNat 149))], b3_0, 2993, (.slice none 0 0), [], 2996⟩
set_option maxRecDepth 1000000 in
theorem o1183 : EntryOK Try.prog e1183 := Ax.part (K := sks) (l := []) mixed sks_ok trivial (by kernel_rfl)
noncomputable def e1185 : Entry := ⟨102, [(.agg #[(S 263 0 4 1180591620717411303428), (S 264 0 4 1180591620717411303425), (S 265 0 4 1180591620717411303425)]), (S 603 0 1 1180591620717411303425), (.int .u8 (.ofNat 150))], b3_0, 2998, (.slice none 0 0), [], 3001⟩
set_option maxRecDepth 1000000 in
theorem o1185 : EntryOK Try.prog e1185 := Ax.part (K := sks) (l := []) mixed sks_ok trivial (by kernel_rfl)
noncomputable def e1187 : Entry := ⟨102, [(.agg #[(S 263 0 4 1180591620717411303428), (S 264 0 4 1180591620717411303425), (S 265 0 4 1180591620717411303425)]), (S 603 0 1 1180591620717411303425), (.int .u8 (.ofNat 151))], b3_0, 3003, (.slice none 0 0), [], 3006⟩
set_option maxRecDepth 1000000 in
theorem o1187 : EntryOK Try.prog e1187 := Ax.part (K := sks) (l := []) mixed sks_ok trivial (by kernel_rfl)
noncomputable def e1189 : Entry := ⟨102, [(.agg #[(S 263 0 4 1180591620717411303428), (S 264 0 4 1180591620717411303425), (S 265 0 4 1180591620717411303425)]), (S 603 0 1 1180591620717411303425), (.int .u8 (.ofNat 152))], b3_0, 3008, (.slice none 0 0), [], 3011⟩
set_option maxRecDepth 1000000 in
theorem o1189 : EntryOK Try.prog e1189 := Ax.part (K := sks) (l := []) mixed sks_ok trivial (by kernel_rfl)
noncomputable def e1191 : Entry := ⟨102, [(.agg #[(S 263 0 4 1180591620717411303428), (S 264 0 4 1180591620717411303425), (S 265 0 4 1180591620717411303425)]), (S 603 0 1 1180591620717411303425), (.int .u8 (.ofNat 153))], b3_0, 3013, (.slice none 0 0), [], 3016⟩
set_option maxRecDepth 1000000 in
theorem o1191 : EntryOK Try.prog e1191 := Ax.part (K := sks) (l := []) mixed sks_ok trivial (by kernel_rfl)
noncomputable def e1193 : Entry := ⟨102, [(.agg #[(S 263 0 4 1180591620717411303428), (S 264 0 4 1180591620717411303425), (S 265 0 4 1180591620717411303425)]), (S 603 0 1 1180591620717411303425), (.int .u8 (.ofNat 154))], b3_0, 3018, (.slice none 0 0), [], 3021⟩
set_option maxRecDepth 1000000 in
theorem o1193 : EntryOK Try.prog e1193 := Ax.part (K := sks) (l := []) mixed sks_ok trivial (by kernel_rfl)
noncomputable def e1195 : Entry := ⟨102, [(.agg #[(S 263 0 4 1180591620717411303428), (S 264 0 4 1180591620717411303425), (S 265 0 4 1180591620717411303425)]), (S 603 0 1 1180591620717411303425), (.int .u8 (.ofNat 155))], b3_0, 3023, (.slice none 0 0), [], 3026⟩
set_option maxRecDepth 1000000 in
theorem o1195 : EntryOK Try.prog e1195 := Ax.part (K := sks) (l := []) mixed sks_ok trivial (by kernel_rfl)
noncomputable def e1197 : Entry := ⟨102, [(.agg #[(S 263 0 4 1180591620717411303428), (S 264 0 4 1180591620717411303425), (S 265 0 4 1180591620717411303425)]), (S 603 0 1 1180591620717411303425), (.int .u8 (.ofNat 156))], b3_0, 3028, (.slice none 0 0), [], 3031⟩
set_option maxRecDepth 1000000 in
theorem o1197 : EntryOK Try.prog e1197 := Ax.part (K := sks) (l := []) mixed sks_ok trivial (by kernel_rfl)
noncomputable def e1199 : Entry := ⟨102, [(.agg #[(S 263 0 4 1180591620717411303428), (S 264 0 4 1180591620717411303425), (S 265 0 4 1180591620717411303425)]), (S 603 0 1 1180591620717411303425), (.int .u8 (.ofNat 157))], b3_0, 3033, (.slice none 0 0), [], 3036⟩
set_option maxRecDepth 1000000 in
theorem o1199 : EntryOK Try.prog e1199 := Ax.part (K := sks) (l := []) mixed sks_ok trivial (by kernel_rfl)
noncomputable def e1201 : Entry := ⟨102, [(.agg #[(S 263 0 4 1180591620717411303428), (S 264 0 4 1180591620717411303425), (S 265 0 4 1180591620717411303425)]), (S 603 0 1 1180591620717411303425), (.int .u8 (.ofNat 158))], b3_0, 3038, (.slice none 0 0), [], 3041⟩
set_option maxRecDepth 1000000 in
theorem o1201 : EntryOK Try.prog e1201 := Ax.part (K := sks) (l := []) mixed sks_ok trivial (by kernel_rfl)
noncomputable def e1203 : Entry := ⟨102, [(.agg #[(S 263 0 4 1180591620717411303428), (S 264 0 4 1180591620717411303425), (S 265 0 4 1180591620717411303425)]), (S 603 0 1 1180591620717411303425), (.int .u8 (.ofNat 159))], b3_0, 3043, (.slice none 0 0), [], 3046⟩
set_option maxRecDepth 1000000 in
theorem o1203 : EntryOK Try.prog e1203 := Ax.part (K := sks) (l := []) mixed sks_ok trivial (by kernel_rfl)
noncomputable def e1205 : Entry := ⟨102, [(.agg #[(S 263 0 4 1180591620717411303428), (S 264 0 4 1180591620717411303425), (S 265 0 4 1180591620717411303425)]), (S 603 0 1 1180591620717411303425), (.int .u8 (.ofNat 160))], b3_0, 3048, (.slice none 0 0), [], 3051⟩
set_option maxRecDepth 1000000 in
theorem o1205 : EntryOK Try.prog e1205 := Ax.part (K := sks) (l := []) mixed sks_ok trivial (by kernel_rfl)
noncomputable def e1207 : Entry := ⟨102, [(.agg #[(S 263 0 4 1180591620717411303428), (S 264 0 4 1180591620717411303425), (S 265 0 4 1180591620717411303425)]), (S 603 0 1 1180591620717411303425), (.int .u8 (.ofNat 161))], b3_0, 3053, (.slice none 0 0), [], 3056⟩
set_option maxRecDepth 1000000 in
theorem o1207 : EntryOK Try.prog e1207 := Ax.part (K := sks) (l := []) mixed sks_ok trivial (by kernel_rfl)
noncomputable def e1209 : Entry := ⟨102, [(.agg #[(S 263 0 4 1180591620717411303428), (S 264 0 4 1180591620717411303425), (S 265 0 4 1180591620717411303425)]), (S 603 0 1 1180591620717411303425), (.int .u8 (.ofNat 162))], b3_0, 3058, (.slice none 0 0), [], 3061⟩
set_option maxRecDepth 1000000 in
theorem o1209 : EntryOK Try.prog e1209 := Ax.part (K := sks) (l := []) mixed sks_ok trivial (by kernel_rfl)
noncomputable def e1211 : Entry := ⟨102, [(.agg #[(S 263 0 4 1180591620717411303428), (S 264 0 4 1180591620717411303425), (S 265 0 4 1180591620717411303425)]), (S 603 0 1 1180591620717411303425), (.int .u8 (.ofNat 163))], b3_0, 3063, (.slice none 0 0), [], 3066⟩
set_option maxRecDepth 1000000 in
theorem o1211 : EntryOK Try.prog e1211 := Ax.part (K := sks) (l := []) mixed sks_ok trivial (by kernel_rfl)
noncomputable def e1213 : Entry := ⟨102, [(.agg #[(S 263 0 4 1180591620717411303428), (S 264 0 4 1180591620717411303425), (S 265 0 4 1180591620717411303425)]), (S 603 0 1 1180591620717411303425), (.int .u8 (.ofNat 164))], b3_0, 3068, (.slice none 0 0), [], 3071⟩
set_option maxRecDepth 1000000 in
theorem o1213 : EntryOK Try.prog e1213 := Ax.part (K := sks) (l := []) mixed sks_ok trivial (by kernel_rfl)
noncomputable def e1215 : Entry := ⟨102, [(.agg #[(S 263 0 4 1180591620717411303428), (S 264 0 4 1180591620717411303425), (S 265 0 4 1180591620717411303425)]), (S 603 0 1 1180591620717411303425), (.int .u8 (.ofNat 165))], b3_0, 3073, (.slice none 0 0), [], 3076⟩
set_option maxRecDepth 1000000 in
theorem o1215 : EntryOK Try.prog e1215 := Ax.part (K := sks) (l := []) mixed sks_ok trivial (by kernel_rfl)
noncomputable def e1217 : Entry := ⟨102, [(.agg #[(S 263 0 4 1180591620717411303428), (S 264 0 4 1180591620717411303425), (S 265 0 4 1180591620717411303425)]), (S 603 0 1 1180591620717411303425), (.int .u8 (.ofNat 166))], b3_0, 3078, (.slice none 0 0), [], 3081⟩
set_option maxRecDepth 1000000 in
theorem o1217 : EntryOK Try.prog e1217 := Ax.part (K := sks) (l := []) mixed sks_ok trivial (by kernel_rfl)
noncomputable def e1219 : Entry := ⟨102, [(.agg #[(S 263 0 4 1180591620717411303428), (S 264 0 4 1180591620717411303425), (S 265 0 4 1180591620717411303425)]), (S 603 0 1 1180591620717411303425), (.int .u8 (.ofNat 167))], b3_0, 3083, (.slice none 0 0), [], 3086⟩
set_option maxRecDepth 1000000 in
theorem o1219 : EntryOK Try.prog e1219 := Ax.part (K := sks) (l := []) mixed sks_ok trivial (by kernel_rfl)
noncomputable def e1221 : Entry := ⟨102, [(.agg #[(S 263 0 4 1180591620717411303428), (S 264 0 4 1180591620717411303425), (S 265 0 4 1180591620717411303425)]), (S 603 0 1 1180591620717411303425), (.int .u8 (.ofNat 168))], b3_0, 3088, (.slice none 0 0), [], 3091⟩
set_option maxRecDepth 1000000 in
theorem o1221 : EntryOK Try.prog e1221 := Ax.part (K := sks) (l := []) mixed sks_ok trivial (by kernel_rfl)
noncomputable def e1223 : Entry := ⟨102, [(.agg #[(S 263 0 4 1180591620717411303428), (S 264 0 4 1180591620717411303425), (S 265 0 4 1180591620717411303425)]), (S 603 0 1 1180591620717411303425), (.int .u8 (.ofNat 169))], b3_0, 3093, (.slice none 0 0), [], 3096⟩
set_option maxRecDepth 1000000 in
theorem o1223 : EntryOK Try.prog e1223 := Ax.part (K := sks) (l := []) mixed sks_ok trivial (by kernel_rfl)
noncomputable def e1225 : Entry := ⟨102, [(.agg #[(S 263 0 4 1180591620717411303428), (S 264 0 4 1180591620717411303425), (S 265 0 4 1180591620717411303425)]), (S 603 0 1 1180591620717411303425), (.int .u8 (.ofNat 170))], b3_0, 3098, (.slice none 0 0), [], 3101⟩
set_option maxRecDepth 1000000 in
theorem o1225 : EntryOK Try.prog e1225 := Ax.part (K := sks) (l := []) mixed sks_ok trivial (by kernel_rfl)
noncomputable def e1227 : Entry := ⟨102, [(.agg #[(S 263 0 4 1180591620717411303428), (S 264 0 4 1180591620717411303425), (S 265 0 4 1180591620717411303425)]), (S 603 0 1 1180591620717411303425), (.int .u8 (.ofNat 171))], b3_0, 3103, (.slice none 0 0), [], 3106⟩
set_option maxRecDepth 1000000 in
theorem o1227 : EntryOK Try.prog e1227 := Ax.part (K := sks) (l := []) mixed sks_ok trivial (by kernel_rfl)
noncomputable def e1229 : Entry := ⟨102, [(.agg #[(S 263 0 4 1180591620717411303428), (S 264 0 4 1180591620717411303425), (S 265 0 4 1180591620717411303425)]), (S 603 0 1 1180591620717411303425), (.int .u8 (.ofNat 172))], b3_0, 3108, (.slice none 0 0), [], 3111⟩
set_option maxRecDepth 1000000 in
theorem o1229 : EntryOK Try.prog e1229 := Ax.part (K := sks) (l := []) mixed sks_ok trivial (by kernel_rfl)
noncomputable def e1231 : Entry := ⟨102, [(.agg #[(S 263 0 4 1180591620717411303428), (S 264 0 4 1180591620717411303425), (S 265 0 4 1180591620717411303425)]), (S 603 0 1 1180591620717411303425), (.int .u8 (.ofNat 173))], b3_0, 3113, (.slice none 0 0), [], 3116⟩
set_option maxRecDepth 1000000 in
theorem o1231 : EntryOK Try.prog e1231 := Ax.part (K := sks) (l := []) mixed sks_ok trivial (by kernel_rfl)
noncomputable def e1233 : Entry := ⟨102, [(.agg #[(S 263 0 4 1180591620717411303428), (S 264 0 4 1180591620717411303425), (S 265 0 4 1180591620717411303425)]), (S 603 0 1 1180591620717411303425), (.int .u8 (.ofNat 174))], b3_0, 3118, (.slice none 0 0), [], 3121⟩
set_option maxRecDepth 1000000 in
theorem o1233 : EntryOK Try.prog e1233 := Ax.part (K := sks) (l := []) mixed sks_ok trivial (by kernel_rfl)
noncomputable def e1235 : Entry := ⟨102, [(.agg #[(S 263 0 4 1180591620717411303428), (S 264 0 4 1180591620717411303425), (S 265 0 4 1180591620717411303425)]), (S 603 0 1 1180591620717411303425), (.int .u8 (.ofNat 175))], b3_0, 3123, (.slice none 0 0), [], 3126⟩
set_option maxRecDepth 1000000 in
theorem o1235 : EntryOK Try.prog e1235 := Ax.part (K := sks) (l := []) mixed sks_ok trivial (by kernel_rfl)
noncomputable def e1237 : Entry := ⟨102, [(.agg #[(S 263 0 4 1180591620717411303428), (S 264 0 4 1180591620717411303425), (S 265 0 4 1180591620717411303425)]), (S 603 0 1 1180591620717411303425), (.int .u8 (.ofNat 176))], b3_0, 3128, (.slice none 0 0), [], 3131⟩
set_option maxRecDepth 1000000 in
theorem o1237 : EntryOK Try.prog e1237 := Ax.part (K := sks) (l := []) mixed sks_ok trivial (by kernel_rfl)
noncomputable def e1239 : Entry := ⟨102, [(.agg #[(S 263 0 4 1180591620717411303428), (S 264 0 4 1180591620717411303425), (S 265 0 4 1180591620717411303425)]), (S 603 0 1 1180591620717411303425), (.int .u8 (.ofNat 177))], b3_0, 3133, (.slice none 0 0), [], 3136⟩
set_option maxRecDepth 1000000 in
theorem o1239 : EntryOK Try.prog e1239 := Ax.part (K := sks) (l := []) mixed sks_ok trivial (by kernel_rfl)
noncomputable def e1241 : Entry := ⟨102, [(.agg #[(S 263 0 4 1180591620717411303428), (S 264 0 4 1180591620717411303425), (S 265 0 4 1180591620717411303425)]), (S 603 0 1 1180591620717411303425), (.int .u8 (.ofNat 178))], b3_0, 3138, (.slice none 0 0), [], 3141⟩
set_option maxRecDepth 1000000 in
theorem o1241 : EntryOK Try.prog e1241 := Ax.part (K := sks) (l := []) mixed sks_ok trivial (by kernel_rfl)
noncomputable def e1243 : Entry := ⟨102, [(.agg #[(S 263 0 4 1180591620717411303428), (S 264 0 4 1180591620717411303425), (S 265 0 4 1180591620717411303425)]), (S 603 0 1 1180591620717411303425), (.int .u8 (.ofNat 179))], b3_0, 3143, (.slice none 0 0), [], 3146⟩
set_option maxRecDepth 1000000 in
theorem o1243 : EntryOK Try.prog e1243 := Ax.part (K := sks) (l := []) mixed sks_ok trivial (by kernel_rfl)
noncomputable def e1245 : Entry := ⟨102, [(.agg #[(S 263 0 4 1180591620717411303428), (S 264 0 4 1180591620717411303425), (S 265 0 4 1180591620717411303425)]), (S 603 0 1 1180591620717411303425), (.int .u8 (.ofNat 180))], b3_0, 3148, (.slice none 0 0), [], 3151⟩
set_option maxRecDepth 1000000 in
theorem o1245 : EntryOK Try.prog e1245 := Ax.part (K := sks) (l := []) mixed sks_ok trivial (by kernel_rfl)
noncomputable def e1247 : Entry := ⟨102, [(.agg #[(S 263 0 4 1180591620717411303428), (S 264 0 4 1180591620717411303425), (S 265 0 4 1180591620717411303425)]), (S 603 0 1 1180591620717411303425), (.int .u8 (.ofNat 181))], b3_0, 3153, (.slice none 0 0), [], 3156⟩
set_option maxRecDepth 1000000 in
theorem o1247 : EntryOK Try.prog e1247 := Ax.part (K := sks) (l := []) mixed sks_ok trivial (by kernel_rfl)
noncomputable def e1249 : Entry := ⟨102, [(.agg #[(S 263 0 4 1180591620717411303428), (S 264 0 4 1180591620717411303425), (S 265 0 4 1180591620717411303425)]), (S 603 0 1 1180591620717411303425), (.int .u8 (.ofNat 182))], b3_0, 3158, (.slice none 0 0), [], 3161⟩
set_option maxRecDepth 1000000 in
theorem o1249 : EntryOK Try.prog e1249 := Ax.part (K := sks) (l := []) mixed sks_ok trivial (by kernel_rfl)
noncomputable def e1251 : Entry := ⟨102, [(.agg #[(S 263 0 4 1180591620717411303428), (S 264 0 4 1180591620717411303425), (S 265 0 4 1180591620717411303425)]), (S 603 0 1 1180591620717411303425), (.int .u8 (.ofNat 183))], b3_0, 3163, (.slice none 0 0), [], 3166⟩
set_option maxRecDepth 1000000 in
theorem o1251 : EntryOK Try.prog e1251 := Ax.part (K := sks) (l := []) mixed sks_ok trivial (by kernel_rfl)
noncomputable def e1253 : Entry := ⟨102, [(.agg #[(S 263 0 4 1180591620717411303428), (S 264 0 4 1180591620717411303425), (S 265 0 4 1180591620717411303425)]), (S 603 0 1 1180591620717411303425), (.int .u8 (.ofNat 184))], b3_0, 3168, (.slice none 0 0), [], 3171⟩
set_option maxRecDepth 1000000 in
theorem o1253 : EntryOK Try.prog e1253 := Ax.part (K := sks) (l := []) mixed sks_ok trivial (by kernel_rfl)
noncomputable def e1255 : Entry := ⟨102, [(.agg #[(S 263 0 4 1180591620717411303428), (S 264 0 4 1180591620717411303425), (S 265 0 4 1180591620717411303425)]), (S 603 0 1 1180591620717411303425), (.int .u8 (.ofNat 185))], b3_0, 3173, (.slice none 0 0), [], 3176⟩
set_option maxRecDepth 1000000 in
theorem o1255 : EntryOK Try.prog e1255 := Ax.part (K := sks) (l := []) mixed sks_ok trivial (by kernel_rfl)
noncomputable def e1257 : Entry := ⟨102, [(.agg #[(S 263 0 4 1180591620717411303428), (S 264 0 4 1180591620717411303425), (S 265 0 4 1180591620717411303425)]), (S 603 0 1 1180591620717411303425), (.int .u8 (.ofNat 186))], b3_0, 3178, (.slice none 0 0), [], 3181⟩
set_option maxRecDepth 1000000 in
theorem o1257 : EntryOK Try.prog e1257 := Ax.part (K := sks) (l := []) mixed sks_ok trivial (by kernel_rfl)
noncomputable def e1259 : Entry := ⟨102, [(.agg #[(S 263 0 4 1180591620717411303428), (S 264 0 4 1180591620717411303425), (S 265 0 4 1180591620717411303425)]), (S 603 0 1 1180591620717411303425), (.int .u8 (.ofNat 187))], b3_0, 3183, (.slice none 0 0), [], 3186⟩
set_option maxRecDepth 1000000 in
theorem o1259 : EntryOK Try.prog e1259 := Ax.part (K := sks) (l := []) mixed sks_ok trivial (by kernel_rfl)
noncomputable def e1261 : Entry := ⟨102, [(.agg #[(S 263 0 4 1180591620717411303428), (S 264 0 4 1180591620717411303425), (S 265 0 4 1180591620717411303425)]), (S 603 0 1 1180591620717411303425), (.int .u8 (.ofNat 188))], b3_0, 3188, (.slice none 0 0), [], 3191⟩
set_option maxRecDepth 1000000 in
theorem o1261 : EntryOK Try.prog e1261 := Ax.part (K := sks) (l := []) mixed sks_ok trivial (by kernel_rfl)
noncomputable def e1263 : Entry := ⟨102, [(.agg #[(S 263 0 4 1180591620717411303428), (S 264 0 4 1180591620717411303425), (S 265 0 4 1180591620717411303425)]), (S 603 0 1 1180591620717411303425), (.int .u8 (.ofNat 189))], b3_0, 3193, (.slice none 0 0), [], 3196⟩
set_option maxRecDepth 1000000 in
theorem o1263 : EntryOK Try.prog e1263 := Ax.part (K := sks) (l := []) mixed sks_ok trivial (by kernel_rfl)
noncomputable def e1265 : Entry := ⟨102, [(.agg #[(S 263 0 4 1180591620717411303428), (S 264 0 4 1180591620717411303425), (S 265 0 4 1180591620717411303425)]), (S 603 0 1 1180591620717411303425), (.int .u8 (.ofNat 190))], b3_0, 3198, (.slice none 0 0), [], 3201⟩
set_option maxRecDepth 1000000 in
theorem o1265 : EntryOK Try.prog e1265 := Ax.part (K := sks) (l := []) mixed sks_ok trivial (by kernel_rfl)
noncomputable def e1267 : Entry := ⟨102, [(.agg #[(S 263 0 4 1180591620717411303428), (S 264 0 4 1180591620717411303425), (S 265 0 4 1180591620717411303425)]), (S 603 0 1 1180591620717411303425), (.int .u8 (.ofNat 191))], b3_0, 3203, (.slice none 0 0), [], 3206⟩
set_option maxRecDepth 1000000 in
theorem o1267 : EntryOK Try.prog e1267 := Ax.part (K := sks) (l := []) mixed sks_ok trivial (by kernel_rfl)
noncomputable def e1269 : Entry := ⟨102, [(.agg #[(S 263 0 4 1180591620717411303428), (S 264 0 4 1180591620717411303425), (S 265 0 4 1180591620717411303425)]), (S 603 0 1 1180591620717411303425), (.int .u8 (.ofNat 192))], b3_0, 3208, (.slice none 0 0), [], 3211⟩
set_option maxRecDepth 1000000 in
theorem o1269 : EntryOK Try.prog e1269 := Ax.part (K := sks) (l := []) mixed sks_ok trivial (by kernel_rfl)
noncomputable def e1271 : Entry := ⟨102, [(.agg #[(S 263 0 4 1180591620717411303428), (S 264 0 4 1180591620717411303425), (S 265 0 4 1180591620717411303425)]), (S 603 0 1 1180591620717411303425), (.int .u8 (.ofNat 193))], b3_0, 3213, (.slice none 0 0), [], 3216⟩
set_option maxRecDepth 1000000 in
theorem o1271 : EntryOK Try.prog e1271 := Ax.part (K := sks) (l := []) mixed sks_ok trivial (by kernel_rfl)
noncomputable def e1273 : Entry := ⟨102, [(.agg #[(S 263 0 4 1180591620717411303428), (S 264 0 4 1180591620717411303425), (S 265 0 4 1180591620717411303425)]), (S 603 0 1 1180591620717411303425), (.int .u8 (.ofNat 194))], b3_0, 3218, (.slice none 0 0), [], 3221⟩
set_option maxRecDepth 1000000 in
theorem o1273 : EntryOK Try.prog e1273 := Ax.part (K := sks) (l := []) mixed sks_ok trivial (by kernel_rfl)
noncomputable def e1275 : Entry := ⟨102, [(.agg #[(S 263 0 4 1180591620717411303428), (S 264 0 4 1180591620717411303425), (S 265 0 4 1180591620717411303425)]), (S 603 0 1 1180591620717411303425), (.int .u8 (.ofNat 195))], b3_0, 3223, (.slice none 0 0), [], 3226⟩
set_option maxRecDepth 1000000 in
theorem o1275 : EntryOK Try.prog e1275 := Ax.part (K := sks) (l := []) mixed sks_ok trivial (by kernel_rfl)
noncomputable def e1277 : Entry := ⟨102, [(.agg #[(S 263 0 4 1180591620717411303428), (S 264 0 4 1180591620717411303425), (S 265 0 4 1180591620717411303425)]), (S 603 0 1 1180591620717411303425), (.int .u8 (.ofNat 196))], b3_0, 3228, (.slice none 0 0), [], 3231⟩
set_option maxRecDepth 1000000 in
theorem o1277 : EntryOK Try.prog e1277 := Ax.part (K := sks) (l := []) mixed sks_ok trivial (by kernel_rfl)
noncomputable def e1279 : Entry := ⟨102, [(.agg #[(S 263 0 4 1180591620717411303428), (S 264 0 4 1180591620717411303425), (S 265 0 4 1180591620717411303425)]), (S 603 0 1 1180591620717411303425), (.int .u8 (.ofNat 197))], b3_0, 3233, (.slice none 0 0), [], 3236⟩
set_option maxRecDepth 1000000 in
theorem o1279 : EntryOK Try.prog e1279 := Ax.part (K := sks) (l := []) mixed sks_ok trivial (by kernel_rfl)
noncomputable def e1281 : Entry := ⟨102, [(.agg #[(S 263 0 4 1180591620717411303428), (S 264 0 4 1180591620717411303425), (S 265 0 4 1180591620717411303425)]), (S 603 0 1 1180591620717411303425), (.int .u8 (.ofNat 198))], b3_0, 3238, (.slice none 0 0), [], 3241⟩
set_option maxRecDepth 1000000 in
theorem o1281 : EntryOK Try.prog e1281 := Ax.part (K := sks) (l := []) mixed sks_ok trivial (by kernel_rfl)
noncomputable def e1283 : Entry := ⟨102, [(.agg #[(S 263 0 4 1180591620717411303428), (S 264 0 4 1180591620717411303425), (S 265 0 4 1180591620717411303425)]), (S 603 0 1 1180591620717411303425), (.int .u8 (.ofNat 199))], b3_0, 3243, (.slice none 0 0), [], 3246⟩
set_option maxRecDepth 1000000 in
theorem o1283 : EntryOK Try.prog e1283 := Ax.part (K := sks) (l := []) mixed sks_ok trivial (by kernel_rfl)
noncomputable def e1285 : Entry := ⟨102, [(.agg #[(S 263 0 4 1180591620717411303428), (S 264 0 4 1180591620717411303425), (S 265 0 4 1180591620717411303425)]), (S 603 0 1 1180591620717411303425), (.int .u8 (.ofNat 200))], b3_0, 3248, (.slice none 0 0), [], 3251⟩
set_option maxRecDepth 1000000 in
theorem o1285 : EntryOK Try.prog e1285 := Ax.part (K := sks) (l := []) mixed sks_ok trivial (by kernel_rfl)
noncomputable def e1287 : Entry := ⟨102, [(.agg #[(S 263 0 4 1180591620717411303428), (S 264 0 4 1180591620717411303425), (S 265 0 4 1180591620717411303425)]), (S 603 0 1 1180591620717411303425), (.int .u8 (.ofNat 201))], b3_0, 3253, (.slice none 0 0), [], 3256⟩
set_option maxRecDepth 1000000 in
theorem o1287 : EntryOK Try.prog e1287 := Ax.part (K := sks) (l := []) mixed sks_ok trivial (by kernel_rfl)
noncomputable def e1289 : Entry := ⟨102, [(.agg #[(S 263 0 4 1180591620717411303428), (S 264 0 4 1180591620717411303425), (S 265 0 4 1180591620717411303425)]), (S 603 0 1 1180591620717411303425), (.int .u8 (.ofNat 202))], b3_0, 3258, (.slice none 0 0), [], 3261⟩
set_option maxRecDepth 1000000 in
theorem o1289 : EntryOK Try.prog e1289 := Ax.part (K := sks) (l := []) mixed sks_ok trivial (by kernel_rfl)
noncomputable def e1291 : Entry := ⟨102, [(.agg #[(S 263 0 4 1180591620717411303428), (S 264 0 4 1180591620717411303425), (S 265 0 4 1180591620717411303425)]), (S 603 0 1 1180591620717411303425), (.int .u8 (.ofNat 203))], b3_0, 3263, (.slice none 0 0), [], 3266⟩
set_option maxRecDepth 1000000 in
theorem o1291 : EntryOK Try.prog e1291 := Ax.part (K := sks) (l := []) mixed sks_ok trivial (by kernel_rfl)
noncomputable def e1293 : Entry := ⟨102, [(.agg #[(S 263 0 4 1180591620717411303428), (S 264 0 4 1180591620717411303425), (S 265 0 4 1180591620717411303425)]), (S 603 0 1 1180591620717411303425), (.int .u8 (.ofNat 204))], b3_0, 3268, (.slice none 0 0), [], 3271⟩
set_option maxRecDepth 1000000 in
theorem o1293 : EntryOK Try.prog e1293 := Ax.part (K := sks) (l := []) mixed sks_ok trivial (by kernel_rfl)
noncomputable def e1295 : Entry := ⟨102, [(.agg #[(S 263 0 4 1180591620717411303428), (S 264 0 4 1180591620717411303425), (S 265 0 4 1180591620717411303425)]), (S 603 0 1 1180591620717411303425), (.int .u8 (.ofNat 205))], b3_0, 3273, (.slice none 0 0), [], 3276⟩
set_option maxRecDepth 1000000 in
theorem o1295 : EntryOK Try.prog e1295 := Ax.part (K := sks) (l := []) mixed sks_ok trivial (by kernel_rfl)
noncomputable def e1297 : Entry := ⟨102, [(.agg #[(S 263 0 4 1180591620717411303428), (S 264 0 4 1180591620717411303425), (S 265 0 4 1180591620717411303425)]), (S 603 0 1 1180591620717411303425), (.int .u8 (.ofNat 206))], b3_0, 3278, (.slice none 0 0), [], 3281⟩
set_option maxRecDepth 1000000 in
theorem o1297 : EntryOK Try.prog e1297 := Ax.part (K := sks) (l := []) mixed sks_ok trivial (by kernel_rfl)
noncomputable def e1299 : Entry := ⟨102, [(.agg #[(S 263 0 4 1180591620717411303428), (S 264 0 4 1180591620717411303425), (S 265 0 4 1180591620717411303425)]), (S 603 0 1 1180591620717411303425), (.int .u8 (.ofNat 207))], b3_0, 3283, (.slice none 0 0), [], 3286⟩
set_option maxRecDepth 1000000 in
theorem o1299 : EntryOK Try.prog e1299 := Ax.part (K := sks) (l := []) mixed sks_ok trivial (by kernel_rfl)
noncomputable def e1301 : Entry := ⟨102, [(.agg #[(S 263 0 4 1180591620717411303428), (S 264 0 4 1180591620717411303425), (S 265 0 4 1180591620717411303425)]), (S 603 0 1 1180591620717411303425), (.int .u8 (.ofNat 208))], b3_0, 3288, (.slice none 0 0), [], 3291⟩
set_option maxRecDepth 1000000 in
theorem o1301 : EntryOK Try.prog e1301 := Ax.part (K := sks) (l := []) mixed sks_ok trivial (by kernel_rfl)
noncomputable def e1303 : Entry := ⟨102, [(.agg #[(S 263 0 4 1180591620717411303428), (S 264 0 4 1180591620717411303425), (S 265 0 4 1180591620717411303425)]), (S 603 0 1 1180591620717411303425), (.int .u8 (.ofNat 209))], b3_0, 3293, (.slice none 0 0), [], 3296⟩
set_option maxRecDepth 1000000 in
theorem o1303 : EntryOK Try.prog e1303 := Ax.part (K := sks) (l := []) mixed sks_ok trivial (by kernel_rfl)
noncomputable def e1305 : Entry := ⟨102, [(.agg #[(S 263 0 4 1180591620717411303428), (S 264 0 4 1180591620717411303425), (S 265 0 4 1180591620717411303425)]), (S 603 0 1 1180591620717411303425), (.int .u8 (.ofNat 210))], b3_0, 3298, (.slice none 0 0), [], 3301⟩
set_option maxRecDepth 1000000 in
theorem o1305 : EntryOK Try.prog e1305 := Ax.part (K := sks) (l := []) mixed sks_ok trivial (by kernel_rfl)
noncomputable def e1307 : Entry := ⟨102, [(.agg #[(S 263 0 4 1180591620717411303428), (S 264 0 4 1180591620717411303425), (S 265 0 4 1180591620717411303425)]), (S 603 0 1 1180591620717411303425), (.int .u8 (.ofNat 211))], b3_0, 3303, (.slice none 0 0), [], 3306⟩
set_option maxRecDepth 1000000 in
theorem o1307 : EntryOK Try.prog e1307 := Ax.part (K := sks) (l := []) mixed sks_ok trivial (by kernel_rfl)
noncomputable def e1309 : Entry := ⟨102, [(.agg #[(S 263 0 4 1180591620717411303428), (S 264 0 4 1180591620717411303425), (S 265 0 4 1180591620717411303425)]), (S 603 0 1 1180591620717411303425), (.int .u8 (.ofNat 212))], b3_0, 3308, (.slice none 0 0), [], 3311⟩
set_option maxRecDepth 1000000 in
theorem o1309 : EntryOK Try.prog e1309 := Ax.part (K := sks) (l := []) mixed sks_ok trivial (by kernel_rfl)
noncomputable def e1311 : Entry := ⟨102, [(.agg #[(S 263 0 4 1180591620717411303428), (S 264 0 4 1180591620717411303425), (S 265 0 4 1180591620717411303425)]), (S 603 0 1 1180591620717411303425), (.int .u8 (.ofNat 213))], b3_0, 3313, (.slice none 0 0), [], 3316⟩
set_option maxRecDepth 1000000 in
theorem o1311 : EntryOK Try.prog e1311 := Ax.part (K := sks) (l := []) mixed sks_ok trivial (by kernel_rfl)
noncomputable def e1313 : Entry := ⟨102, [(.agg #[(S 263 0 4 1180591620717411303428), (S 264 0 4 1180591620717411303425), (S 265 0 4 1180591620717411303425)]), (S 603 0 1 1180591620717411303425), (.int .u8 (.ofNat 214))], b3_0, 3318, (.slice none 0 0), [], 3321⟩
set_option maxRecDepth 1000000 in
theorem o1313 : EntryOK Try.prog e1313 := Ax.part (K := sks) (l := []) mixed sks_ok trivial (by kernel_rfl)
noncomputable def e1315 : Entry := ⟨102, [(.agg #[(S 263 0 4 1180591620717411303428), (S 264 0 4 1180591620717411303425), (S 265 0 4 1180591620717411303425)]), (S 603 0 1 1180591620717411303425), (.int .u8 (.ofNat 215))], b3_0, 3323, (.slice none 0 0), [], 3326⟩
set_option maxRecDepth 1000000 in
theorem o1315 : EntryOK Try.prog e1315 := Ax.part (K := sks) (l := []) mixed sks_ok trivial (by kernel_rfl)
noncomputable def e1317 : Entry := ⟨102, [(.agg #[(S 263 0 4 1180591620717411303428), (S 264 0 4 1180591620717411303425), (S 265 0 4 1180591620717411303425)]), (S 603 0 1 1180591620717411303425), (.int .u8 (.ofNat 216))], b3_0, 3328, (.slice none 0 0), [], 3331⟩
set_option maxRecDepth 1000000 in
theorem o1317 : EntryOK Try.prog e1317 := Ax.part (K := sks) (l := []) mixed sks_ok trivial (by kernel_rfl)
noncomputable def e1319 : Entry := ⟨102, [(.agg #[(S 263 0 4 1180591620717411303428), (S 264 0 4 1180591620717411303425), (S 265 0 4 1180591620717411303425)]), (S 603 0 1 1180591620717411303425), (.int .u8 (.ofNat 217))], b3_0, 3333, (.slice none 0 0), [], 3336⟩
set_option maxRecDepth 1000000 in
theorem o1319 : EntryOK Try.prog e1319 := Ax.part (K := sks) (l := []) mixed sks_ok trivial (by kernel_rfl)
noncomputable def e1321 : Entry := ⟨102, [(.agg #[(S 263 0 4 1180591620717411303428), (S 264 0 4 1180591620717411303425), (S 265 0 4 1180591620717411303425)]), (S 603 0 1 1180591620717411303425), (.int .u8 (.ofNat 218))], b3_0, 3338, (.slice none 0 0), [], 3341⟩
set_option maxRecDepth 1000000 in
theorem o1321 : EntryOK Try.prog e1321 := Ax.part (K := sks) (l := []) mixed sks_ok trivial (by kernel_rfl)
noncomputable def e1323 : Entry := ⟨102, [(.agg #[(S 263 0 4 1180591620717411303428), (S 264 0 4 1180591620717411303425), (S 265 0 4 1180591620717411303425)]), (S 603 0 1 1180591620717411303425), (.int .u8 (.ofNat 219))], b3_0, 3343, (.slice none 0 0), [], 3346⟩
set_option maxRecDepth 1000000 in
theorem o1323 : EntryOK Try.prog e1323 := Ax.part (K := sks) (l := []) mixed sks_ok trivial (by kernel_rfl)
noncomputable def e1325 : Entry := ⟨102, [(.agg #[(S 263 0 4 1180591620717411303428), (S 264 0 4 1180591620717411303425), (S 265 0 4 1180591620717411303425)]), (S 603 0 1 1180591620717411303425), (.int .u8 (.ofNat 220))], b3_0, 3348, (.slice none 0 0), [], 3351⟩
set_option maxRecDepth 1000000 in
theorem o1325 : EntryOK Try.prog e1325 := Ax.part (K := sks) (l := []) mixed sks_ok trivial (by kernel_rfl)
noncomputable def e1327 : Entry := ⟨102, [(.agg #[(S 263 0 4 1180591620717411303428), (S 264 0 4 1180591620717411303425), (S 265 0 4 1180591620717411303425)]), (S 603 0 1 1180591620717411303425), (.int .u8 (.ofNat 221))], b3_0, 3353, (.slice none 0 0), [], 3356⟩
set_option maxRecDepth 1000000 in
theorem o1327 : EntryOK Try.prog e1327 := Ax.part (K := sks) (l := []) mixed sks_ok trivial (by kernel_rfl)
noncomputable def e1329 : Entry := ⟨102, [(.agg #[(S 263 0 4 1180591620717411303428), (S 264 0 4 1180591620717411303425), (S 265 0 4 1180591620717411303425)]), (S 603 0 1 1180591620717411303425), (.int .u8 (.ofNat 222))], b3_0, 3358, (.slice none 0 0), [], 3361⟩
set_option maxRecDepth 1000000 in
theorem o1329 : EntryOK Try.prog e1329 := Ax.part (K := sks) (l := []) mixed sks_ok trivial (by kernel_rfl)
noncomputable def e1331 : Entry := ⟨102, [(.agg #[(S 263 0 4 1180591620717411303428), (S 264 0 4 1180591620717411303425), (S 265 0 4 1180591620717411303425)]), (S 603 0 1 1180591620717411303425), (.int .u8 (.ofNat 223))], b3_0, 3363, (.slice none 0 0), [], 3366⟩
set_option maxRecDepth 1000000 in
theorem o1331 : EntryOK Try.prog e1331 := Ax.part (K := sks) (l := []) mixed sks_ok trivial (by kernel_rfl)
noncomputable def e1333 : Entry := ⟨102, [(.agg #[(S 263 0 4 1180591620717411303428), (S 264 0 4 1180591620717411303425), (S 265 0 4 1180591620717411303425)]), (S 603 0 1 1180591620717411303425), (.int .u8 (.ofNat 224))], b3_0, 3368, (.slice none 0 0), [], 3371⟩
set_option maxRecDepth 1000000 in
theorem o1333 : EntryOK Try.prog e1333 := Ax.part (K := sks) (l := []) mixed sks_ok trivial (by kernel_rfl)
noncomputable def e1335 : Entry := ⟨102, [(.agg #[(S 263 0 4 1180591620717411303428), (S 264 0 4 1180591620717411303425), (S 265 0 4 1180591620717411303425)]), (S 603 0 1 1180591620717411303425), (.int .u8 (.ofNat 225))], b3_0, 3373, (.slice none 0 0), [], 3376⟩
set_option maxRecDepth 1000000 in
theorem o1335 : EntryOK Try.prog e1335 := Ax.part (K := sks) (l := []) mixed sks_ok trivial (by kernel_rfl)
noncomputable def e1337 : Entry := ⟨102, [(.agg #[(S 263 0 4 1180591620717411303428), (S 264 0 4 1180591620717411303425), (S 265 0 4 1180591620717411303425)]), (S 603 0 1 1180591620717411303425), (.int .u8 (.ofNat 226))], b3_0, 3378, (.slice none 0 0), [], 3381⟩
set_option maxRecDepth 1000000 in
theorem o1337 : EntryOK Try.prog e1337 := Ax.part (K := sks) (l := []) mixed sks_ok trivial (by kernel_rfl)
noncomputable def e1339 : Entry := ⟨102, [(.agg #[(S 263 0 4 1180591620717411303428), (S 264 0 4 1180591620717411303425), (S 265 0 4 1180591620717411303425)]), (S 603 0 1 1180591620717411303425), (.int .u8 (.ofNat 227))], b3_0, 3383, (.slice none 0 0), [], 3386⟩
set_option maxRecDepth 1000000 in
theorem o1339 : EntryOK Try.prog e1339 := Ax.part (K := sks) (l := []) mixed sks_ok trivial (by kernel_rfl)
noncomputable def e1341 : Entry := ⟨102, [(.agg #[(S 263 0 4 1180591620717411303428), (S 264 0 4 1180591620717411303425), (S 265 0 4 1180591620717411303425)]), (S 603 0 1 1180591620717411303425), (.int .u8 (.ofNat 228))], b3_0, 3388, (.slice none 0 0), [], 3391⟩
set_option maxRecDepth 1000000 in
theorem o1341 : EntryOK Try.prog e1341 := Ax.part (K := sks) (l := []) mixed sks_ok trivial (by kernel_rfl)
noncomputable def e1343 : Entry := ⟨102, [(.agg #[(S 263 0 4 1180591620717411303428), (S 264 0 4 1180591620717411303425), (S 265 0 4 1180591620717411303425)]), (S 603 0 1 1180591620717411303425), (.int .u8 (.ofNat 229))], b3_0, 3393, (.slice none 0 0), [], 3396⟩
set_option maxRecDepth 1000000 in
theorem o1343 : EntryOK Try.prog e1343 := Ax.part (K := sks) (l := []) mixed sks_ok trivial (by kernel_rfl)
noncomputable def e1345 : Entry := ⟨102, [(.agg #[(S 263 0 4 1180591620717411303428), (S 264 0 4 1180591620717411303425), (S 265 0 4 1180591620717411303425)]), (S 603 0 1 1180591620717411303425), (.int .u8 (.ofNat 230))], b3_0, 3398, (.slice none 0 0), [], 3401⟩
set_option maxRecDepth 1000000 in
theorem o1345 : EntryOK Try.prog e1345 := Ax.part (K := sks) (l := []) mixed sks_ok trivial (by kernel_rfl)
noncomputable def e1347 : Entry := ⟨102, [(.agg #[(S 263 0 4 1180591620717411303428), (S 264 0 4 1180591620717411303425), (S 265 0 4 1180591620717411303425)]), (S 603 0 1 1180591620717411303425), (.int .u8 (.ofNat 231))], b3_0, 3403, (.slice none 0 0), [], 3406⟩
set_option maxRecDepth 1000000 in
theorem o1347 : EntryOK Try.prog e1347 := Ax.part (K := sks) (l := []) mixed sks_ok trivial (by kernel_rfl)
noncomputable def e1349 : Entry := ⟨102, [(.agg #[(S 263 0 4 1180591620717411303428), (S 264 0 4 1180591620717411303425), (S 265 0 4 1180591620717411303425)]), (S 603 0 1 1180591620717411303425), (.int .u8 (.ofNat 232))], b3_0, 3408, (.slice none 0 0), [], 3411⟩
set_option maxRecDepth 1000000 in
theorem o1349 : EntryOK Try.prog e1349 := Ax.part (K := sks) (l := []) mixed sks_ok trivial (by kernel_rfl)
noncomputable def e1351 : Entry := ⟨102, [(.agg #[(S 263 0 4 1180591620717411303428), (S 264 0 4 1180591620717411303425), (S 265 0 4 1180591620717411303425)]), (S 603 0 1 1180591620717411303425), (.int .u8 (.ofNat 233))], b3_0, 3413, (.slice none 0 0), [], 3416⟩
set_option maxRecDepth 1000000 in
theorem o1351 : EntryOK Try.prog e1351 := Ax.part (K := sks) (l := []) mixed sks_ok trivial (by kernel_rfl)
noncomputable def e1353 : Entry := ⟨102, [(.agg #[(S 263 0 4 1180591620717411303428), (S 264 0 4 1180591620717411303425), (S 265 0 4 1180591620717411303425)]), (S 603 0 1 1180591620717411303425), (.int .u8 (.ofNat 234))], b3_0, 3418, (.slice none 0 0), [], 3421⟩
set_option maxRecDepth 1000000 in
theorem o1353 : EntryOK Try.prog e1353 := Ax.part (K := sks) (l := []) mixed sks_ok trivial (by kernel_rfl)
noncomputable def e1355 : Entry := ⟨102, [(.agg #[(S 263 0 4 1180591620717411303428), (S 264 0 4 1180591620717411303425), (S 265 0 4 1180591620717411303425)]), (S 603 0 1 1180591620717411303425), (.int .u8 (.ofNat 235))], b3_0, 3423, (.slice none 0 0), [], 3426⟩
set_option maxRecDepth 1000000 in
theorem o1355 : EntryOK Try.prog e1355 := Ax.part (K := sks) (l := []) mixed sks_ok trivial (by kernel_rfl)
noncomputable def e1357 : Entry := ⟨102, [(.agg #[(S 263 0 4 1180591620717411303428), (S 264 0 4 1180591620717411303425), (S 265 0 4 1180591620717411303425)]), (S 603 0 1 1180591620717411303425), (.int .u8 (.ofNat 236))], b3_0, 3428, (.slice none 0 0), [], 3431⟩
set_option maxRecDepth 1000000 in
theorem o1357 : EntryOK Try.prog e1357 := Ax.part (K := sks) (l := []) mixed sks_ok trivial (by kernel_rfl)
noncomputable def e1359 : Entry := ⟨102, [(.agg #[(S 263 0 4 1180591620717411303428), (S 264 0 4 1180591620717411303425), (S 265 0 4 1180591620717411303425)]), (S 603 0 1 1180591620717411303425), (.int .u8 (.ofNat 237))], b3_0, 3433, (.slice none 0 0), [], 3436⟩
set_option maxRecDepth 1000000 in
theorem o1359 : EntryOK Try.prog e1359 := Ax.part (K := sks) (l := []) mixed sks_ok trivial (by kernel_rfl)
noncomputable def e1361 : Entry := ⟨102, [(.agg #[(S 263 0 4 1180591620717411303428), (S 264 0 4 1180591620717411303425), (S 265 0 4 1180591620717411303425)]), (S 603 0 1 1180591620717411303425), (.int .u8 (.ofNat 238))], b3_0, 3438, (.slice none 0 0), [], 3441⟩
set_option maxRecDepth 1000000 in
theorem o1361 : EntryOK Try.prog e1361 := Ax.part (K := sks) (l := []) mixed sks_ok trivial (by kernel_rfl)
noncomputable def e1363 : Entry := ⟨102, [(.agg #[(S 263 0 4 1180591620717411303428), (S 264 0 4 1180591620717411303425), (S 265 0 4 1180591620717411303425)]), (S 603 0 1 1180591620717411303425), (.int .u8 (.ofNat 239))], b3_0, 3443, (.slice none 0 0), [], 3446⟩
set_option maxRecDepth 1000000 in
theorem o1363 : EntryOK Try.prog e1363 := Ax.part (K := sks) (l := []) mixed sks_ok trivial (by kernel_rfl)
noncomputable def e1365 : Entry := ⟨102, [(.agg #[(S 263 0 4 1180591620717411303428), (S 264 0 4 1180591620717411303425), (S 265 0 4 1180591620717411303425)]), (S 603 0 1 1180591620717411303425), (.int .u8 (.ofNat 240))], b3_0, 3448, (.slice none 0 0), [], 3451⟩
set_option maxRecDepth 1000000 in
theorem o1365 : EntryOK Try.prog e1365 := Ax.part (K := sks) (l := []) mixed sks_ok trivial (by kernel_rfl)
noncomputable def e1367 : Entry := ⟨102, [(.agg #[(S 263 0 4 1180591620717411303428), (S 264 0 4 1180591620717411303425), (S 265 0 4 1180591620717411303425)]), (S 603 0 1 1180591620717411303425), (.int .u8 (.ofNat 241))], b3_0, 3453, (.slice none 0 0), [], 3456⟩
set_option maxRecDepth 1000000 in
theorem o1367 : EntryOK Try.prog e1367 := Ax.part (K := sks) (l := []) mixed sks_ok trivial (by kernel_rfl)
noncomputable def e1369 : Entry := ⟨102, [(.agg #[(S 263 0 4 1180591620717411303428), (S 264 0 4 1180591620717411303425), (S 265 0 4 1180591620717411303425)]), (S 603 0 1 1180591620717411303425), (.int .u8 (.ofNat 242))], b3_0, 3458, (.slice none 0 0), [], 3461⟩
set_option maxRecDepth 1000000 in
theorem o1369 : EntryOK Try.prog e1369 := Ax.part (K := sks) (l := []) mixed sks_ok trivial (by kernel_rfl)
noncomputable def e1371 : Entry := ⟨102, [(.agg #[(S 263 0 4 1180591620717411303428), (S 264 0 4 1180591620717411303425), (S 265 0 4 1180591620717411303425)]), (S 603 0 1 1180591620717411303425), (.int .u8 (.ofNat 243))], b3_0, 3463, (.slice none 0 0), [], 3466⟩
set_option maxRecDepth 1000000 in
theorem o1371 : EntryOK Try.prog e1371 := Ax.part (K := sks) (l := []) mixed sks_ok trivial (by kernel_rfl)
noncomputable def e1373 : Entry := ⟨102, [(.agg #[(S 263 0 4 1180591620717411303428), (S 264 0 4 1180591620717411303425), (S 265 0 4 1180591620717411303425)]), (S 603 0 1 1180591620717411303425), (.int .u8 (.ofNat 244))], b3_0, 3468, (.slice none 0 0), [], 3471⟩
set_option maxRecDepth 1000000 in
theorem o1373 : EntryOK Try.prog e1373 := Ax.part (K := sks) (l := []) mixed sks_ok trivial (by kernel_rfl)
noncomputable def e1375 : Entry := ⟨102, [(.agg #[(S 263 0 4 1180591620717411303428), (S 264 0 4 1180591620717411303425), (S 265 0 4 1180591620717411303425)]), (S 603 0 1 1180591620717411303425), (.int .u8 (.ofNat 245))], b3_0, 3473, (.slice none 0 0), [], 3476⟩
set_option maxRecDepth 1000000 in
theorem o1375 : EntryOK Try.prog e1375 := Ax.part (K := sks) (l := []) mixed sks_ok trivial (by kernel_rfl)
noncomputable def e1377 : Entry := ⟨102, [(.agg #[(S 263 0 4 1180591620717411303428), (S 264 0 4 1180591620717411303425), (S 265 0 4 1180591620717411303425)]), (S 603 0 1 1180591620717411303425), (.int .u8 (.ofNat 246))], b3_0, 3478, (.slice none 0 0), [], 3481⟩
set_option maxRecDepth 1000000 in
theorem o1377 : EntryOK Try.prog e1377 := Ax.part (K := sks) (l := []) mixed sks_ok trivial (by kernel_rfl)
noncomputable def e1379 : Entry := ⟨102, [(.agg #[(S 263 0 4 1180591620717411303428), (S 264 0 4 1180591620717411303425), (S 265 0 4 1180591620717411303425)]), (S 603 0 1 1180591620717411303425), (.int .u8 (.ofNat 247))], b3_0, 3483, (.slice none 0 0), [], 3486⟩
set_option maxRecDepth 1000000 in
theorem o1379 : EntryOK Try.prog e1379 := Ax.part (K := sks) (l := []) mixed sks_ok trivial (by kernel_rfl)
noncomputable def e1381 : Entry := ⟨102, [(.agg #[(S 263 0 4 1180591620717411303428), (S 264 0 4 1180591620717411303425), (S 265 0 4 1180591620717411303425)]), (S 603 0 1 1180591620717411303425), (.int .u8 (.ofNat 248))], b3_0, 3488, (.slice none 0 0), [], 3491⟩
set_option maxRecDepth 1000000 in
theorem o1381 : EntryOK Try.prog e1381 := Ax.part (K := sks) (l := []) mixed sks_ok trivial (by kernel_rfl)
noncomputable def e1383 : Entry := ⟨102, [(.agg #[(S 263 0 4 1180591620717411303428), (S 264 0 4 1180591620717411303425), (S 265 0 4 1180591620717411303425)]), (S 603 0 1 1180591620717411303425), (.int .u8 (.ofNat 249))], b3_0, 3493, (.slice none 0 0), [], 3496⟩
set_option maxRecDepth 1000000 in
theorem o1383 : EntryOK Try.prog e1383 := Ax.part (K := sks) (l := []) mixed sks_ok trivial (by kernel_rfl)
noncomputable def e1385 : Entry := ⟨102, [(.agg #[(S 263 0 4 1180591620717411303428), (S 264 0 4 1180591620717411303425), (S 265 0 4 1180591620717411303425)]), (S 603 0 1 1180591620717411303425), (.int .u8 (.ofNat 250))], b3_0, 3498, (.slice none 0 0), [], 3501⟩
set_option maxRecDepth 1000000 in
theorem o1385 : EntryOK Try.prog e1385 := Ax.part (K := sks) (l := []) mixed sks_ok trivial (by kernel_rfl)
noncomputable def e1387 : Entry := ⟨102, [(.agg #[(S 263 0 4 1180591620717411303428), (S 264 0 4 1180591620717411303425), (S 265 0 4 1180591620717411303425)]), (S 603 0 1 1180591620717411303425), (.int .u8 (.ofNat 251))], b3_0, 3503, (.slice none 0 0), [], 3506⟩
set_option maxRecDepth 1000000 in
theorem o1387 : EntryOK Try.prog e1387 := Ax.part (K := sks) (l := []) mixed sks_ok trivial (by kernel_rfl)
noncomputable def e1389 : Entry := ⟨102, [(.agg #[(S 263 0 4 1180591620717411303428), (S 264 0 4 1180591620717411303425), (S 265 0 4 1180591620717411303425)]), (S 603 0 1 1180591620717411303425), (.int .u8 (.ofNat 252))], b3_0, 3508, (.slice none 0 0), [], 3511⟩
set_option maxRecDepth 1000000 in
theorem o1389 : EntryOK Try.prog e1389 := Ax.part (K := sks) (l := []) mixed sks_ok trivial (by kernel_rfl)
noncomputable def e1391 : Entry := ⟨102, [(.agg #[(S 263 0 4 1180591620717411303428), (S 264 0 4 1180591620717411303425), (S 265 0 4 1180591620717411303425)]), (S 603 0 1 1180591620717411303425), (.int .u8 (.ofNat 253))], b3_0, 3513, (.slice none 0 0), [], 3516⟩
set_option maxRecDepth 1000000 in
theorem o1391 : EntryOK Try.prog e1391 := Ax.part (K := sks) (l := []) mixed sks_ok trivial (by kernel_rfl)
noncomputable def e1393 : Entry := ⟨102, [(.agg #[(S 263 0 4 1180591620717411303428), (S 264 0 4 1180591620717411303425), (S 265 0 4 1180591620717411303425)]), (S 603 0 1 1180591620717411303425), (.int .u8 (.ofNat 254))], b3_0, 3518, (.slice none 0 0), [], 3521⟩
set_option maxRecDepth 1000000 in
theorem o1393 : EntryOK Try.prog e1393 := Ax.part (K := sks) (l := []) mixed sks_ok trivial (by kernel_rfl)
noncomputable def e1395 : Entry := ⟨102, [(.agg #[(S 263 0 4 1180591620717411303428), (S 264 0 4 1180591620717411303425), (S 265 0 4 1180591620717411303425)]), (S 603 0 1 1180591620717411303425), (.int .u8 (.ofNat 255))], b3_0, 3523, (.slice none 0 0), [], 3526⟩
set_option maxRecDepth 1000000 in
theorem o1395 : EntryOK Try.prog e1395 := Ax.part (K := sks) (l := []) mixed sks_ok trivial (by kernel_rfl)
noncomputable def e1398 : Entry := ⟨102, [(.agg #[(S 263 0 4 1180591620717411303428), (S 264 0 4 1180591620717411303425), (S 265 0 4 1180591620717411303425)]), (S 1084 0 1 1180591620717411303425), (.int .u8 (.ofNat 0))], b3_1, 3539, (.slice none 0 0), [], 3542⟩
set_option maxRecDepth 1000000 in
theorem o1398 : EntryOK Try.prog e1398 := Ax.part (K := sks) (l := []) mixed sks_ok trivial (by kernel_rfl)
noncomputable def e1400 : Entry := ⟨102, [(.agg #[(S 263 0 4 1180591620717411303428), (S 264 0 4 1180591620717411303425), (S 265 0 4 1180591620717411303425)]), (S 1084 0 1 1180591620717411303425), (.int .u8 (.ofNat 1))], b3_1, 3544, (.slice none 0 0), [], 3547⟩
set_option maxRecDepth 1000000 in
theorem o1400 : EntryOK Try.prog e1400 := Ax.part (K := sks) (l := []) mixed sks_ok trivial (by kernel_rfl)
noncomputable def e1402 : Entry := ⟨102, [(.agg #[(S 263 0 4 1180591620717411303428), (S 264 0 4 1180591620717411303425), (S 265 0 4 1180591620717411303425)]), (S 1084 0 1 1180591620717411303425), (.int .u8 (.ofNat 2))], b3_1, 3549, (.slice none 0 0), [], 3552⟩
set_option maxRecDepth 1000000 in
theorem o1402 : EntryOK Try.prog e1402 := Ax.part (K := sks) (l := []) mixed sks_ok trivial (by kernel_rfl)
noncomputable def e1404 : Entry := ⟨102, [(.agg #[(S 263 0 4 1180591620717411303428), (S 264 0 4 1180591620717411303425), (S 265 0 4 1180591620717411303425)]), (S 1084 0 1 1180591620717411303425), (.int .u8 (.ofNat 3))], b3_1, 3554, (.slice none 0 0), [], 3557⟩
set_option maxRecDepth 1000000 in
theorem o1404 : EntryOK Try.prog e1404 := Ax.part (K := sks) (l := []) mixed sks_ok trivial (by kernel_rfl)
noncomputable def e1406 : Entry := ⟨102, [(.agg #[(S 263 0 4 1180591620717411303428), (S 264 0 4 1180591620717411303425), (S 265 0 4 1180591620717411303425)]), (S 1084 0 1 1180591620717411303425), (.int .u8 (.ofNat 4))], b3_1, 3559, (.slice none 0 0), [], 3562⟩
set_option maxRecDepth 1000000 in
theorem o1406 : EntryOK Try.prog e1406 := Ax.part (K := sks) (l := []) mixed sks_ok trivial (by kernel_rfl)
noncomputable def e1408 : Entry := ⟨102, [(.agg #[(S 263 0 4 1180591620717411303428), (S 264 0 4 1180591620717411303425), (S 265 0 4 1180591620717411303425)]), (S 1084 0 1 1180591620717411303425), (.int .u8 (.ofNat 5))], b3_1, 3564, (.slice none 0 0), [], 3567⟩
set_option maxRecDepth 1000000 in
theorem o1408 : EntryOK Try.prog e1408 := Ax.part (K := sks) (l := []) mixed sks_ok trivial (by kernel_rfl)
noncomputable def e1410 : Entry := ⟨102, [(.agg #[(S 263 0 4 1180591620717411303428), (S 264 0 4 1180591620717411303425), (S 265 0 4 1180591620717411303425)]), (S 1084 0 1 1180591620717411303425), (.int .u8 (.ofNat 6))], b3_1, 3569, (.slice none 0 0), [], 3572⟩
set_option maxRecDepth 1000000 in
theorem o1410 : EntryOK Try.prog e1410 := Ax.part (K := sks) (l := []) mixed sks_ok trivial (by kernel_rfl)
noncomputable def e1412 : Entry := ⟨102, [(.agg #[(S 263 0 4 1180591620717411303428), (S 264 0 4 1180591620717411303425), (S 265 0 4 1180591620717411303425)]), (S 1084 0 1 1180591620717411303425), (.int .u8 (.ofNat 7))], b3_1, 3574, (.slice none 0 0), [], 3577⟩
set_option maxRecDepth 1000000 in
theorem o1412 : EntryOK Try.prog e1412 := Ax.part (K := sks) (l := []) mixed sks_ok trivial (by kernel_rfl)
noncomputable def e1414 : Entry := ⟨102, [(.agg #[(S 263 0 4 1180591620717411303428), (S 264 0 4 1180591620717411303425), (S 265 0 4 1180591620717411303425)]), (S 1084 0 1 1180591620717411303425), (.int .u8 (.ofNat 8))], b3_1, 3579, (.slice none 0 0), [], 3582⟩
set_option maxRecDepth 1000000 in
theorem o1414 : EntryOK Try.prog e1414 := Ax.part (K := sks) (l := []) mixed sks_ok trivial (by kernel_rfl)
noncomputable def e1416 : Entry := ⟨102, [(.agg #[(S 263 0 4 1180591620717411303428), (S 264 0 4 1180591620717411303425), (S 265 0 4 1180591620717411303425)]), (S 1084 0 1 1180591620717411303425), (.int .u8 (.ofNat 9))], b3_1, 3584, (.slice none 0 0), [], 3587⟩
set_option maxRecDepth 1000000 in
theorem o1416 : EntryOK Try.prog e1416 := Ax.part (K := sks) (l := []) mixed sks_ok trivial (by kernel_rfl)
noncomputable def e1418 : Entry := ⟨102, [(.agg #[(S 263 0 4 1180591620717411303428), (S 264 0 4 1180591620717411303425), (S 265 0 4 1180591620717411303425)]), (S 1084 0 1 1180591620717411303425), (.int .u8 (.ofNat 10))], b3_1, 3589, (.slice none 0 0), [], 3592⟩
set_option maxRecDepth 1000000 in
theorem o1418 : EntryOK Try.prog e1418 := Ax.part (K := sks) (l := []) mixed sks_ok trivial (by kernel_rfl)
noncomputable def e1420 : Entry := ⟨102, [(.agg #[(S 263 0 4 1180591620717411303428), (S 264 0 4 1180591620717411303425), (S 265 0 4 1180591620717411303425)]), (S 1084 0 1 1180591620717411303425), (.int .u8 (.ofNat 11))], b3_1, 3594, (.slice none 0 0), [], 3597⟩
set_option maxRecDepth 1000000 in
theorem o1420 : EntryOK Try.prog e1420 := Ax.part (K := sks) (l := []) mixed sks_ok trivial (by kernel_rfl)
noncomputable def e1422 : Entry := ⟨102, [(.agg #[(S 263 0 4 1180591620717411303428), (S 264 0 4 1180591620717411303425), (S 265 0 4 1180591620717411303425)]), (S 1084 0 1 1180591620717411303425), (.int .u8 (.ofNat 12))], b3_1, 3599, (.slice none 0 0), [], 3602⟩
set_option maxRecDepth 1000000 in
theorem o1422 : EntryOK Try.prog e1422 := Ax.part (K := sks) (l := []) mixed sks_ok trivial (by kernel_rfl)
noncomputable def e1424 : Entry := ⟨102, [(.agg #[(S 263 0 4 1180591620717411303428), (S 264 0 4 1180591620717411303425), (S 265 0 4 1180591620717411303425)]), (S 1084 0 1 1180591620717411303425), (.int .u8 (.ofNat 13))], b3_1, 3604, (.slice none 0 0), [], 3607⟩
set_option maxRecDepth 1000000 in
theorem o1424 : EntryOK Try.prog e1424 := Ax.part (K := sks) (l := []) mixed sks_ok trivial (by kernel_rfl)
noncomputable def e1426 : Entry := ⟨102, [(.agg #[(S 263 0 4 1180591620717411303428), (S 264 0 4 1180591620717411303425), (S 265 0 4 1180591620717411303425)]), (S 1084 0 1 1180591620717411303425), (.int .u8 (.ofNat 14))], b3_1, 3609, (.slice none 0 0), [], 3612⟩
set_option maxRecDepth 1000000 in
theorem o1426 : EntryOK Try.prog e1426 := Ax.part (K := sks) (l := []) mixed sks_ok trivial (by kernel_rfl)
noncomputable def e1428 : Entry := ⟨102, [(.agg #[(S 263 0 4 1180591620717411303428), (S 264 0 4 1180591620717411303425), (S 265 0 4 1180591620717411303425)]), (S 1084 0 1 1180591620717411303425), (.int .u8 (.ofNat 15))], b3_1, 3614, (.slice none 0 0), [], 3617⟩
set_option maxRecDepth 1000000 in
theorem o1428 : EntryOK Try.prog e1428 := Ax.part (K := sks) (l := []) mixed sks_ok trivial (by kernel_rfl)
noncomputable def e1430 : Entry := ⟨102, [(.agg #[(S 263 0 4 1180591620717411303428), (S 264 0 4 1180591620717411303425), (S 265 0 4 1180591620717411303425)]), (S 1084 0 1 1180591620717411303425), (.int .u8 (.ofNat 16))], b3_1, 3619, (.slice none 0 0), [], 3622⟩
set_option maxRecDepth 1000000 in
theorem o1430 : EntryOK Try.prog e1430 := Ax.part (K := sks) (l := []) mixed sks_ok trivial (by kernel_rfl)
noncomputable def e1432 : Entry := ⟨102, [(.agg #[(S 263 0 4 1180591620717411303428), (S 264 0 4 1180591620717411303425), (S 265 0 4 1180591620717411303425)]), (S 1084 0 1 1180591620717411303425), (.int .u8 (.ofNat 17))], b3_1, 3624, (.slice none 0 0), [], 3627⟩
set_option maxRecDepth 1000000 in
theorem o1432 : EntryOK Try.prog e1432 := Ax.part (K := sks) (l := []) mixed sks_ok trivial (by kernel_rfl)
noncomputable def e1434 : Entry := ⟨102, [(.agg #[(S 263 0 4 1180591620717411303428), (S 264 0 4 1180591620717411303425), (S 265 0 4 1180591620717411303425)]), (S 1084 0 1 1180591620717411303425), (.int .u8 (.ofNat 18))], b3_1, 3629, (.slice none 0 0), [], 3632⟩
set_option maxRecDepth 1000000 in
theorem o1434 : EntryOK Try.prog e1434 := Ax.part (K := sks) (l := []) mixed sks_ok trivial (by kernel_rfl)
noncomputable def e1436 : Entry := ⟨102, [(.agg #[(S 263 0 4 1180591620717411303428), (S 264 0 4 1180591620717411303425), (S 265 0 4 1180591620717411303425)]), (S 1084 0 1 1180591620717411303425), (.int .u8 (.ofNat 19))], b3_1, 3634, (.slice none 0 0), [], 3637⟩
set_option maxRecDepth 1000000 in
theorem o1436 : EntryOK Try.prog e1436 := Ax.part (K := sks) (l := []) mixed sks_ok trivial (by kernel_rfl)
noncomputable def e1438 : Entry := ⟨102, [(.agg #[(S 263 0 4 1180591620717411303428), (S 264 0 4 1180591620717411303425), (S 265 0 4 1180591620717411303425)]), (S 1084 0 1 1180591620717411303425), (.int .u8 (.ofNat 20))], b3_1, 3639, (.slice none 0 0), [], 3642⟩
set_option maxRecDepth 1000000 in
theorem o1438 : EntryOK Try.prog e1438 := Ax.part (K := sks) (l := []) mixed sks_ok trivial (by kernel_rfl)
noncomputable def e1440 : Entry := ⟨102, [(.agg #[(S 263 0 4 1180591620717411303428), (S 264 0 4 1180591620717411303425), (S 265 0 4 1180591620717411303425)]), (S 1084 0 1 1180591620717411303425), (.int .u8 (.ofNat 21))], b3_1, 3644, (.slice none 0 0), [], 3647⟩
set_option maxRecDepth 1000000 in
theorem o1440 : EntryOK Try.prog e1440 := Ax.part (K := sks) (l := []) mixed sks_ok trivial (by kernel_rfl)
noncomputable def e1442 : Entry := ⟨102, [(.agg #[(S 263 0 4 1180591620717411303428), (S 264 0 4 1180591620717411303425), (S 265 0 4 1180591620717411303425)]), (S 1084 0 1 1180591620717411303425), (.int .u8 (.ofNat 22))], b3_1, 3649, (.slice none 0 0), [], 3652⟩
set_option maxRecDepth 1000000 in
theorem o1442 : EntryOK Try.prog e1442 := Ax.part (K := sks) (l := []) mixed sks_ok trivial (by kernel_rfl)
noncomputable def e1444 : Entry := ⟨102, [(.agg #[(S 263 0 4 1180591620717411303428), (S 264 0 4 1180591620717411303425), (S 265 0 4 1180591620717411303425)]), (S 1084 0 1 1180591620717411303425), (.int .u8 (.ofNat 23))], b3_1, 3654, (.slice none 0 0), [], 3657⟩
set_option maxRecDepth 1000000 in
theorem o1444 : EntryOK Try.prog e1444 := Ax.part (K := sks) (l := []) mixed sks_ok trivial (by kernel_rfl)
noncomputable def e1446 : Entry := ⟨102, [(.agg #[(S 263 0 4 1180591620717411303428), (S 264 0 4 1180591620717411303425), (S 265 0 4 1180591620717411303425)]), (S 1084 0 1 1180591620717411303425), (.int .u8 (.ofNat 24))], b3_1, 3659, (.slice none 0 0), [], 3662⟩
set_option maxRecDepth 1000000 in
theorem o1446 : EntryOK Try.prog e1446 := Ax.part (K := sks) (l := []) mixed sks_ok trivial (by kernel_rfl)
noncomputable def e1448 : Entry := ⟨102, [(.agg #[(S 263 0 4 1180591620717411303428), (S 264 0 4 1180591620717411303425), (S 265 0 4 1180591620717411303425)]), (S 1084 0 1 1180591620717411303425), (.int .u8 (.ofNat 25))], b3_1, 3664, (.slice none 0 0), [], 3667⟩
set_option maxRecDepth 1000000 in
theorem o1448 : EntryOK Try.prog e1448 := Ax.part (K := sks) (l := []) mixed sks_ok trivial (by kernel_rfl)
noncomputable def e1450 : Entry := ⟨102, [(.agg #[(S 263 0 4 1180591620717411303428), (S 264 0 4 1180591620717411303425), (S 265 0 4 1180591620717411303425)]), (S 1084 0 1 1180591620717411303425), (.int .u8 (.ofNat 26))], b3_1, 3669, (.slice none 0 0), [], 3672⟩
set_option maxRecDepth 1000000 in
theorem o1450 : EntryOK Try.prog e1450 := Ax.part (K := sks) (l := []) mixed sks_ok trivial (by kernel_rfl)
noncomputable def e1452 : Entry := ⟨102, [(.agg #[(S 263 0 4 1180591620717411303428), (S 264 0 4 1180591620717411303425), (S 265 0 4 1180591620717411303425)]), (S 1084 0 1 1180591620717411303425), (.int .u8 (.ofNat 27))], b3_1, 3674, (.slice none 0 0), [], 3677⟩
set_option maxRecDepth 1000000 in
theorem o1452 : EntryOK Try.prog e1452 := Ax.part (K := sks) (l := []) mixed sks_ok trivial (by kernel_rfl)
noncomputable def e1454 : Entry := ⟨102, [(.agg #[(S 263 0 4 1180591620717411303428), (S 264 0 4 1180591620717411303425), (S 265 0 4 1180591620717411303425)]), (S 1084 0 1 1180591620717411303425), (.int .u8 (.ofNat 28))], b3_1, 3679, (.slice none 0 0), [], 3682⟩
set_option maxRecDepth 1000000 in
theorem o1454 : EntryOK Try.prog e1454 := Ax.part (K := sks) (l := []) mixed sks_ok trivial (by kernel_rfl)
noncomputable def e1456 : Entry := ⟨102, [(.agg #[(S 263 0 4 1180591620717411303428), (S 264 0 4 1180591620717411303425), (S 265 0 4 1180591620717411303425)]), (S 1084 0 1 1180591620717411303425), (.int .u8 (.ofNat 29))], b3_1, 3684, (.slice none 0 0), [], 3687⟩
set_option maxRecDepth 1000000 in
theorem o1456 : EntryOK Try.prog e1456 := Ax.part (K := sks) (l := []) mixed sks_ok trivial (by kernel_rfl)
noncomputable def e1458 : Entry := ⟨102, [(.agg #[(S 263 0 4 1180591620717411303428), (S 264 0 4 1180591620717411303425), (S 265 0 4 1180591620717411303425)]), (S 1084 0 1 1180591620717411303425), (.int .u8 (.ofNat 30))], b3_1, 3689, (.slice none 0 0), [], 3692⟩
set_option maxRecDepth 1000000 in
theorem o1458 : EntryOK Try.prog e1458 := Ax.part (K := sks) (l := []) mixed sks_ok trivial (by kernel_rfl)
noncomputable def e1460 : Entry := ⟨102, [(.agg #[(S 263 0 4 1180591620717411303428), (S 264 0 4 1180591620717411303425), (S 265 0 4 1180591620717411303425)]), (S 1084 0 1 1180591620717411303425), (.int .u8 (.ofNat 31))], b3_1, 3694, (.slice none 0 0), [], 3697⟩
set_option maxRecDepth 1000000 in
theorem o1460 : EntryOK Try.prog e1460 := Ax.part (K := sks) (l := []) mixed sks_ok trivial (by kernel_rfl)
noncomputable def e1462 : Entry := ⟨102, [(.agg #[(S 263 0 4 1180591620717411303428), (S 264 0 4 1180591620717411303425), (S 265 0 4 1180591620717411303425)]), (S 1084 0 1 1180591620717411303425), (.int .u8 (.ofNat 32))], b3_1, 3699, (.slice none 0 0), [], 3702⟩
set_option maxRecDepth 1000000 in
theorem o1462 : EntryOK Try.prog e1462 := Ax.part (K := sks) (l := []) mixed sks_ok trivial (by kernel_rfl)
noncomputable def e1464 : Entry := ⟨102, [(.agg #[(S 263 0 4 1180591620717411303428), (S 264 0 4 1180591620717411303425), (S 265 0 4 1180591620717411303425)]), (S 1084 0 1 1180591620717411303425), (.int .u8 (.ofNat 33))], b3_1, 3704, (.slice none 0 0), [], 3707⟩
set_option maxRecDepth 1000000 in
theorem o1464 : EntryOK Try.prog e1464 := Ax.part (K := sks) (l := []) mixed sks_ok trivial (by kernel_rfl)
noncomputable def e1466 : Entry := ⟨102, [(.agg #[(S 263 0 4 1180591620717411303428), (S 264 0 4 1180591620717411303425), (S 265 0 4 1180591620717411303425)]), (S 1084 0 1 1180591620717411303425), (.int .u8 (.ofNat 34))], b3_1, 3709, (.slice none 0 0), [], 3712⟩
set_option maxRecDepth 1000000 in
theorem o1466 : EntryOK Try.prog e1466 := Ax.part (K := sks) (l := []) mixed sks_ok trivial (by kernel_rfl)
noncomputable def e1468 : Entry := ⟨102, [(.agg #[(S 263 0 4 1180591620717411303428), (S 264 0 4 1180591620717411303425), (S 265 0 4 1180591620717411303425)]), (S 1084 0 1 1180591620717411303425), (.int .u8 (.ofNat 35))], b3_1, 3714, (.slice none 0 0), [], 3717⟩
set_option maxRecDepth 1000000 in
theorem o1468 : EntryOK Try.prog e1468 := Ax.part (K := sks) (l := []) mixed sks_ok trivial (by kernel_rfl)
noncomputable def e1470 : Entry := ⟨102, [(.agg #[(S 263 0 4 1180591620717411303428), (S 264 0 4 1180591620717411303425), (S 265 0 4 1180591620717411303425)]), (S 1084 0 1 1180591620717411303425), (.int .u8 (.ofNat 36))], b3_1, 3719, (.slice none 0 0), [], 3722⟩
set_option maxRecDepth 1000000 in
theorem o1470 : EntryOK Try.prog e1470 := Ax.part (K := sks) (l := []) mixed sks_ok trivial (by kernel_rfl)
noncomputable def e1472 : Entry := ⟨102, [(.agg #[(S 263 0 4 1180591620717411303428), (S 264 0 4 1180591620717411303425), (S 265 0 4 1180591620717411303425)]), (S 1084 0 1 1180591620717411303425), (.int .u8 (.ofNat 37))], b3_1, 3724, (.slice none 0 0), [], 3727⟩
set_option maxRecDepth 1000000 in
theorem o1472 : EntryOK Try.prog e1472 := Ax.part (K := sks) (l := []) mixed sks_ok trivial (by kernel_rfl)
noncomputable def e1474 : Entry := ⟨102, [(.agg #[(S 263 0 4 1180591620717411303428), (S 264 0 4 1180591620717411303425), (S 265 0 4 1180591620717411303425)]), (S 1084 0 1 1180591620717411303425), (.int .u8 (.ofNat 38))], b3_1, 3729, (.slice none 0 0), [], 3732⟩
set_option maxRecDepth 1000000 in
theorem o1474 : EntryOK Try.prog e1474 := Ax.part (K := sks) (l := []) mixed sks_ok trivial (by kernel_rfl)
noncomputable def e1476 : Entry := ⟨102, [(.agg #[(S 263 0 4 1180591620717411303428), (S 264 0 4 1180591620717411303425), (S 265 0 4 1180591620717411303425)]), (S 1084 0 1 1180591620717411303425), (.int .u8 (.ofNat 39))], b3_1, 3734, (.slice none 0 0), [], 3737⟩
set_option maxRecDepth 1000000 in
theorem o1476 : EntryOK Try.prog e1476 := Ax.part (K := sks) (l := []) mixed sks_ok trivial (by kernel_rfl)
noncomputable def e1478 : Entry := ⟨102, [(.agg #[(S 263 0 4 1180591620717411303428), (S 264 0 4 1180591620717411303425), (S 265 0 4 1180591620717411303425)]), (S 1084 0 1 1180591620717411303425), (.int .u8 (.ofNat 40))], b3_1, 3739, (.slice none 0 0), [], 3742⟩
set_option maxRecDepth 1000000 in
theorem o1478 : EntryOK Try.prog e1478 := Ax.part (K := sks) (l := []) mixed sks_ok trivial (by kernel_rfl)
noncomputable def e1480 : Entry := ⟨102, [(.agg #[(S 263 0 4 1180591620717411303428), (S 264 0 4 1180591620717411303425), (S 265 0 4 1180591620717411303425)]), (S 1084 0 1 1180591620717411303425), (.int .u8 (.ofNat 41))], b3_1, 3744, (.slice none 0 0), [], 3747⟩
set_option maxRecDepth 1000000 in
theorem o1480 : EntryOK Try.prog e1480 := Ax.part (K := sks) (l := []) mixed sks_ok trivial (by kernel_rfl)
noncomputable def e1482 : Entry := ⟨102, [(.agg #[(S 263 0 4 1180591620717411303428), (S 264 0 4 1180591620717411303425), (S 265 0 4 1180591620717411303425)]), (S 1084 0 1 1180591620717411303425), (.int .u8 (.ofNat 42))], b3_1, 3749, (.slice none 0 0), [], 3752⟩
set_option maxRecDepth 1000000 in
theorem o1482 : EntryOK Try.prog e1482 := Ax.part (K := sks) (l := []) mixed sks_ok trivial (by kernel_rfl)
noncomputable def e1484 : Entry := ⟨102, [(.agg #[(S 263 0 4 1180591620717411303428), (S 264 0 4 1180591620717411303425), (S 265 0 4 1180591620717411303425)]), (S 1084 0 1 1180591620717411303425), (.int .u8 (.ofNat 43))], b3_1, 3754, (.slice none 0 0), [], 3757⟩
set_option maxRecDepth 1000000 in
theorem o1484 : EntryOK Try.prog e1484 := Ax.part (K := sks) (l := []) mixed sks_ok trivial (by kernel_rfl)
noncomputable def e1486 : Entry := ⟨102, [(.agg #[(S 263 0 4 1180591620717411303428), (S 264 0 4 1180591620717411303425), (S 265 0 4 1180591620717411303425)]), (S 1084 0 1 1180591620717411303425), (.int .u8 (.ofNat 44))], b3_1, 3759, (.slice none 0 0), [], 3762⟩
set_option maxRecDepth 1000000 in
theorem o1486 : EntryOK Try.prog e1486 := Ax.part (K := sks) (l := []) mixed sks_ok trivial (by kernel_rfl)
noncomputable def e1488 : Entry := ⟨102, [(.agg #[(S 263 0 4 1180591620717411303428), (S 264 0 4 1180591620717411303425), (S 265 0 4 1180591620717411303425)]), (S 1084 0 1 1180591620717411303425), (.int .u8 (.ofNat 45))], b3_1, 3764, (.slice none 0 0), [], 3767⟩
set_option maxRecDepth 1000000 in
theorem o1488 : EntryOK Try.prog e1488 := Ax.part (K := sks) (l := []) mixed sks_ok trivial (by kernel_rfl)
noncomputable def e1490 : Entry := ⟨102, [(.agg #[(S 263 0 4 1180591620717411303428), (S 264 0 4 1180591620717411303425), (S 265 0 4 1180591620717411303425)]), (S 1084 0 1 1180591620717411303425), (.int .u8 (.ofNat 46))], b3_1, 3769, (.slice none 0 0), [], 3772⟩
set_option maxRecDepth 1000000 in
theorem o1490 : EntryOK Try.prog e1490 := Ax.part (K := sks) (l := []) mixed sks_ok trivial (by kernel_rfl)
noncomputable def e1492 : Entry := ⟨102, [(.agg #[(S 263 0 4 1180591620717411303428), (S 264 0 4 1180591620717411303425), (S 265 0 4 1180591620717411303425)]), (S 1084 0 1 1180591620717411303425), (.int .u8 (.ofNat 47))], b3_1, 3774, (.slice none 0 0), [], 3777⟩
set_option maxRecDepth 1000000 in
theorem o1492 : EntryOK Try.prog e1492 := Ax.part (K := sks) (l := []) mixed sks_ok trivial (by kernel_rfl)
noncomputable def e1494 : Entry := ⟨102, [(.agg #[(S 263 0 4 1180591620717411303428), (S 264 0 4 1180591620717411303425), (S 265 0 4 1180591620717411303425)]), (S 1084 0 1 1180591620717411303425), (.int .u8 (.ofNat 48))], b3_1, 3779, (.slice none 0 0), [], 3782⟩
set_option maxRecDepth 1000000 in
theorem o1494 : EntryOK Try.prog e1494 := Ax.part (K := sks) (l := []) mixed sks_ok trivial (by kernel_rfl)
noncomputable def e1496 : Entry := ⟨102, [(.agg #[(S 263 0 4 1180591620717411303428), (S 264 0 4 1180591620717411303425), (S 265 0 4 1180591620717411303425)]), (S 1084 0 1 1180591620717411303425), (.int .u8 (.ofNat 49))], b3_1, 3784, (.slice none 0 0), [], 3787⟩
set_option maxRecDepth 1000000 in
theorem o1496 : EntryOK Try.prog e1496 := Ax.part (K := sks) (l := []) mixed sks_ok trivial (by kernel_rfl)
noncomputable def e1498 : Entry := ⟨102, [(.agg #[(S 263 0 4 1180591620717411303428), (S 264 0 4 1180591620717411303425), (S 265 0 4 1180591620717411303425)]), (S 1084 0 1 1180591620717411303425), (.int .u8 (.ofNat 50))], b3_1, 3789, (.slice none 0 0), [], 3792⟩
set_option maxRecDepth 1000000 in
theorem o1498 : EntryOK Try.prog e1498 := Ax.part (K := sks) (l := []) mixed sks_ok trivial (by kernel_rfl)
noncomputable def e1500 : Entry := ⟨102, [(.agg #[(S 263 0 4 1180591620717411303428), (S 264 0 4 1180591620717411303425), (S 265 0 4 1180591620717411303425)]), (S 1084 0 1 1180591620717411303425), (.int .u8 (.ofNat 51))], b3_1, 3794, (.slice none 0 0), [], 3797⟩
set_option maxRecDepth 1000000 in
theorem o1500 : EntryOK Try.prog e1500 := Ax.part (K := sks) (l := []) mixed sks_ok trivial (by kernel_rfl)
noncomputable def e1502 : Entry := ⟨102, [(.agg #[(S 263 0 4 1180591620717411303428), (S 264 0 4 1180591620717411303425), (S 265 0 4 1180591620717411303425)]), (S 1084 0 1 1180591620717411303425), (.int .u8 (.ofNat 52))], b3_1, 3799, (.slice none 0 0), [], 3802⟩
set_option maxRecDepth 1000000 in
theorem o1502 : EntryOK Try.prog e1502 := Ax.part (K := sks) (l := []) mixed sks_ok trivial (by kernel_rfl)
noncomputable def e1504 : Entry := ⟨102, [(.agg #[(S 263 0 4 1180591620717411303428), (S 264 0 4 1180591620717411303425), (S 265 0 4 1180591620717411303425)]), (S 1084 0 1 1180591620717411303425), (.int .u8 (.ofNat 53))], b3_1, 3804, (.slice none 0 0), [], 3807⟩
set_option maxRecDepth 1000000 in
theorem o1504 : EntryOK Try.prog e1504 := Ax.part (K := sks) (l := []) mixed sks_ok trivial (by kernel_rfl)
noncomputable def e1506 : Entry := ⟨102, [(.agg #[(S 263 0 4 1180591620717411303428), (S 264 0 4 1180591620717411303425), (S 265 0 4 1180591620717411303425)]), (S 1084 0 1 1180591620717411303425), (.int .u8 (.ofNat 54))], b3_1, 3809, (.slice none 0 0), [], 3812⟩
set_option maxRecDepth 1000000 in
theorem o1506 : EntryOK Try.prog e1506 := Ax.part (K := sks) (l := []) mixed sks_ok trivial (by kernel_rfl)
noncomputable def e1508 : Entry := ⟨102, [(.agg #[(S 263 0 4 1180591620717411303428), (S 264 0 4 1180591620717411303425), (S 265 0 4 1180591620717411303425)]), (S 1084 0 1 1180591620717411303425), (.int .u8 (.ofNat 55))], b3_1, 3814, (.slice none 0 0), [], 3817⟩
set_option maxRecDepth 1000000 in
theorem o1508 : EntryOK Try.prog e1508 := Ax.part (K := sks) (l := []) mixed sks_ok trivial (by kernel_rfl)
noncomputable def e1510 : Entry := ⟨102, [(.agg #[(S 263 0 4 1180591620717411303428), (S 264 0 4 1180591620717411303425), (S 265 0 4 1180591620717411303425)]), (S 1084 0 1 1180591620717411303425), (.int .u8 (.ofNat 56))], b3_1, 3819, (.slice none 0 0), [], 3822⟩
set_option maxRecDepth 1000000 in
theorem o1510 : EntryOK Try.prog e1510 := Ax.part (K := sks) (l := []) mixed sks_ok trivial (by kernel_rfl)
noncomputable def e1512 : Entry := ⟨102, [(.agg #[(S 263 0 4 1180591620717411303428), (S 264 0 4 1180591620717411303425), (S 265 0 4 1180591620717411303425)]), (S 1084 0 1 1180591620717411303425), (.int .u8 (.ofNat 57))], b3_1, 3824, (.slice none 0 0), [], 3827⟩
set_option maxRecDepth 1000000 in
theorem o1512 : EntryOK Try.prog e1512 := Ax.part (K := sks) (l := []) mixed sks_ok trivial (by kernel_rfl)
noncomputable def e1514 : Entry := ⟨102, [(.agg #[(S 263 0 4 1180591620717411303428), (S 264 0 4 1180591620717411303425), (S 265 0 4 1180591620717411303425)]), (S 1084 0 1 1180591620717411303425), (.int .u8 (.ofNat 58))], b3_1, 3829, (.slice none 0 0), [], 3832⟩
set_option maxRecDepth 1000000 in
theorem o1514 : EntryOK Try.prog e1514 := Ax.part (K := sks) (l := []) mixed sks_ok trivial (by kernel_rfl)
noncomputable def e1516 : Entry := ⟨102, [(.agg #[(S 263 0 4 1180591620717411303428), (S 264 0 4 1180591620717411303425), (S 265 0 4 1180591620717411303425)]), (S 1084 0 1 1180591620717411303425), (.int .u8 (.ofNat 59))], b3_1, 3834, (.slice none 0 0), [], 3837⟩
set_option maxRecDepth 1000000 in
theorem o1516 : EntryOK Try.prog e1516 := Ax.part (K := sks) (l := []) mixed sks_ok trivial (by kernel_rfl)
noncomputable def e1518 : Entry := ⟨102, [(.agg #[(S 263 0 4 1180591620717411303428), (S 264 0 4 1180591620717411303425), (S 265 0 4 1180591620717411303425)]), (S 1084 0 1 1180591620717411303425), (.int .u8 (.ofNat 60))], b3_1, 3839, (.slice none 0 0), [], 3842⟩
set_option maxRecDepth 1000000 in
theorem o1518 : EntryOK Try.prog e1518 := Ax.part (K := sks) (l := []) mixed sks_ok trivial (by kernel_rfl)
noncomputable def e1520 : Entry := ⟨102, [(.agg #[(S 263 0 4 1180591620717411303428), (S 264 0 4 1180591620717411303425), (S 265 0 4 1180591620717411303425)]), (S 1084 0 1 1180591620717411303425), (.int .u8 (.ofNat 61))], b3_1, 3844, (.slice none 0 0), [], 3847⟩
set_option maxRecDepth 1000000 in
theorem o1520 : EntryOK Try.prog e1520 := Ax.part (K := sks) (l := []) mixed sks_ok trivial (by kernel_rfl)
noncomputable def e1522 : Entry := ⟨102, [(.agg #[(S 263 0 4 1180591620717411303428), (S 264 0 4 1180591620717411303425), (S 265 0 4 1180591620717411303425)]), (S 1084 0 1 1180591620717411303425), (.int .u8 (.ofNat 62))], b3_1, 3849, (.slice none 0 0), [], 3852⟩
set_option maxRecDepth 1000000 in
theorem o1522 : EntryOK Try.prog e1522 := Ax.part (K := sks) (l := []) mixed sks_ok trivial (by kernel_rfl)
noncomputable def e1524 : Entry := ⟨102, [(.agg #[(S 263 0 4 1180591620717411303428), (S 264 0 4 1180591620717411303425), (S 265 0 4 1180591620717411303425)]), (S 1084 0 1 1180591620717411303425), (.int .u8 (.ofNat 63))], b3_1, 3854, (.slice none 0 0), [], 3857⟩
set_option maxRecDepth 1000000 in
theorem o1524 : EntryOK Try.prog e1524 := Ax.part (K := sks) (l := []) mixed sks_ok trivial (by kernel_rfl)
noncomputable def e1526 : Entry := ⟨102, [(.agg #[(S 263 0 4 1180591620717411303428), (S 264 0 4 1180591620717411303425), (S 265 0 4 1180591620717411303425)]), (S 1084 0 1 1180591620717411303425), (.int .u8 (.ofNat 64))], b3_1, 3859, (.slice none 0 0), [], 3862⟩
set_option maxRecDepth 1000000 in
theorem o1526 : EntryOK Try.prog e1526 := Ax.part (K := sks) (l := []) mixed sks_ok trivial (by kernel_rfl)
noncomputable def e1528 : Entry := ⟨102, [(.agg #[(S 263 0 4 1180591620717411303428), (S 264 0 4 1180591620717411303425), (S 265 0 4 1180591620717411303425)]), (S 1084 0 1 1180591620717411303425), (.int .u8 (.ofNat 65))], b3_1, 3864, (.slice none 0 0), [], 3867⟩
set_option maxRecDepth 1000000 in
theorem o1528 : EntryOK Try.prog e1528 := Ax.part (K := sks) (l := []) mixed sks_ok trivial (by kernel_rfl)
noncomputable def e1530 : Entry := ⟨102, [(.agg #[(S 263 0 4 1180591620717411303428), (S 264 0 4 1180591620717411303425), (S 265 0 4 1180591620717411303425)]), (S 1084 0 1 1180591620717411303425), (.int .u8 (.ofNat 66))], b3_1, 3869, (.slice none 0 0), [], 3872⟩
set_option maxRecDepth 1000000 in
theorem o1530 : EntryOK Try.prog e1530 := Ax.part (K := sks) (l := []) mixed sks_ok trivial (by kernel_rfl)
noncomputable def e1532 : Entry := ⟨102, [(.agg #[(S 263 0 4 1180591620717411303428), (S 264 0 4 1180591620717411303425), (S 265 0 4 1180591620717411303425)]), (S 1084 0 1 1180591620717411303425), (.int .u8 (.ofNat 67))], b3_1, 3874, (.slice none 0 0), [], 3877⟩
set_option maxRecDepth 1000000 in
theorem o1532 : EntryOK Try.prog e1532 := Ax.part (K := sks) (l := []) mixed sks_ok trivial (by kernel_rfl)
noncomputable def e1534 : Entry := ⟨102, [(.agg #[(S 263 0 4 1180591620717411303428), (S 264 0 4 1180591620717411303425), (S 265 0 4 1180591620717411303425)]), (S 1084 0 1 1180591620717411303425), (.int .u8 (.ofNat 68))], b3_1, 3879, (.slice none 0 0), [], 3882⟩
set_option maxRecDepth 1000000 in
theorem o1534 : EntryOK Try.prog e1534 := Ax.part (K := sks) (l := []) mixed sks_ok trivial (by kernel_rfl)
noncomputable def e1536 : Entry := ⟨102, [(.agg #[(S 263 0 4 1180591620717411303428), (S 264 0 4 1180591620717411303425), (S 265 0 4 1180591620717411303425)]), (S 1084 0 1 1180591620717411303425), (.int .u8 (.ofNat 69))], b3_1, 3884, (.slice none 0 0), [], 3887⟩
set_option maxRecDepth 1000000 in
theorem o1536 : EntryOK Try.prog e1536 := Ax.part (K := sks) (l := []) mixed sks_ok trivial (by kernel_rfl)
noncomputable def e1538 : Entry := ⟨102, [(.agg #[(S 263 0 4 1180591620717411303428), (S 264 0 4 1180591620717411303425), (S 265 0 4 1180591620717411303425)]), (S 1084 0 1 1180591620717411303425), (.int .u8 (.ofNat 70))], b3_1, 3889, (.slice none 0 0), [], 3892⟩
set_option maxRecDepth 1000000 in
theorem o1538 : EntryOK Try.prog e1538 := Ax.part (K := sks) (l := []) mixed sks_ok trivial (by kernel_rfl)
noncomputable def e1540 : Entry := ⟨102, [(.agg #[(S 263 0 4 1180591620717411303428), (S 264 0 4 1180591620717411303425), (S 265 0 4 1180591620717411303425)]), (S 1084 0 1 1180591620717411303425), (.int .u8 (.ofNat 71))], b3_1, 3894, (.slice none 0 0), [], 3897⟩
set_option maxRecDepth 1000000 in
theorem o1540 : EntryOK Try.prog e1540 := Ax.part (K := sks) (l := []) mixed sks_ok trivial (by kernel_rfl)
noncomputable def e1542 : Entry := ⟨102, [(.agg #[(S 263 0 4 1180591620717411303428), (S 264 0 4 1180591620717411303425), (S 265 0 4 1180591620717411303425)]), (S 1084 0 1 1180591620717411303425), (.int .u8 (.ofNat 72))], b3_1, 3899, (.slice none 0 0), [], 3902⟩
set_option maxRecDepth 1000000 in
theorem o1542 : EntryOK Try.prog e1542 := Ax.part (K := sks) (l := []) mixed sks_ok trivial (by kernel_rfl)
noncomputable def e1544 : Entry := ⟨102, [(.agg #[(S 263 0 4 1180591620717411303428), (S 264 0 4 1180591620717411303425), (S 265 0 4 1180591620717411303425)]), (S 1084 0 1 1180591620717411303425), (.int .u8 (.ofNat 73))], b3_1, 3904, (.slice none 0 0), [], 3907⟩
set_option maxRecDepth 1000000 in
theorem o1544 : EntryOK Try.prog e1544 := Ax.part (K := sks) (l := []) mixed sks_ok trivial (by kernel_rfl)
noncomputable def e1546 : Entry := ⟨102, [(.agg #[(S 263 0 4 1180591620717411303428), (S 264 0 4 1180591620717411303425), (S 265 0 4 1180591620717411303425)]), (S 1084 0 1 1180591620717411303425), (.int .u8 (.ofNat 74))], b3_1, 3909, (.slice none 0 0), [], 3912⟩
set_option maxRecDepth 1000000 in
theorem o1546 : EntryOK Try.prog e1546 := Ax.part (K := sks) (l := []) mixed sks_ok trivial (by kernel_rfl)
noncomputable def e1548 : Entry := ⟨102, [(.agg #[(S 263 0 4 1180591620717411303428), (S 264 0 4 1180591620717411303425), (S 265 0 4 1180591620717411303425)]), (S 1084 0 1 1180591620717411303425), (.int .u8 (.ofNat 75))], b3_1, 3914, (.slice none 0 0), [], 3917⟩
set_option maxRecDepth 1000000 in
theorem o1548 : EntryOK Try.prog e1548 := Ax.part (K := sks) (l := []) mixed sks_ok trivial (by kernel_rfl)
noncomputable def e1550 : Entry := ⟨102, [(.agg #[(S 263 0 4 1180591620717411303428), (S 264 0 4 1180591620717411303425), (S 265 0 4 1180591620717411303425)]), (S 1084 0 1 1180591620717411303425), (.int .u8 (.ofNat 76))], b3_1, 3919, (.slice none 0 0), [], 3922⟩
set_option maxRecDepth 1000000 in
theorem o1550 : EntryOK Try.prog e1550 := Ax.part (K := sks) (l := []) mixed sks_ok trivial (by kernel_rfl)
noncomputable def e1552 : Entry := ⟨102, [(.agg #[(S 263 0 4 1180591620717411303428), (S 264 0 4 1180591620717411303425), (S 265 0 4 1180591620717411303425)]), (S 1084 0 1 1180591620717411303425), (.int .u8 (.ofNat 77))], b3_1, 3924, (.slice none 0 0), [], 3927⟩
set_option maxRecDepth 1000000 in
theorem o1552 : EntryOK Try.prog e1552 := Ax.part (K := sks) (l := []) mixed sks_ok trivial (by kernel_rfl)
noncomputable def e1554 : Entry := ⟨102, [(.agg #[(S 263 0 4 1180591620717411303428), (S 264 0 4 1180591620717411303425), (S 265 0 4 1180591620717411303425)]), (S 1084 0 1 1180591620717411303425), (.int .u8 (.ofNat 78))], b3_1, 3929, (.slice none 0 0), [], 3932⟩
set_option maxRecDepth 1000000 in
theorem o1554 : EntryOK Try.prog e1554 := Ax.part (K := sks) (l := []) mixed sks_ok trivial (by kernel_rfl)
noncomputable def e1556 : Entry := ⟨102, [(.agg #[(S 263 0 4 1180591620717411303428), (S 264 0 4 1180591620717411303425), (S 265 0 4 1180591620717411303425)]), (S 1084 0 1 1180591620717411303425), (.int .u8 (.ofNat 79))], b3_1, 3934, (.slice none 0 0), [], 3937⟩
set_option maxRecDepth 1000000 in
theorem o1556 : EntryOK Try.prog e1556 := Ax.part (K := sks) (l := []) mixed sks_ok trivial (by kernel_rfl)
noncomputable def e1558 : Entry := ⟨102, [(.agg #[(S 263 0 4 1180591620717411303428), (S 264 0 4 1180591620717411303425), (S 265 0 4 1180591620717411303425)]), (S 1084 0 1 1180591620717411303425), (.int .u8 (.ofNat 80))], b3_1, 3939, (.slice none 0 0), [], 3942⟩
set_option maxRecDepth 1000000 in
theorem o1558 : EntryOK Try.prog e1558 := Ax.part (K := sks) (l := []) mixed sks_ok trivial (by kernel_rfl)
noncomputable def e1560 : Entry := ⟨102, [(.agg #[(S 263 0 4 1180591620717411303428), (S 264 0 4 1180591620717411303425), (S 265 0 4 1180591620717411303425)]), (S 1084 0 1 1180591620717411303425), (.int .u8 (.ofNat 81))], b3_1, 3944, (.slice none 0 0), [], 3947⟩
set_option maxRecDepth 1000000 in
theorem o1560 : EntryOK Try.prog e1560 := Ax.part (K := sks) (l := []) mixed sks_ok trivial (by kernel_rfl)
noncomputable def e1562 : Entry := ⟨102, [(.agg #[(S 263 0 4 1180591620717411303428), (S 264 0 4 1180591620717411303425), (S 265 0 4 1180591620717411303425)]), (S 1084 0 1 1180591620717411303425), (.int .u8 (.ofNat 82))], b3_1, 3949, (.slice none 0 0), [], 3952⟩
set_option maxRecDepth 1000000 in
theorem o1562 : EntryOK Try.prog e1562 := Ax.part (K := sks) (l := []) mixed sks_ok trivial (by kernel_rfl)
noncomputable def e1564 : Entry := ⟨102, [(.agg #[(S 263 0 4 1180591620717411303428), (S 264 0 4 1180591620717411303425), (S 265 0 4 1180591620717411303425)]), (S 1084 0 1 1180591620717411303425), (.int .u8 (.ofNat 83))], b3_1, 3954, (.slice none 0 0), [], 3957⟩
set_option maxRecDepth 1000000 in
theorem o1564 : EntryOK Try.prog e1564 := Ax.part (K := sks) (l := []) mixed sks_ok trivial (by kernel_rfl)
noncomputable def e1566 : Entry := ⟨102, [(.agg #[(S 263 0 4 1180591620717411303428), (S 264 0 4 1180591620717411303425), (S 265 0 4 1180591620717411303425)]), (S 1084 0 1 1180591620717411303425), (.int .u8 (.ofNat 84))], b3_1, 3959, (.slice none 0 0), [], 3962⟩
set_option maxRecDepth 1000000 in
theorem o1566 : EntryOK Try.prog e1566 := Ax.part (K := sks) (l := []) mixed sks_ok trivial (by kernel_rfl)
noncomputable def e1568 : Entry := ⟨102, [(.agg #[(S 263 0 4 1180591620717411303428), (S 264 0 4 1180591620717411303425), (S 265 0 4 1180591620717411303425)]), (S 1084 0 1 1180591620717411303425), (.int .u8 (.ofNat 85))], b3_1, 3964, (.slice none 0 0), [], 3967⟩
set_option maxRecDepth 1000000 in
theorem o1568 : EntryOK Try.prog e1568 := Ax.part (K := sks) (l := []) mixed sks_ok trivial (by kernel_rfl)
noncomputable def e1570 : Entry := ⟨102, [(.agg #[(S 263 0 4 1180591620717411303428), (S 264 0 4 1180591620717411303425), (S 265 0 4 1180591620717411303425)]), (S 1084 0 1 1180591620717411303425), (.int .u8 (.ofNat 86))], b3_1, 3969, (.slice none 0 0), [], 3972⟩
set_option maxRecDepth 1000000 in
theorem o1570 : EntryOK Try.prog e1570 := Ax.part (K := sks) (l := []) mixed sks_ok trivial (by kernel_rfl)
noncomputable def e1572 : Entry := ⟨102, [(.agg #[(S 263 0 4 1180591620717411303428), (S 264 0 4 1180591620717411303425), (S 265 0 4 1180591620717411303425)]), (S 1084 0 1 1180591620717411303425), (.int .u8 (.ofNat 87))], b3_1, 3974, (.slice none 0 0), [], 3977⟩
set_option maxRecDepth 1000000 in
theorem o1572 : EntryOK Try.prog e1572 := Ax.part (K := sks) (l := []) mixed sks_ok trivial (by kernel_rfl)
noncomputable def e1574 : Entry := ⟨102, [(.agg #[(S 263 0 4 1180591620717411303428), (S 264 0 4 1180591620717411303425), (S 265 0 4 1180591620717411303425)]), (S 1084 0 1 1180591620717411303425), (.int .u8 (.ofNat 88))], b3_1, 3979, (.slice none 0 0), [], 3982⟩
set_option maxRecDepth 1000000 in
theorem o1574 : EntryOK Try.prog e1574 := Ax.part (K := sks) (l := []) mixed sks_ok trivial (by kernel_rfl)
noncomputable def e1576 : Entry := ⟨102, [(.agg #[(S 263 0 4 1180591620717411303428), (S 264 0 4 1180591620717411303425), (S 265 0 4 1180591620717411303425)]), (S 1084 0 1 1180591620717411303425), (.int .u8 (.ofNat 89))], b3_1, 3984, (.slice none 0 0), [], 3987⟩
set_option maxRecDepth 1000000 in
theorem o1576 : EntryOK Try.prog e1576 := Ax.part (K := sks) (l := []) mixed sks_ok trivial (by kernel_rfl)
noncomputable def e1578 : Entry := ⟨102, [(.agg #[(S 263 0 4 1180591620717411303428), (S 264 0 4 1180591620717411303425), (S 265 0 4 1180591620717411303425)]), (S 1084 0 1 1180591620717411303425), (.int .u8 (.ofNat 90))], b3_1, 3989, (.slice none 0 0), [], 3992⟩
set_option maxRecDepth 1000000 in
theorem o1578 : EntryOK Try.prog e1578 := Ax.part (K := sks) (l := []) mixed sks_ok trivial (by kernel_rfl)
noncomputable def e1580 : Entry := ⟨102, [(.agg #[(S 263 0 4 1180591620717411303428), (S 264 0 4 1180591620717411303425), (S 265 0 4 1180591620717411303425)]), (S 1084 0 1 1180591620717411303425), (.int .u8 (.ofNat 91))], b3_1, 3994, (.slice none 0 0), [], 3997⟩
set_option maxRecDepth 1000000 in
theorem o1580 : EntryOK Try.prog e1580 := Ax.part (K := sks) (l := []) mixed sks_ok trivial (by kernel_rfl)
noncomputable def e1582 : Entry := ⟨102, [(.agg #[(S 263 0 4 1180591620717411303428), (S 264 0 4 1180591620717411303425), (S 265 0 4 1180591620717411303425)]), (S 1084 0 1 1180591620717411303425), (.int .u8 (.ofNat 92))], b3_1, 3999, (.slice none 0 0), [], 4002⟩
set_option maxRecDepth 1000000 in
theorem o1582 : EntryOK Try.prog e1582 := Ax.part (K := sks) (l := []) mixed sks_ok trivial (by kernel_rfl)

end Go.Proofs.Ytoocpkmefmjcjaa.munchNil
