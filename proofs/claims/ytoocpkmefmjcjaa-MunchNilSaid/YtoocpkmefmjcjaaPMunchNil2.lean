/-
  Parts of the run of viewportlaw06.MunchNil, in order: what each of these calls gives, for each memory that holds what it looks at. No condition.
-/
import Derived.Test.YtoocpkmefmjcjaaAx1
import Derived.Test.YtoocpkmefmjcjaaKeys
import Derived.Test.YtoocpkmefmjcjaaProg
import Derived.KernelRfl
set_option linter.unusedSimpArgs false
set_option linter.unusedVariables false
namespace Go.Proofs.Ytoocpkmefmjcjaa.munchNil
open Go.Proofs Go.Proofs.Ytoocpkmefmjcjaa Ax

noncomputable def b2_0 : List LBlk := [⟨263, .cells 149 [(.int .u64 (.ofNat 0)), (.int .u64 (.ofNat 0)), (.int .u64 (.ofNat 0)), (.int .u64 (.ofNat 0)), (.int .u64 (.ofNat 0)), (.int .u64 (.ofNat 8589934592)), (.int .u64 (.ofNat 0)), (.int .u64 (.ofNat 0)), (.int .u64 (.ofNat 0)), (.int .u64 (.ofNat 17179869184)), (.int .u64 (.ofNat 0)), (.int .u64 (.ofNat 0)), (.int .u64 (.ofNat 287948901175001088)), (.int .u64 (.ofNat 0)), (.int .u64 (.ofNat 0)), (.int .u64 (.ofNat 0))]⟩, ⟨275, .cells 3 [(I 1), (I 3)]⟩, ⟨217, .cells 3 [(I 2)]⟩, ⟨213, .cells 3 [(I 2)]⟩, ⟨271, .cells 3 [(I 3)]⟩, ⟨264, .cells 47 [(S 275 0 2 1180591620717411303425), (S 217 0 1 1180591620717411303425), (S 213 0 1 1180591620717411303425), (S 271 0 1 1180591620717411303425)]⟩, ⟨265, .cells 3 [(M 0), (I 0), (I 0), (I 1)]⟩, ⟨280, .cells 3 [(I 0)]⟩]
noncomputable def b2_1 : List LBlk := [⟨263, .cells 149 [(.int .u64 (.ofNat 0)), (.int .u64 (.ofNat 0)), (.int .u64 (.ofNat 0)), (.int .u64 (.ofNat 0)), (.int .u64 (.ofNat 0)), (.int .u64 (.ofNat 8589934592)), (.int .u64 (.ofNat 0)), (.int .u64 (.ofNat 0)), (.int .u64 (.ofNat 0)), (.int .u64 (.ofNat 17179869184)), (.int .u64 (.ofNat 0)), (.int .u64 (.ofNat 0)), (.int .u64 (.ofNat 287948901175001088)), (.int .u64 (.ofNat 0)), (.int .u64 (.ofNat 0)), (.int .u64 (.ofNat 0))]⟩, ⟨275, .cells 3 [(I 1), (I 3)]⟩, ⟨217, .cells 3 [(I 2)]⟩, ⟨213, .cells 3 [(I 2)]⟩, ⟨271, .cells 3 [(I 3)]⟩, ⟨264, .cells 47 [(S 275 0 2 1180591620717411303425), (S 217 0 1 1180591620717411303425), (S 213 0 1 1180591620717411303425), (S 271 0 1 1180591620717411303425)]⟩, ⟨265, .cells 3 [(M 0), (I 0), (I 0), (I 1)]⟩, ⟨603, .cells 3 [(I 3)]⟩]
noncomputable def e718 : Entry := ⟨102, [(.agg #[(S 263 0 4 1180591620717411303428), (S 264 0 4 1180591620717411303425), (S 265 0 4 1180591620717411303425)]), (S 280 0 1 1), (.int .u8 (.ofNat 204))], b2_0, 1755, (.slice none 0 0), [], 1759⟩
set_option maxRecDepth 1000000 in
theorem o718 : EntryOK Try.prog e718 := Ax.part (K := sks) (l := []) mixed sks_ok trivial (by kernel_rfl)
noncomputable def e721 : Entry := ⟨102, [(.agg #[(S 263 0 4 1180591620717411303428), (S 264 0 4 1180591620717411303425), (S 265 0 4 1180591620717411303425)]), (S 280 0 1 1), (.int .u8 (.ofNat 205))], b2_0, 1761, (.slice none 0 0), [], 1765⟩
set_option maxRecDepth 1000000 in
theorem o721 : EntryOK Try.prog e721 := Ax.part (K := sks) (l := []) mixed sks_ok trivial (by kernel_rfl)
noncomputable def e724 : Entry := ⟨102, [(.agg #[(S 263 0 4 1180591620717411303428), (S 264 0 4 1180591620717411303425), (S 265 0 4 1180591620717411303425)]), (S 280 0 1 1), (.int .u8 (.ofNat 206))], b2_0, 1767, (.slice none 0 0), [], 1771⟩
set_option maxRecDepth 1000000 in
theorem o724 : EntryOK Try.prog e724 := Ax.part (K := sks) (l := []) mixed sks_ok trivial (by kernel_rfl)
noncomputable def e727 : Entry := ⟨102, [(.agg #[(S 263 0 4 1180591620717411303428), (S 264 0 4 1180591620717411303425), (S 265 0 4 1180591620717411303425)]), (S 280 0 1 1), (.int .u8 (.ofNat 207))], b2_0, 1773, (.slice none 0 0), [], 1777⟩
set_option maxRecDepth 1000000 in
theorem o727 : EntryOK Try.prog e727 := Ax.part (K := sks) (l := []) mixed sks_ok trivial (by kernel_rfl)
noncomputable def e730 : Entry := ⟨102, [(.agg #[(S 263 0 4 1180591620717411303428), (S 264 0 4 1180591620717411303425), (S 265 0 4 1180591620717411303425)]), (S 280 0 1 1), (.int .u8 (.ofNat 208))], b2_0, 1779, (.slice none 0 0), [], 1783⟩
set_option maxRecDepth 1000000 in
theorem o730 : EntryOK Try.prog e730 := Ax.part (K := sks) (l := []) mixed sks_ok trivial (by kernel_rfl)
noncomputable def e733 : Entry := ⟨102, [(.agg #[(S 263 0 4 1180591620717411303428), (S 264 0 4 1180591620717411303425), (S 265 0 4 1180591620717411303425)]), (S 280 0 1 1), (.int .u8 (.ofNat 209))], b2_0, 1785, (.slice none 0 0), [], 1789⟩
set_option maxRecDepth 1000000 in
theorem o733 : EntryOK Try.prog e733 := Ax.part (K := sks) (l := []) mixed sks_ok trivial (by kernel_rfl)
noncomputable def e736 : Entry := ⟨102, [(.agg #[(S 263 0 4 1180591620717411303428), (S 264 0 4 1180591620717411303425), (S 265 0 4 1180591620717411303425)]), (S 280 0 1 1), (.int .u8 (.ofNat 210))], b2_0, 1791, (.slice none 0 0), [], 1795⟩
set_option maxRecDepth 1000000 in
theorem o736 : EntryOK Try.prog e736 := Ax.part (K := sks) (l := []) mixed sks_ok trivial (by kernel_rfl)
noncomputable def e739 : Entry := ⟨102, [(.agg #[(S 263 0 4 1180591620717411303428), (S 264 0 4 1180591620717411303425), (S 265 0 4 1180591620717411303425)]), (S 280 0 1 1), (.int .u8 (.ofNat 211))], b2_0, 1797, (.slice none 0 0), [], 1801⟩
set_option maxRecDepth 1000000 in
theorem o739 : EntryOK Try.prog e739 := Ax.part (K := sks) (l := []) mixed sks_ok trivial (by kernel_rfl)
noncomputable def e742 : Entry := ⟨102, [(.agg #[(S 263 0 4 1180591620717411303428), (S 264 0 4 1180591620717411303425), (S 265 0 4 1180591620717411303425)]), (S 280 0 1 1), (.int .u8 (.ofNat 212))], b2_0, 1803, (.slice none 0 0), [], 1807⟩
set_option maxRecDepth 1000000 in
theorem o742 : EntryOK Try.prog e742 := Ax.part (K := sks) (l := []) mixed sks_ok trivial (by kernel_rfl)
noncomputable def e745 : Entry := ⟨102, [(.agg #[(S 263 0 4 1180591620717411303428), (S 264 0 4 1180591620717411303425), (S 265 0 4 1180591620717411303425)]), (S 280 0 1 1), (.int .u8 (.ofNat 213))], b2_0, 1809, (.slice none 0 0), [], 1813⟩
set_option maxRecDepth 1000000 in
theorem o745 : EntryOK Try.prog e745 := Ax.part (K := sks) (l := []) mixed sks_ok trivial (by kernel_rfl)
noncomputable def e748 : Entry := ⟨102, [(.agg #[(S 263 0 4 1180591620717411303428), (S 264 0 4 1180591620717411303425), (S 265 0 4 1180591620717411303425)]), (S 280 0 1 1), (.int .u8 (.ofNat 214))], b2_0, 1815, (.slice none 0 0), [], 1819⟩
set_option maxRecDepth 1000000 in
theorem o748 : EntryOK Try.prog e748 := Ax.part (K := sks) (l := []) mixed sks_ok trivial (by kernel_rfl)
noncomputable def e751 : Entry := ⟨102, [(.agg #[(S 263 0 4 1180591620717411303428), (S 264 0 4 1180591620717411303425), (S 265 0 4 1180591620717411303425)]), (S 280 0 1 1), (.int .u8 (.ofNat 215))], b2_0, 1821, (.slice none 0 0), [], 1825⟩
set_option maxRecDepth 1000000 in
theorem o751 : EntryOK Try.prog e751 := Ax.part (K := sks) (l := []) mixed sks_ok trivial (by kernel_rfl)
noncomputable def e754 : Entry := ⟨102, [(.agg #[(S 263 0 4 1180591620717411303428), (S 264 0 4 1180591620717411303425), (S 265 0 4 1180591620717411303425)]), (S 280 0 1 1), (.int .u8 (.ofNat 216))], b2_0, 1827, (.slice none 0 0), [], 1831⟩
set_option maxRecDepth 1000000 in
theorem o754 : EntryOK Try.prog e754 := Ax.part (K := sks) (l := []) mixed sks_ok trivial (by kernel_rfl)
noncomputable def e757 : Entry := ⟨102, [(.agg #[(S 263 0 4 1180591620717411303428), (S 264 0 4 1180591620717411303425), (S 265 0 4 1180591620717411303425)]), (S 280 0 1 1), (.int .u8 (.ofNat 217))], b2_0, 1833, (.slice none 0 0), [], 1837⟩
set_option maxRecDepth 1000000 in
theorem o757 : EntryOK Try.prog e757 := Ax.part (K := sks) (l := []) mixed sks_ok trivial (by kernel_rfl)
noncomputable def e760 : Entry := ⟨102, [(.agg #[(S 263 0 4 1180591620717411303428), (S 264 0 4 1180591620717411303425), (S 265 0 4 1180591620717411303425)]), (S 280 0 1 1), (.int .u8 (.ofNat 218))], b2_0, 1839, (.slice none 0 0), [], 1843⟩
set_option maxRecDepth 1000000 in
theorem o760 : EntryOK Try.prog e760 := Ax.part (K := sks) (l := []) mixed sks_ok trivial (by kernel_rfl)
noncomputable def e763 : Entry := ⟨102, [(.agg #[(S 263 0 4 1180591620717411303428), (S 264 0 4 1180591620717411303425), (S 265 0 4 1180591620717411303425)]), (S 280 0 1 1), (.int .u8 (.ofNat 219))], b2_0, 1845, (.slice none 0 0), [], 1849⟩
set_option maxRecDepth 1000000 in
theorem o763 : EntryOK Try.prog e763 := Ax.part (K := sks) (l := []) mixed sks_ok trivial (by kernel_rfl)
noncomputable def e766 : Entry := ⟨102, [(.agg #[(S 263 0 4 1180591620717411303428), (S 264 0 4 1180591620717411303425), (S 265 0 4 1180591620717411303425)]), (S 280 0 1 1), (.int .u8 (.ofNat 220))], b2_0, 1851, (.slice none 0 0), [], 1855⟩
set_option maxRecDepth 1000000 in
theorem o766 : EntryOK Try.prog e766 := Ax.part (K := sks) (l := []) mixed sks_ok trivial (by kernel_rfl)
noncomputable def e769 : Entry := ⟨102, [(.agg #[(S 263 0 4 1180591620717411303428), (S 264 0 4 1180591620717411303425), (S 265 0 4 1180591620717411303425)]), (S 280 0 1 1), (.int .u8 (.ofNat 221))], b2_0, 1857, (.slice none 0 0), [], 1861⟩
set_option maxRecDepth 1000000 in
theorem o769 : EntryOK Try.prog e769 := Ax.part (K := sks) (l := []) mixed sks_ok trivial (by kernel_rfl)
noncomputable def e772 : Entry := ⟨102, [(.agg #[(S 263 0 4 1180591620717411303428), (S 264 0 4 1180591620717411303425), (S 265 0 4 1180591620717411303425)]), (S 280 0 1 1), (.int .u8 (.ofNat 222))], b2_0, 1863, (.slice none 0 0), [], 1867⟩
set_option maxRecDepth 1000000 in
theorem o772 : EntryOK Try.prog e772 := Ax.part (K := sks) (l := []) mixed sks_ok trivial (by kernel_rfl)
noncomputable def e775 : Entry := ⟨102, [(.agg #[(S 263 0 4 1180591620717411303428), (S 264 0 4 1180591620717411303425), (S 265 0 4 1180591620717411303425)]), (S 280 0 1 1), (.int .u8 (.ofNat 223))], b2_0, 1869, (.slice none 0 0), [], 1873⟩
set_option maxRecDepth 1000000 in
theorem o775 : EntryOK Try.prog e775 := Ax.part (K := sks) (l := []) mixed sks_ok trivial (by kernel_rfl)
noncomputable def e778 : Entry := ⟨102, [(.agg #[(S 263 0 4 1180591620717411303428), (S 264 0 4 1180591620717411303425), (S 265 0 4 1180591620717411303425)]), (S 280 0 1 1), (.int .u8 (.ofNat 224))], b2_0, 1875, (.slice none 0 0), [], 1879⟩
set_option maxRecDepth 1000000 in
theorem o778 : EntryOK Try.prog e778 := Ax.part (K := sks) (l := []) mixed sks_ok trivial (by kernel_rfl)
noncomputable def e781 : Entry := ⟨102, [(.agg #[(S 263 0 4 1180591620717411303428), (S 264 0 4 1180591620717411303425), (S 265 0 4 1180591620717411303425)]), (S 280 0 1 1), (.int .u8 (.ofNat 225))], b2_0, 1881, (.slice none 0 0), [], 1885⟩
set_option maxRecDepth 1000000 in
theorem o781 : EntryOK Try.prog e781 := Ax.part (K := sks) (l := []) mixed sks_ok trivial (by kernel_rfl)
noncomputable def e784 : Entry := ⟨102, [(.agg #[(S 263 0 4 1180591620717411303428), (S 264 0 4 1180591620717411303425), (S 265 0 4 1180591620717411303425)]), (S 280 0 1 1), (.int .u8 (.ofNat 226))], b2_0, 1887, (.slice none 0 0), [], 1891⟩
set_option maxRecDepth 1000000 in
theorem o784 : EntryOK Try.prog e784 := Ax.part (K := sks) (l := []) mixed sks_ok trivial (by kernel_rfl)
noncomputable def e787 : Entry := ⟨102, [(.agg #[(S 263 0 4 1180591620717411303428), (S 264 0 4 1180591620717411303425), (S 265 0 4 1180591620717411303425)]), (S 280 0 1 1), (.int .u8 (.ofNat 227))], b2_0, 1893, (.slice none 0 0), [], 1897⟩
set_option maxRecDepth 1000000 in
theorem o787 : EntryOK Try.prog e787 := Ax.part (K := sks) (l := []) mixed sks_ok trivial (by kernel_rfl)
noncomputable def e790 : Entry := ⟨102, [(.agg #[(S 263 0 4 1180591620717411303428), (S 264 0 4 1180591620717411303425), (S 265 0 4 1180591620717411303425)]), (S 280 0 1 1), (.int .u8 (.ofNat 228))], b2_0, 1899, (.slice none 0 0), [], 1903⟩
set_option maxRecDepth 1000000 in
theorem o790 : EntryOK Try.prog e790 := Ax.part (K := sks) (l := []) mixed sks_ok trivial (by kernel_rfl)
noncomputable def e793 : Entry := ⟨102, [(.agg #[(S 263 0 4 1180591620717411303428), (S 264 0 4 1180591620717411303425), (S 265 0 4 1180591620717411303425)]), (S 280 0 1 1), (.int .u8 (.ofNat 229))], b2_0, 1905, (.slice none 0 0), [], 1909⟩
set_option maxRecDepth 1000000 in
theorem o793 : EntryOK Try.prog e793 := Ax.part (K := sks) (l := []) mixed sks_ok trivial (by kernel_rfl)
noncomputable def e796 : Entry := ⟨102, [(.agg #[(S 263 0 4 1180591620717411303428), (S 264 0 4 1180591620717411303425), (S 265 0 4 1180591620717411303425)]), (S 280 0 1 1), (.int .u8 (.ofNat 230))], b2_0, 1911, (.slice none 0 0), [], 1915⟩
set_option maxRecDepth 1000000 in
theorem o796 : EntryOK Try.prog e796 := Ax.part (K := sks) (l := []) mixed sks_ok trivial (by kernel_rfl)
noncomputable def e799 : Entry := ⟨102, [(.agg #[(S 263 0 4 1180591620717411303428), (S 264 0 4 1180591620717411303425), (S 265 0 4 1180591620717411303425)]), (S 280 0 1 1), (.int .u8 (.ofNat 231))], b2_0, 1917, (.slice none 0 0), [], 1921⟩
set_option maxRecDepth 1000000 in
theorem o799 : EntryOK Try.prog e799 := Ax.part (K := sks) (l := []) mixed sks_ok trivial (by kernel_rfl)
noncomputable def e802 : Entry := ⟨102, [(.agg #[(S 263 0 4 1180591620717411303428), (S 264 0 4 1180591620717411303425), (S 265 0 4 1180591620717411303425)]), (S 280 0 1 1), (.int .u8 (.ofNat 232))], b2_0, 1923, (.slice none 0 0), [], 1927⟩
set_option maxRecDepth 1000000 in
theorem o802 : EntryOK Try.prog e802 := Ax.part (K := sks) (l := []) mixed sks_ok trivial (by kernel_rfl)
noncomputable def e805 : Entry := ⟨102, [(.agg #[(S 263 0 4 1180591620717411303428), (S 264 0 4 1180591620717411303425), (S 265 0 4 1180591620717411303425)]), (S 280 0 1 1), (.int .u8 (.ofNat 233))], b2_0, 1929, (.slice none 0 0), [], 1933⟩
set_option maxRecDepth 1000000 in
theorem o805 : EntryOK Try.prog e805 := Ax.part (K := sks) (l := []) mixed sks_ok trivial (by kernel_rfl)
noncomputable def e808 : Entry := ⟨102, [(.agg #[(S 263 0 4 1180591620717411303428), (S 264 0 4 1180591620717411303425), (S 265 0 4 1180591620717411303425)]), (S 280 0 1 1), (.int .u8 (.ofNat 234))], b2_0, 1935, (.slice none 0 0), [], 1939⟩
set_option maxRecDepth 1000000 in
theorem o808 : EntryOK Try.prog e808 := Ax.part (K := sks) (l := []) mixed sks_ok trivial (by kernel_rfl)
noncomputable def e811 : Entry := ⟨102, [(.agg #[(S 263 0 4 1180591620717411303428), (S 264 0 4 1180591620717411303425), (S 265 0 4 1180591620717411303425)]), (S 280 0 1 1), (.int .u8 (.ofNat 235))], b2_0, 1941, (.slice none 0 0), [], 1945⟩
set_option maxRecDepth 1000000 in
theorem o811 : EntryOK Try.prog e811 := Ax.part (K := sks) (l := []) mixed sks_ok trivial (by kernel_rfl)
noncomputable def e814 : Entry := ⟨102, [(.agg #[(S 263 0 4 1180591620717411303428), (S 264 0 4 1180591620717411303425), (S 265 0 4 1180591620717411303425)]), (S 280 0 1 1), (.int .u8 (.ofNat 236))], b2_0, 1947, (.slice none 0 0), [], 1951⟩
set_option maxRecDepth 1000000 in
theorem o814 : EntryOK Try.prog e814 := Ax.part (K := sks) (l := []) mixed sks_ok trivial (by kernel_rfl)
noncomputable def e817 : Entry := ⟨102, [(.agg #[(S 263 0 4 1180591620717411303428), (S 264 0 4 1180591620717411303425), (S 265 0 4 1180591620717411303425)]), (S 280 0 1 1), (.int .u8 (.ofNat 237))], b2_0, 1953, (.slice none 0 0), [], 1957⟩
set_option maxRecDepth 1000000 in
theorem o817 : EntryOK Try.prog e817 := Ax.part (K := sks) (l := []) mixed sks_ok trivial (by kernel_rfl)
noncomputable def e820 : Entry := ⟨102, [(.agg #[(S 263 0 4 1180591620717411303428), (S 264 0 4 1180591620717411303425), (S 265 0 4 1180591620717411303425)]), (S 280 0 1 1), (.int .u8 (.ofNat 238))], b2_0, 1959, (.slice none 0 0), [], 1963⟩
set_option maxRecDepth 1000000 in
theorem o820 : EntryOK Try.prog e820 := Ax.part (K := sks) (l := []) mixed sks_ok trivial (by kernel_rfl)
noncomputable def e823 : Entry := ⟨102, [(.agg #[(S 263 0 4 1180591620717411303428), (S 264 0 4 1180591620717411303425), (S 265 0 4 1180591620717411303425)]), (S 280 0 1 1), (.int .u8 (.ofNat 239))], b2_0, 1965, (.slice none 0 0), [], 1969⟩
set_option maxRecDepth 1000000 in
theorem o823 : EntryOK Try.prog e823 := Ax.part (K := sks) (l := []) mixed sks_ok trivial (by kernel_rfl)
noncomputable def e826 : Entry := ⟨102, [(.agg #[(S 263 0 4 1180591620717411303428), (S 264 0 4 1180591620717411303425), (S 265 0 4 1180591620717411303425)]), (S 280 0 1 1), (.int .u8 (.ofNat 240))], b2_0, 1971, (.slice none 0 0), [], 1975⟩
set_option maxRecDepth 1000000 in
theorem o826 : EntryOK Try.prog e826 := Ax.part (K := sks) (l := []) mixed sks_ok trivial (by kernel_rfl)
noncomputable def e829 : Entry := ⟨102, [(.agg #[(S 263 0 4 1180591620717411303428), (S 264 0 4 1180591620717411303425), (S 265 0 4 1180591620717411303425)]), (S 280 0 1 1), (.int .u8 (.ofNat 241))], b2_0, 1977, (.slice none 0 0), [], 1981⟩
set_option maxRecDepth 1000000 in
theorem o829 : EntryOK Try.prog e829 := Ax.part (K := sks) (l := []) mixed sks_ok trivial (by kernel_rfl)
noncomputable def e832 : Entry := ⟨102, [(.agg #[(S 263 0 4 1180591620717411303428), (S 264 0 4 1180591620717411303425), (S 265 0 4 1180591620717411303425)]), (S 280 0 1 1), (.int .u8 (.ofNat 242))], b2_0, 1983, (.slice none 0 0), [], 1987⟩
set_option maxRecDepth 1000000 in
theorem o832 : EntryOK Try.prog e832 := Ax.part (K := sks) (l := []) mixed sks_ok trivial (by kernel_rfl)
noncomputable def e835 : Entry := ⟨102, [(.agg #[(S 263 0 4 1180591620717411303428), (S 264 0 4 1180591620717411303425), (S 265 0 4 1180591620717411303425)]), (S 280 0 1 1), (.int .u8 (.ofNat 243))], b2_0, 1989, (.slice none 0 0), [], 1993⟩
set_option maxRecDepth 1000000 in
theorem o835 : EntryOK Try.prog e835 := Ax.part (K := sks) (l := []) mixed sks_ok trivial (by kernel_rfl)
noncomputable def e838 : Entry := ⟨102, [(.agg #[(S 263 0 4 1180591620717411303428), (S 264 0 4 1180591620717411303425), (S 265 0 4 1180591620717411303425)]), (S 280 0 1 1), (.int .u8 (.ofNat 244))], b2_0, 1995, (.slice none 0 0), [], 1999⟩
set_option maxRecDepth 1000000 in
theorem o838 : EntryOK Try.prog e838 := Ax.part (K := sks) (l := []) mixed sks_ok trivial (by kernel_rfl)
noncomputable def e841 : Entry := ⟨102, [(.agg #[(S 263 0 4 1180591620717411303428), (S 264 0 4 1180591620717411303425), (S 265 0 4 1180591620717411303425)]), (S 280 0 1 1), (.int .u8 (.ofNat 245))], b2_0, 2001, (.slice none 0 0), [], 2005⟩
set_option maxRecDepth 1000000 in
theorem o841 : EntryOK Try.prog e841 := Ax.part (K := sks) (l := []) mixed sks_ok trivial (by kernel_rfl)
noncomputable def e844 : Entry := ⟨102, [(.agg #[(S 263 0 4 1180591620717411303428), (S 264 0 4 1180591620717411303425), (S 265 0 4 1180591620717411303425)]), (S 280 0 1 1), (.int .u8 (.ofNat 246))], b2_0, 2007, (.slice none 0 0), [], 2011⟩
set_option maxRecDepth 1000000 in
theorem o844 : EntryOK Try.prog e844 := Ax.part (K := sks) (l := []) mixed sks_ok trivial (by kernel_rfl)
noncomputable def e847 : Entry := ⟨102, [(.agg #[(S 263 0 4 1180591620717411303428), (S 264 0 4 1180591620717411303425), (S 265 0 4 1180591620717411303425)]), (S 280 0 1 1), (.int .u8 (.ofNat 247))], b2_0, 2013, (.slice none 0 0), [], 2017⟩
set_option maxRecDepth 1000000 in
theorem o847 : EntryOK Try.prog e847 := Ax.part (K := sks) (l := []) mixed sks_ok trivial (by kernel_rfl)
noncomputable def e850 : Entry := ⟨102, [(.agg #[(S 263 0 4 1180591620717411303428), (S 264 0 4 1180591620717411303425), (S 265 0 4 1180591620717411303425)]), (S 280 0 1 1), (.int .u8 (.ofNat 248))], b2_0, 2019, (.slice none 0 0), [], 2023⟩
set_option maxRecDepth 1000000 in
theorem o850 : EntryOK Try.prog e850 := Ax.part (K := sks) (l := []) mixed sks_ok trivial (by kernel_rfl)
noncomputable def e853 : Entry := ⟨102, [(.agg #[(S 263 0 4 1180591620717411303428), (S 264 0 4 1180591620717411303425), (S 265 0 4 1180591620717411303425)]), (S 280 0 1 1), (.int .u8 (.ofNat 249))], b2_0, 2025, (.slice none 0 0), [], 2029⟩
set_option maxRecDepth 1000000 in
theorem o853 : EntryOK Try.prog e853 := Ax.part (K := sks) (l := []) mixed sks_ok trivial (by kernel_rfl)
noncomputable def e856 : Entry := ⟨102, [(.agg #[(S 263 0 4 1180591620717411303428), (S 264 0 4 1180591620717411303425), (S 265 0 4 1180591620717411303425)]), (S 280 0 1 1), (.int .u8 (.ofNat 250))], b2_0, 2031, (.slice none 0 0), [], 2035⟩
set_option maxRecDepth 1000000 in
theorem o856 : EntryOK Try.prog e856 := Ax.part (K := sks) (l := []) mixed sks_ok trivial (by kernel_rfl)
noncomputable def e859 : Entry := ⟨102, [(.agg #[(S 263 0 4 1180591620717411303428), (S 264 0 4 1180591620717411303425), (S 265 0 4 1180591620717411303425)]), (S 280 0 1 1), (.int .u8 (.ofNat 251))], b2_0, 2037, (.slice none 0 0), [], 2041⟩
set_option maxRecDepth 1000000 in
theorem o859 : EntryOK Try.prog e859 := Ax.part (K := sks) (l := []) mixed sks_ok trivial (by kernel_rfl)
noncomputable def e862 : Entry := ⟨102, [(.agg #[(S 263 0 4 1180591620717411303428), (S 264 0 4 1180591620717411303425), (S 265 0 4 1180591620717411303425)]), (S 280 0 1 1), (.int .u8 (.ofNat 252))], b2_0, 2043, (.slice none 0 0), [], 2047⟩
set_option maxRecDepth 1000000 in
theorem o862 : EntryOK Try.prog e862 := Ax.part (K := sks) (l := []) mixed sks_ok trivial (by kernel_rfl)
noncomputable def e865 : Entry := ⟨102, [(.agg #[(S 263 0 4 1180591620717411303428), (S 264 0 4 1180591620717411303425), (S 265 0 4 1180591620717411303425)]), (S 280 0 1 1), (.int .u8 (.ofNat 253))], b2_0, 2049, (.slice none 0 0), [], 2053⟩
set_option maxRecDepth 1000000 in
theorem o865 : EntryOK Try.prog e865 := Ax.part (K := sks) (l := []) mixed sks_ok trivial (by kernel_rfl)
noncomputable def e868 : Entry := ⟨102, [(.agg #[(S 263 0 4 1180591620717411303428), (S 264 0 4 1180591620717411303425), (S 265 0 4 1180591620717411303425)]), (S 280 0 1 1), (.int .u8 (.ofNat 254))], b2_0, 2055, (.slice none 0 0), [], 2059⟩
set_option maxRecDepth 1000000 in
theorem o868 : EntryOK Try.prog e868 := Ax.part (K := sks) (l := []) mixed sks_ok trivial (by kernel_rfl)
noncomputable def e871 : Entry := ⟨102, [(.agg #[(S 263 0 4 1180591620717411303428), (S 264 0 4 1180591620717411303425), (S 265 0 4 1180591620717411303425)]), (S 280 0 1 1), (.int .u8 (.ofNat 255))], b2_0, 2061, (.slice none 0 0), [], 2065⟩
set_option maxRecDepth 1000000 in
theorem o871 : EntryOK Try.prog e871 := Ax.part (K := sks) (l := []) mixed sks_ok trivial (by kernel_rfl)
noncomputable def e875 : Entry := ⟨102, [(.agg #[(S 263 0 4 1180591620717411303428), (S 264 0 4 1180591620717411303425), (S 265 0 4 1180591620717411303425)]), (S 603 0 1 1180591620717411303425), (.int .u8 (.ofNat 0))], b2_1, 2078, (.slice none 0 0), [], 2081⟩
set_option maxRecDepth 1000000 in
theorem o875 : EntryOK Try.prog e875 := Ax.part (K := sks) (l := []) mixed sks_ok trivial (by kernel_rfl)
noncomputable def e877 : Entry := ⟨102, [(.agg #[(S 263 0 4 1180591620717411303428), (S 264 0 4 1180591620717411303425), (S 265 0 4 1180591620717411303425)]), (S 603 0 1 1180591620717411303425), (.int .u8 (.ofNat 1))], b2_1, 2083, (.slice none 0 0), [], 2086⟩
set_option maxRecDepth 1000000 in
theorem o877 : EntryOK Try.prog e877 := Ax.part (K := sks) (l := []) mixed sks_ok trivial (by kernel_rfl)
noncomputable def e879 : Entry := ⟨102, [(.agg #[(S 263 0 4 1180591620717411303428), (S 264 0 4 1180591620717411303425), (S 265 0 4 1180591620717411303425)]), (S 603 0 1 1180591620717411303425), (.int .u8 (.ofNat 2))], b2_1, 2088, (.slice none 0 0), [], 2091⟩
set_option maxRecDepth 1000000 in
theorem o879 : EntryOK Try.prog e879 := Ax.part (K := sks) (l := []) mixed sks_ok trivial (by kernel_rfl)
noncomputable def e881 : Entry := ⟨102, [(.agg #[(S 263 0 4 1180591620717411303428), (S 264 0 4 1180591620717411303425), (S 265 0 4 1180591620717411303425)]), (S 603 0 1 1180591620717411303425), (.int .u8 (.ofNat 3))], b2_1, 2093, (.slice none 0 0), [], 2096⟩
set_option maxRecDepth 1000000 in
theorem o881 : EntryOK Try.prog e881 := Ax.part (K := sks) (l := []) mixed sks_ok trivial (by kernel_rfl)
noncomputable def e883 : Entry := ⟨102, [(.agg #[(S 263 0 4 1180591620717411303428), (S 264 0 4 1180591620717411303425), (S 265 0 4 1180591620717411303425)]), (S 603 0 1 1180591620717411303425), (.int .u8 (.ofNat 4))], b2_1, 2098, (.slice none 0 0), [], 2101⟩
set_option maxRecDepth 1000000 in
theorem o883 : EntryOK Try.prog e883 := Ax.part (K := sks) (l := []) mixed sks_ok trivial (by kernel_rfl)
noncomputable def e885 : Entry := ⟨102, [(.agg #[(S 263 0 4 1180591620717411303428), (S 264 0 4 1180591620717411303425), (S 265 0 4 1180591620717411303425)]), (S 603 0 1 1180591620717411303425), (.int .u8 (.ofNat 5))], b2_1, 2103, (.slice none 0 0), [], 2106⟩
set_option maxRecDepth 1000000 in
theorem o885 : EntryOK Try.prog e885 := Ax.part (K := sks) (l := []) mixed sks_ok trivial (by kernel_rfl)
noncomputable def e887 : Entry := ⟨102, [(.agg #[(S 263 0 4 1180591620717411303428), (S 264 0 4 1180591620717411303425), (S 265 0 4 1180591620717411303425)]), (S 603 0 1 1180591620717411303425), (.int .u8 (.ofNat 6))], b2_1, 2108, (.slice none 0 0), [], 2111⟩
set_option maxRecDepth 1000000 in
theorem o887 : EntryOK Try.prog e887 := Ax.part (K := sks) (l := []) mixed sks_ok trivial (by kernel_rfl)
noncomputable def e889 : Entry := ⟨102, [(.agg #[(S 263 0 4 1180591620717411303428), (S 264 0 4 1180591620717411303425), (S 265 0 4 1180591620717411303425)]), (S 603 0 1 1180591620717411303425), (.int .u8 (.ofNat 7))], b2_1, 2113, (.slice none 0 0), [], 2116⟩
set_option maxRecDepth 1000000 in
theorem o889 : EntryOK Try.prog e889 := Ax.part (K := sks) (l := []) mixed sks_ok trivial (by kernel_rfl)
noncomputable def e891 : Entry := ⟨102, [(.agg #[(S 263 0 4 1180591620717411303428), (S 264 0 4 1180591620717411303425), (S 265 0 4 1180591620717411303425)]), (S 603 0 1 1180591620717411303425), (.int .u8 (.ofNat 8))], b2_1, 2118, (.slice none 0 0), [], 2121⟩
set_option maxRecDepth 1000000 in
theorem o891 : EntryOK Try.prog e891 := Ax.part (K := sks) (l := []) mixed sks_ok trivial (by kernel_rfl)
noncomputable def e893 : Entry := ⟨102, [(.agg #[(S 263 0 4 1180591620717411303428), (S 264 0 4 1180591620717411303425), (S 265 0 4 1180591620717411303425)]), (S 603 0 1 1180591620717411303425), (.int .u8 (.ofNat 9))], b2_1, 2123, (.slice none 0 0), [], 2126⟩
set_option maxRecDepth 1000000 in
theorem o893 : EntryOK Try.prog e893 := Ax.part (K := sks) (l := []) mixed sks_ok trivial (by kernel_rfl)
noncomputable def e895 : Entry := ⟨102, [(.agg #[(S 263 0 4 1180591620717411303428), (S 264 0 4 1180591620717411303425), (S 265 0 4 1180591620717411303425)]), (S 603 0 1 1180591620717411303425), (.int .u8 (.ofNat 10))], b2_1, 2128, (.slice none 0 0), [], 2131⟩
set_option maxRecDepth 1000000 in
theorem o895 : EntryOK Try.prog e895 := Ax.part (K := sks) (l := []) mixed sks_ok trivial (by kernel_rfl)
noncomputable def e897 : Entry := ⟨102, [(.agg #[(S 263 0 4 1180591620717411303428), (S 264 0 4 1180591620717411303425), (S 265 0 4 1180591620717411303425)]), (S 603 0 1 1180591620717411303425), (.int .u8 (.ofNat 11))], b2_1, 2133, (.slice none 0 0), [], 2136⟩
set_option maxRecDepth 1000000 in
theorem o897 : EntryOK Try.prog e897 := Ax.part (K := sks) (l := []) mixed sks_ok trivial (by kernel_rfl)
noncomputable def e899 : Entry := ⟨102, [(.agg #[(S 263 0 4 1180591620717411303428), (S 264 0 4 1180591620717411303425), (S 265 0 4 1180591620717411303425)]), (S 603 0 1 1180591620717411303425), (.int .u8 (.ofNat 12))], b2_1, 2138, (.slice none 0 0), [], 2141⟩
set_option maxRecDepth 1000000 in
theorem o899 : EntryOK Try.prog e899 := Ax.part (K := sks) (l := []) mixed sks_ok trivial (by kernel_rfl)
noncomputable def e901 : Entry := ⟨102, [(.agg #[(S 263 0 4 1180591620717411303428), (S 264 0 4 1180591620717411303425), (S 265 0 4 1180591620717411303425)]), (S 603 0 1 1180591620717411303425), (.int .u8 (.ofNat 13))], b2_1, 2143, (.slice none 0 0), [], 2146⟩
set_option maxRecDepth 1000000 in
theorem o901 : EntryOK Try.prog e901 := Ax.part (K := sks) (l := []) mixed sks_ok trivial (by kernel_rfl)
noncomputable def e903 : Entry := ⟨102, [(.agg #[(S 263 0 4 1180591620717411303428), (S 264 0 4 1180591620717411303425), (S 265 0 4 1180591620717411303425)]), (S 603 0 1 1180591620717411303425), (.int .u8 (.ofNat 14))], b2_1, 2148, (.slice none 0 0), [], 2151⟩
set_option maxRecDepth 1000000 in
theorem o903 : EntryOK Try.prog e903 := Ax.part (K := sks) (l := []) mixed sks_ok trivial (by kernel_rfl)
noncomputable def e905 : Entry := ⟨102, [(.agg #[(S 263 0 4 1180591620717411303428), (S 264 0 4 1180591620717411303425), (S 265 0 4 1180591620717411303425)]), (S 603 0 1 1180591620717411303425), (.int .u8 (.ofNat 15))], b2_1, 2153, (.slice none 0 0), [], 2156⟩
set_option maxRecDepth 1000000 in
theorem o905 : EntryOK Try.prog e905 := Ax.part (K := sks) (l := []) mixed sks_ok trivial (by kernel_rfl)
noncomputable def e907 : Entry := ⟨102, [(.agg #[(S 263 0 4 1180591620717411303428), (S 264 0 4 1180591620717411303425), (S 265 0 4 1180591620717411303425)]), (S 603 0 1 1180591620717411303425), (.int .u8 (.ofNat 16))], b2_1, 2158, (.slice none 0 0), [], 2161⟩
set_option maxRecDepth 1000000 in
theorem o907 : EntryOK Try.prog e907 := Ax.part (K := sks) (l := []) mixed sks_ok trivial (by kernel_rfl)
noncomputable def e909 : Entry := ⟨102, [(.agg #[(S 263 0 4 1180591620717411303428), (S 264 0 4 1180591620717411303425), (S 265 0 4 1180591620717411303425)]), (S 603 0 1 1180591620717411303425), (.int .u8 (.ofNat 17))], b2_1, 2163, (.slice none 0 0), [], 2166⟩
set_option maxRecDepth 1000000 in
theorem o909 : EntryOK Try.prog e909 := Ax.part (K := sks) (l := []) mixed sks_ok trivial (by kernel_rfl)
noncomputable def e911 : Entry := ⟨102, [(.agg #[(S 263 0 4 1180591620717411303428), (S 264 0 4 1180591620717411303425), (S 265 0 4 1180591620717411303425)]), (S 603 0 1 1180591620717411303425), (.int .u8 (.ofNat 18))], b2_1, 2168, (.slice none 0 0), [], 2171⟩
set_option maxRecDepth 1000000 in
theorem o911 : EntryOK Try.prog e911 := Ax.part (K := sks) (l := []) mixed sks_ok trivial (by kernel_rfl)
noncomputable def e913 : Entry := ⟨102, [(.agg #[(S 263 0 4 1180591620717411303428), (S 264 0 4 1180591620717411303425), (S 265 0 4 1180591620717411303425)]), (S 603 0 1 1180591620717411303425), (.int .u8 (.ofNat 19))], b2_1, 2173, (.slice none 0 0), [], 2176⟩
set_option maxRecDepth 1000000 in
theorem o913 : EntryOK Try.prog e913 := Ax.part (K := sks) (l := []) mixed sks_ok trivial (by kernel_rfl)
noncomputable def e915 : Entry := ⟨102, [(.agg #[(S 263 0 4 1180591620717411303428), (S 264 0 4 1180591620717411303425), (S 265 0 4 1180591620717411303425)]), (S 603 0 1 1180591620717411303425), (.int .u8 (.ofNat 20))], b2_1, 2178, (.slice none 0 0), [], 2181⟩
set_option maxRecDepth 1000000 in
theorem o915 : EntryOK Try.prog e915 := Ax.part (K := sks) (l := []) mixed sks_ok trivial (by kernel_rfl)
noncomputable def e917 : Entry := ⟨102, [(.agg #[(S 263 0 4 1180591620717411303428), (S 264 0 4 1180591620717411303425), (S 265 0 4 1180591620717411303425)]), (S 603 0 1 1180591620717411303425), (.int .u8 (.ofNat 21))], b2_1, 2183, (.slice none 0 0), [], 2186⟩
set_option maxRecDepth 1000000 in
theorem o917 : EntryOK Try.prog e917 := Ax.part (K := sks) (l := []) mixed sks_ok trivial (by kernel_rfl)
noncomputable def e919 : Entry := ⟨102, [(.agg #[(S 263 0 4 1180591620717411303428), (S 264 0 4 1180591620717411303425), (S 265 0 4 1180591620717411303425)]), (S 603 0 1 1180591620717411303425), (.int .u8 (.ofNat 22))], b2_1, 2188, (.slice none 0 0), [], 2191⟩
set_option maxRecDepth 1000000 in
theorem o919 : EntryOK Try.prog e919 := Ax.part (K := sks) (l := []) mixed sks_ok trivial (by kernel_rfl)
noncomputable def e921 : Entry := ⟨102, [(.agg #[(S 263 0 4 1180591620717411303428), (S 264 0 4 1180591620717411303425), (S 265 0 4 1180591620717411303425)]), (S 603 0 1 1180591620717411303425), (.int .u8 (.ofNat 23))], b2_1, 2193, (.slice none 0 0), [], 2196⟩
set_option maxRecDepth 1000000 in
theorem o921 : EntryOK Try.prog e921 := Ax.part (K := sks) (l := []) mixed sks_ok trivial (by kernel_rfl)
noncomputable def e923 : Entry := ⟨102, [(.agg #[(S 263 0 4 1180591620717411303428), (S 264 0 4 1180591620717411303425), (S 265 0 4 1180591620717411303425)]), (S 603 0 1 1180591620717411303425), (.int .u8 (.ofNat 24))], b2_1, 2198, (.slice none 0 0), [], 2201⟩
set_option maxRecDepth 1000000 in
theorem o923 : EntryOK Try.prog e923 := Ax.part (K := sks) (l := []) mixed sks_ok trivial (by kernel_rfl)
noncomputable def e925 : Entry := ⟨102, [(.agg #[(S 263 0 4 1180591620717411303428), (S 264 0 4 1180591620717411303425), (S 265 0 4 1180591620717411303425)]), (S 603 0 1 1180591620717411303425), (.int .u8 (.ofNat 25))], b2_1, 2203, (.slice none 0 0), [], 2206⟩
set_option maxRecDepth 1000000 in
theorem o925 : EntryOK Try.prog e925 := Ax.part (K := sks) (l := []) mixed sks_ok trivial (by kernel_rfl)
noncomputable def e927 : Entry := ⟨102, [(.agg #[(S 263 0 4 1180591620717411303428), (S 264 0 4 1180591620717411303425), (S 265 0 4 1180591620717411303425)]), (S 603 0 1 1180591620717411303425), (.int .u8 (.ofNat 26))], b2_1, 2208, (.slice none 0 0), [], 2211⟩
set_option maxRecDepth 1000000 in
theorem o927 : EntryOK Try.prog e927 := Ax.part (K := sks) (l := []) mixed sks_ok trivial (by kernel_rfl)
noncomputable def e929 : Entry := ⟨102, [(.agg #[(S 263 0 4 1180591620717411303428), (S 264 0 4 1180591620717411303425), (S 265 0 4 1180591620717411303425)]), (S 603 0 1 1180591620717411303425), (.int .u8 (.ofNat 27))], b2_1, 2213, (.slice none 0 0), [], 2216⟩
set_option maxRecDepth 1000000 in
theorem o929 : EntryOK Try.prog e929 := Ax.part (K := sks) (l := []) mixed sks_ok trivial (by kernel_rfl)
noncomputable def e931 : Entry := ⟨102, [(.agg #[(S 263 0 4 1180591620717411303428), (S 264 0 4 1180591620717411303425), (S 265 0 4 1180591620717411303425)]), (S 603 0 1 1180591620717411303425), (.int .u8 (.ofNat 28))], b2_1, 2218, (.slice none 0 0), [], 2221⟩
set_option maxRecDepth 1000000 in
theorem o931 : EntryOK Try.prog e931 := Ax.part (K := sks) (l := []) mixed sks_ok trivial (by kernel_rfl)
noncomputable def e933 : Entry := ⟨102, [(.agg #[(S 263 0 4 1180591620717411303428), (S 264 0 4 1180591620717411303425), (S 265 0 4 1180591620717411303425)]), (S 603 0 1 1180591620717411303425), (.int .u8 (.ofNat 29))], b2_1, 2223, (.slice none 0 0), [], 2226⟩
set_option maxRecDepth 1000000 in
theorem o933 : EntryOK Try.prog e933 := Ax.part (K := sks) (l := []) mixed sks_ok trivial (by kernel_rfl)
noncomputable def e935 : Entry := ⟨102, [(.agg #[(S 263 0 4 1180591620717411303428), (S 264 0 4 1180591620717411303425), (S 265 0 4 1180591620717411303425)]), (S 603 0 1 1180591620717411303425), (.int .u8 (.ofNat 30))], b2_1, 2228, (.slice none 0 0), [], 2231⟩
set_option maxRecDepth 1000000 in
theorem o935 : EntryOK Try.prog e935 := Ax.part (K := sks) (l := []) mixed sks_ok trivial (by kernel_rfl)
noncomputable def e937 : Entry := ⟨102, [(.agg #[(S 263 0 4 1180591620717411303428), (S 264 0 4 1180591620717411303425), (S 265 0 4 1180591620717411303425)]), (S 603 0 1 1180591620717411303425), (.int .u8 (.ofNat 31))], b2_1, 2233, (.slice none 0 0), [], 2236⟩
set_option maxRecDepth 1000000 in
theorem o937 : EntryOK Try.prog e937 := Ax.part (K := sks) (l := []) mixed sks_ok trivial (by kernel_rfl)
noncomputable def e939 : Entry := ⟨102, [(.agg #[(S 263 0 4 1180591620717411303428), (S 264 0 4 1180591620717411303425), (S 265 0 4 1180591620717411303425)]), (S 603 0 1 1180591620717411303425), (.int .u8 (.ofNat 32))], b2_1, 2238, (.slice none 0 0), [], 2241⟩
set_option maxRecDepth 1000000 in
theorem o939 : EntryOK Try.prog e939 := Ax.part (K := sks) (l := []) mixed sks_ok trivial (by kernel_rfl)
noncomputable def e941 : Entry := ⟨102, [(.agg #[(S 263 0 4 1180591620717411303428), (S 264 0 4 1180591620717411303425), (S 265 0 4 1180591620717411303425)]), (S 603 0 1 1180591620717411303425), (.int .u8 (.ofNat 33))], b2_1, 2243, (.slice none 0 0), [], 2246⟩
set_option maxRecDepth 1000000 in
theorem o941 : EntryOK Try.prog e941 := Ax.part (K := sks) (l := []) mixed sks_ok trivial (by kernel_rfl)
noncomputable def e943 : Entry := ⟨102, [(.agg #[(S 263 0 4 1180591620717411303428), (S 264 0 4 1180591620717411303425), (S 265 0 4 1180591620717411303425)]), (S 603 0 1 1180591620717411303425), (.int .u8 (.ofNat 34))], b2_1, 2248, (.slice none 0 0), [], 2251⟩
set_option maxRecDepth 1000000 in
theorem o943 : EntryOK Try.prog e943 := Ax.part (K := sks) (l := []) mixed sks_ok trivial (by kernel_rfl)
noncomputable def e945 : Entry := ⟨102, [(.agg #[(S 263 0 4 1180591620717411303428), (S 264 0 4 1180591620717411303425), (S 265 0 4 1180591620717411303425)]), (S 603 0 1 1180591620717411303425), (.int .u8 (.ofNat 35))], b2_1, 2253, (.slice none 0 0), [], 2256⟩
set_option maxRecDepth 1000000 in
theorem o945 : EntryOK Try.prog e945 := Ax.part (K := sks) (l := []) mixed sks_ok trivial (by kernel_rfl)
noncomputable def e947 : Entry := ⟨102, [(.agg #[(S 263 0 4 1180591620717411303428), (S 264 0 4 1180591620717411303425), (S 265 0 4 1180591620717411303425)]), (S 603 0 1 1180591620717411303425), (.int .u8 (.ofNat 36))], b2_1, 2258, (.slice none 0 0), [], 2261⟩
set_option maxRecDepth 1000000 in
theorem o947 : EntryOK Try.prog e947 := Ax.part (K := sks) (l := []) mixed sks_ok trivial (by kernel_rfl)
noncomputable def e949 : Entry := ⟨102, [(.agg #[(S 263 0 4 1180591620717411303428), (S 264 0 4 1180591620717411303425), (S 265 0 4 1180591620717411303425)]), (S 603 0 1 1180591620717411303425), (.int .u8 (.ofNat 37))], b2_1, 2263, (.slice none 0 0), [], 2266⟩
set_option maxRecDepth 1000000 in
theorem o949 : EntryOK Try.prog e949 := Ax.part (K := sks) (l := []) mixed sks_ok trivial (by kernel_rfl)
noncomputable def e951 : Entry := ⟨102, [(.agg #[(S 263 0 4 1180591620717411303428), (S 264 0 4 1180591620717411303425), (S 265 0 4 1180591620717411303425)]), (S 603 0 1 1180591620717411303425), (.int .u8 (.ofNat 38))], b2_1, 2268, (.slice none 0 0), [], 2271⟩
set_option maxRecDepth 1000000 in
theorem o951 : EntryOK Try.prog e951 := Ax.part (K := sks) (l := []) mixed sks_ok trivial (by kernel_rfl)
noncomputable def e953 : Entry := ⟨102, [(.agg #[(S 263 0 4 1180591620717411303428), (S 264 0 4 1180591620717411303425), (S 265 0 4 1180591620717411303425)]), (S 603 0 1 1180591620717411303425), (.int .u8 (.ofNat 39))], b2_1, 2273, (.slice none 0 0), [], 2276⟩
set_option maxRecDepth 1000000 in
theorem o953 : EntryOK Try.prog e953 := Ax.part (K := sks) (l := []) mixed sks_ok trivial (by kernel_rfl)
noncomputable def e955 : Entry := ⟨102, [(.agg #[(S 263 0 4 1180591620717411303428), (S 264 0 4 1180591620717411303425), (S 265 0 4 1180591620717411303425)]), (S 603 0 1 1180591620717411303425), (.int .u8 (.ofNat 40))], b2_1, 2278, (.slice none 0 0), [], 2281⟩
set_option maxRecDepth 1000000 in
theorem o955 : EntryOK Try.prog e955 := Ax.part (K := sks) (l := []) mixed sks_ok trivial (by kernel_rfl)
noncomputable def e957 : Entry := ⟨102, [(.agg #[(S 263 0 4 1180591620717411303428), (S 264 0 4 1180591620717411303425), (S 265 0 4 1180591620717411303425)]), (S 603 0 1 1180591620717411303425), (.int .u8 (.ofNat 41))], b2_1, 2283, (.slice none 0 0), [], 2286⟩
set_option maxRecDepth 1000000 in
theorem o957 : EntryOK Try.prog e957 := Ax.part (K := sks) (l := []) mixed sks_ok trivial (by kernel_rfl)
noncomputable def e959 : Entry := ⟨102, [(.agg #[(S 263 0 4 1180591620717411303428), (S 264 0 4 1180591620717411303425), (S 265 0 4 1180591620717411303425)]), (S 603 0 1 1180591620717411303425), (.int .u8 (.ofNat 42))], b2_1, 2288, (.slice none 0 0), [], 2291⟩
set_option maxRecDepth 1000000 in
theorem o959 : EntryOK Try.prog e959 := Ax.part (K := sks) (l := []) mixed sks_ok trivial (by kernel_rfl)
noncomputable def e961 : Entry := ⟨102, [(.agg #[(S 263 0 4 1180591620717411303428), (S 264 0 4 1180591620717411303425), (S 265 0 4 1180591620717411303425)]), (S 603 0 1 1180591620717411303425), (.int .u8 (.ofNat 43))], b2_1, 2293, (.slice none 0 0), [], 2296⟩
set_option maxRecDepth 1000000 in
theorem o961 : EntryOK Try.prog e961 := Ax.part (K := sks) (l := []) mixed sks_ok trivial (by kernel_rfl)
noncomputable def e963 : Entry := ⟨102, [(.agg #[(S 263 0 4 1180591620717411303428), (S 264 0 4 1180591620717411303425), (S 265 0 4 1180591620717411303425)]), (S 603 0 1 1180591620717411303425), (.int .u8 (.ofNat 44))], b2_1, 2298, (.slice none 0 0), [], 2301⟩
set_option maxRecDepth 1000000 in
theorem o963 : EntryOK Try.prog e963 := Ax.part (K := sks) (l := []) mixed sks_ok trivial (by kernel_rfl)
noncomputable def e965 : Entry := ⟨102, [(.agg #[(S 263 0 4 1180591620717411303428), (S 264 0 4 1180591620717411303425), (S 265 0 4 1180591620717411303425)]), (S 603 0 1 1180591620717411303425), (.int .u8 (.ofNat 45))], b2_1, 2303, (.slice none 0 0), [], 2306⟩
set_option maxRecDepth 1000000 in
theorem o965 : EntryOK Try.prog e965 := Ax.part (K := sks) (l := []) mixed sks_ok trivial (by kernel_rfl)
noncomputable def e967 : Entry := ⟨102, [(.agg #[(S 263 0 4 1180591620717411303428), (S 264 0 4 1180591620717411303425), (S 265 0 4 1180591620717411303425)]), (S 603 0 1 1180591620717411303425), (.int .u8 (.ofNat 46))], b2_1, 2308, (.slice none 0 0), [], 2311⟩
set_option maxRecDepth 1000000 in
theorem o967 : EntryOK Try.prog e967 := Ax.part (K := sks) (l := []) mixed sks_ok trivial (by kernel_rfl)
noncomputable def e969 : Entry := ⟨102, [(.agg #[(S 263 0 4 1180591620717411303428), (S 264 0 4 1180591620717411303425), (S 265 0 4 1180591620717411303425)]), (S 603 0 1 1180591620717411303425), (.int .u8 (.ofNat 47))], b2_1, 2313, (.slice none 0 0), [], 2316⟩
set_option maxRecDepth 1000000 in
theorem o969 : EntryOK Try.prog e969 := Ax.part (K := sks) (l := []) mixed sks_ok trivial (by kernel_rfl)
noncomputable def e971 : Entry := ⟨102, [(.agg #[(S 263 0 4 1180591620717411303428), (S 264 0 4 1180591620717411303425), (S 265 0 4 1180591620717411303425)]), (S 603 0 1 1180591620717411303425), (.int .u8 (.ofNat 48))], b2_1, 2318, (S 2322 0 1 1180591620717411303425), [⟨2322, .cells 3 [(I 3)]⟩], 2323⟩
set_option maxRecDepth 1000000 in
theorem o971 : EntryOK Try.prog e971 := Ax.part (K := sks) (l := []) mixed sks_ok trivial (by kernel_rfl)
noncomputable def e974 : Entry := ⟨102, [(.agg #[(S 263 0 4 1180591620717411303428), (S 264 0 4 1180591620717411303425), (S 265 0 4 1180591620717411303425)]), (S 603 0 1 1180591620717411303425), (.int .u8 (.ofNat 49))], b2_1, 2340, (S 2344 0 1 1180591620717411303425), [⟨2344, .cells 3 [(I 3)]⟩], 2345⟩
set_option maxRecDepth 1000000 in
theorem o974 : EntryOK Try.prog e974 := Ax.part (K := sks) (l := []) mixed sks_ok trivial (by kernel_rfl)
noncomputable def e977 : Entry := ⟨102, [(.agg #[(S 263 0 4 1180591620717411303428), (S 264 0 4 1180591620717411303425), (S 265 0 4 1180591620717411303425)]), (S 603 0 1 1180591620717411303425), (.int .u8 (.ofNat 50))], b2_1, 2362, (S 2366 0 1 1180591620717411303425), [⟨2366, .cells 3 [(I 3)]⟩], 2367⟩
set_option maxRecDepth 1000000 in
theorem o977 : EntryOK Try.prog e977 := Ax.part (K := sks) (l := []) mixed sks_ok trivial (by kernel_rfl)
noncomputable def e980 : Entry := ⟨102, [(.agg #[(S 263 0 4 1180591620717411303428), (S 264 0 4 1180591620717411303425), (S 265 0 4 1180591620717411303425)]), (S 603 0 1 1180591620717411303425), (.int .u8 (.ofNat 51))], b2_1, 2384, (S 2388 0 1 1180591620717411303425), [⟨2388, .cells 3 [(I 3)]⟩], 2389⟩
set_option maxRecDepth 1000000 in
theorem o980 : EntryOK Try.prog e980 := Ax.part (K := sks) (l := []) mixed sks_ok trivial (by kernel_rfl)
noncomputable def e983 : Entry := ⟨102, [(.agg #[(S 263 0 4 1180591620717411303428), (S 264 0 4 1180591620717411303425), (S 265 0 4 1180591620717411303425)]), (S 603 0 1 1180591620717411303425), (.int .u8 (.ofNat 52))], b2_1, 2406, (S 2410 0 1 1180591620717411303425), [⟨2410, .cells 3 [(I 3)]⟩], 2411⟩
set_option maxRecDepth 1000000 in
theorem o983 : EntryOK Try.prog e983 := Ax.part (K := sks) (l := []) mixed sks_ok trivial (by kernel_rfl)
noncomputable def e986 : Entry := ⟨102, [(.agg #[(S 263 0 4 1180591620717411303428), (S 264 0 4 1180591620717411303425), (S 265 0 4 1180591620717411303425)]), (S 603 0 1 1180591620717411303425), (.int .u8 (.ofNat 53))], b2_1, 2428, (S 2432 0 1 1180591620717411303425), [⟨2432, .cells 3 [(I 3)]⟩], 2433⟩
set_option maxRecDepth 1000000 in
theorem o986 : EntryOK Try.prog e986 := Ax.part (K := sks) (l := []) mixed sks_ok trivial (by kernel_rfl)
noncomputable def e989 : Entry := ⟨102, [(.agg #[(S 263 0 4 1180591620717411303428), (S 264 0 4 1180591620717411303425), (S 265 0 4 1180591620717411303425)]), (S 603 0 1 1180591620717411303425), (.int .u8 (.ofNat 54))], b2_1, 2450, (S 2454 0 1 1180591620717411303425), [⟨2454, .cells 3 [(I 3)]⟩], 2455⟩
set_option maxRecDepth 1000000 in
theorem o989 : EntryOK Try.prog e989 := Ax.part (K := sks) (l := []) mixed sks_ok trivial (by kernel_rfl)
noncomputable def e992 : Entry := ⟨102, [(.agg #[(S 263 0 4 1180591620717411303428), (S 264 0 4 1180591620717411303425), (S 265 0 4 1180591620717411303425)]), (S 603 0 1 1180591620717411303425), (.int .u8 (.ofNat 55))], b2_1, 2472, (S 2476 0 1 1180591620717411303425), [⟨2476, .cells 3 [(I 3)]⟩], 2477⟩
set_option maxRecDepth 1000000 in
theorem o992 : EntryOK Try.prog e992 := Ax.part (K := sks) (l := []) mixed sks_ok trivial (by kernel_rfl)
noncomputable def e995 : Entry := ⟨102, [(.agg #[(S 263 0 4 1180591620717411303428), (S 264 0 4 1180591620717411303425), (S 265 0 4 1180591620717411303425)]), (S 603 0 1 1180591620717411303425), (.int .u8 (.ofNat 56))], b2_1, 2494, (S 2498 0 1 1180591620717411303425), [⟨2498, .cells 3 [(I 3)]⟩], 2499⟩
set_option maxRecDepth 1000000 in
theorem o995 : EntryOK Try.prog e995 := Ax.part (K := sks) (l := []) mixed sks_ok trivial (by kernel_rfl)
noncomputable def e998 : Entry := ⟨102, [(.agg #[(S 263 0 4 1180591620717411303428), (S 264 0 4 1180591620717411303425), (S 265 0 4 1180591620717411303425)]), (S 603 0 1 1180591620717411303425), (.int .u8 (.ofNat 57))], b2_1, 2516, (S 2520 0 1 1180591620717411303425), [⟨2520, .cells 3 [(I 3)]⟩], 2521⟩
set_option maxRecDepth 1000000 in
theorem o998 : EntryOK Try.prog e998 := Ax.part (K := sks) (l := []) mixed sks_ok trivial (by kernel_rfl)
noncomputable def e1001 : Entry := ⟨102, [(.agg #[(S 263 0 4 1180591620717411303428), (S 264 0 4 1180591620717411303425), (S 265 0 4 1180591620717411303425)]), (S 603 0 1 1180591620717411303425), (.int .u8 (.ofNat 58))], b2_1, 2538, (.slice none 0 0), [], 2541⟩
set_option maxRecDepth 1000000 in
theorem o1001 : EntryOK Try.prog e1001 := Ax.part (K := sks) (l := []) mixed sks_ok trivial (by kernel_rfl)
noncomputable def e1003 : Entry := ⟨102, [(.agg #[(S 263 0 4 1180591620717411303428), (S 264 0 4 1180591620717411303425), (S 265 0 4 1180591620717411303425)]), (S 603 0 1 1180591620717411303425), (.int .u8 (.ofNat 59))], b2_1, 2543, (.slice none 0 0), [], 2546⟩
set_option maxRecDepth 1000000 in
theorem o1003 : EntryOK Try.prog e1003 := Ax.part (K := sks) (l := []) mixed sks_ok trivial (by kernel_rfl)
noncomputable def e1005 : Entry := ⟨102, [(.agg #[(S 263 0 4 1180591620717411303428), (S 264 0 4 1180591620717411303425), (S 265 0 4 1180591620717411303425)]), (S 603 0 1 1180591620717411303425), (.int .u8 (.ofNat 60))], b2_1, 2548, (.slice none 0 0), [], 2551⟩
set_option maxRecDepth 1000000 in
theorem o1005 : EntryOK Try.prog e1005 := Ax.part (K := sks) (l := []) mixed sks_ok trivial (by kernel_rfl)
noncomputable def e1007 : Entry := ⟨102, [(.agg #[(S 263 0 4 1180591620717411303428), (S 264 0 4 1180591620717411303425), (S 265 0 4 1180591620717411303425)]), (S 603 0 1 1180591620717411303425), (.int .u8 (.ofNat 61))], b2_1, 2553, (.slice none 0 0), [], 2556⟩
set_option maxRecDepth 1000000 in
theorem o1007 : EntryOK Try.prog e1007 := Ax.part (K := sks) (l := []) mixed sks_ok trivial (by kernel_rfl)
noncomputable def e1009 : Entry := ⟨102, [(.agg #[(S 263 0 4 1180591620717411303428), (S 264 0 4 1180591620717411303425), (S 265 0 4 1180591620717411303425)]), (S 603 0 1 1180591620717411303425), (.int .u8 (.ofNat 62))], b2_1, 2558, (.slice none 0 0), [], 2561⟩
set_option maxRecDepth 1000000 in
theorem o1009 : EntryOK Try.prog e1009 := Ax.part (K := sks) (l := []) mixed sks_ok trivial (by kernel_rfl)
noncomputable def e1011 : Entry := ⟨102, [(.agg #[(S 263 0 4 1180591620717411303428), (S 264 0 4 1180591620717411303425), (S 265 0 4 1180591620717411303425)]), (S 603 0 1 1180591620717411303425), (.int .u8 (.ofNat 63))], b2_1, 2563, (.slice none 0 0), [], 2566⟩
set_option maxRecDepth 1000000 in
theorem o1011 : EntryOK Try.prog e1011 := Ax.part (K := sks) (l := []) mixed sks_ok trivial (by kernel_rfl)
noncomputable def e1013 : Entry := ⟨102, [(.agg #[(S 263 0 4 1180591620717411303428), (S 264 0 4 1180591620717411303425), (S 265 0 4 1180591620717411303425)]), (S 603 0 1 1180591620717411303425), (.int .u8 (.ofNat 64))], b2_1, 2568, (.slice none 0 0), [], 2571⟩
set_option maxRecDepth 1000000 in
theorem o1013 : EntryOK Try.prog e1013 := Ax.part (K := sks) (l := []) mixed sks_ok trivial (by kernel_rfl)
noncomputable def e1015 : Entry := ⟨102, [(.agg #[(S 263 0 4 1180591620717411303428), (S 264 0 4 1180591620717411303425), (S 265 0 4 1180591620717411303425)]), (S 603 0 1 1180591620717411303425), (.int .u8 (.ofNat 65))], b2_1, 2573, (.slice none 0 0), [], 2576⟩
set_option maxRecDepth 1000000 in
theorem o1015 : EntryOK Try.prog e1015 := Ax.part (K := sks) (l := []) mixed sks_ok trivial (by kernel_rfl)
noncomputable def e1017 : Entry := ⟨102, [(.agg #[(S 263 0 4 1180591620717411303428), (S 264 0 4 1180591620717411303425), (S 265 0 4 1180591620717411303425)]), (S 603 0 1 1180591620717411303425), (.int .u8 (.ofNat 66))], b2_1, 2578, (.slice none 0 0), [], 2581⟩
set_option maxRecDepth 1000000 in
theorem o1017 : EntryOK Try.prog e1017 := Ax.part (K := sks) (l := []) mixed sks_ok trivial (by kernel_rfl)
noncomputable def e1019 : Entry := ⟨102, [(.agg #[(S 263 0 4 1180591620717411303428), (S 264 0 4 1180591620717411303425), (S 265 0 4 1180591620717411303425)]), (S 603 0 1 1180591620717411303425), (.int .u8 (.ofNat 67))], b2_1, 2583, (.slice none 0 0), [], 2586⟩
set_option maxRecDepth 1000000 in
theorem o1019 : EntryOK Try.prog e1019 := Ax.part (K := sks) (l := []) mixed sks_ok trivial (by kernel_rfl)
noncomputable def e1021 : Entry := ⟨102, [(.agg #[(S 263 0 4 1180591620717411303428), (S 264 0 4 1180591620717411303425), (S 265 0 4 1180591620717411303425)]), (S 603 0 1 1180591620717411303425), (.int .u8 (.ofNat 68))], b2_1, 2588, (.slice none 0 0), [], 2591⟩
set_option maxRecDepth 1000000 in
theorem o1021 : EntryOK Try.prog e1021 := Ax.part (K := sks) (l := []) mixed sks_ok trivial (by kernel_rfl)
noncomputable def e1023 : Entry := ⟨102, [(.agg #[(S 263 0 4 1180591620717411303428), (S 264 0 4 1180591620717411303425), (S 265 0 4 1180591620717411303425)]), (S 603 0 1 1180591620717411303425), (.int .u8 (.ofNat 69))], b2_1, 2593, (.slice none 0 0), [], 2596⟩
set_option maxRecDepth 1000000 in
theorem o1023 : EntryOK Try.prog e1023 := Ax.part (K := sks) (l := []) mixed sks_ok trivial (by kernel_rfl)
noncomputable def e1025 : Entry := ⟨102, [(.agg #[(S 263 0 4 1180591620717411303428), (S 264 0 4 1180591620717411303425), (S 265 0 4 1180591620717411303425)]), (S 603 0 1 1180591620717411303425), (.int .u8 (.ofNat 70))], b2_1, 2598, (.slice none 0 0), [], 2601⟩
set_option maxRecDepth 1000000 in
theorem o1025 : EntryOK Try.prog e1025 := Ax.part (K := sks) (l := []) mixed sks_ok trivial (by kernel_rfl)
noncomputable def e1027 : Entry := ⟨102, [(.agg #[(S 263 0 4 1180591620717411303428), (S 264 0 4 1180591620717411303425), (S 265 0 4 1180591620717411303425)]), (S 603 0 1 1180591620717411303425), (.int .u8 (.ofNat 71))], b2_1, 2603, (.slice none 0 0), [], 2606⟩
set_option maxRecDepth 1000000 in
theorem o1027 : EntryOK Try.prog e1027 := Ax.part (K := sks) (l := []) mixed sks_ok trivial (by kernel_rfl)
noncomputable def e1029 : Entry := ⟨102, [(.agg #[(S 263 0 4 1180591620717411303428), (S 264 0 4 1180591620717411303425), (S 265 0 4 1180591620717411303425)]), (S 603 0 1 1180591620717411303425), (.int .u8 (.ofNat 72))], b2_1, 2608, (.slice none 0 0), [], 2611⟩
set_option maxRecDepth 1000000 in
theorem o1029 : EntryOK Try.prog e1029 := Ax.part (K := sks) (l := []) mixed sks_ok trivial (by kernel_rfl)
noncomputable def e1031 : Entry := ⟨102, [(.agg #[(S 263 0 4 1180591620717411303428), (S 264 0 4 1180591620717411303425), (S 265 0 4 1180591620717411303425)]), (S 603 0 1 1180591620717411303425), (.int .u8 (.ofNat 73))], b2_1, 2613, (.slice none 0 0), [], 2616⟩
set_option maxRecDepth 1000000 in
theorem o1031 : EntryOK Try.prog e1031 := Ax.part (K := sks) (l := []) mixed sks_ok trivial (by kernel_rfl)
noncomputable def e1033 : Entry := ⟨102, [(.agg #[(S 263 0 4 1180591620717411303428), (S 264 0 4 1180591620717411303425), (S 265 0 4 1180591620717411303425)]), (S 603 0 1 1180591620717411303425), (.int .u8 (.ofNat 74))], b2_1, 2618, (.slice none 0 0), [], 2621⟩
set_option maxRecDepth 1000000 in
theorem o1033 : EntryOK Try.prog e1033 := Ax.part (K := sks) (l := []) mixed sks_ok trivial (by kernel_rfl)
noncomputable def e1035 : Entry := ⟨102, [(.agg #[(S 263 0 4 1180591620717411303428), (S 264 0 4 1180591620717411303425), (S 265 0 4 1180591620717411303425)]), (S 603 0 1 1180591620717411303425), (.int .u8 (.ofNat 75))], b2_1, 2623, (.slice none 0 0), [], 2626⟩
set_option maxRecDepth 1000000 in
theorem o1035 : EntryOK Try.prog e1035 := Ax.part (K := sks) (l := []) mixed sks_ok trivial (by kernel_rfl)
noncomputable def e1037 : Entry := ⟨102, [(.agg #[(S 263 0 4 1180591620717411303428), (S 264 0 4 1180591620717411303425), (S 265 0 4 1180591620717411303425)]), (S 603 0 1 1180591620717411303425), (.int .u8 (.ofNat 76))], b2_1, 2628, (.slice none 0 0), [], 2631⟩
set_option maxRecDepth 1000000 in
theorem o1037 : EntryOK Try.prog e1037 := Ax.part (K := sks) (l := []) mixed sks_ok trivial (by kernel_rfl)
noncomputable def e1039 : Entry := ⟨102, [(.agg #[(S 263 0 4 1180591620717411303428), (S 264 0 4 1180591620717411303425), (S 265 0 4 1180591620717411303425)]), (S 603 0 1 1180591620717411303425), (.int .u8 (.ofNat 77))], b2_1, 2633, (.slice none 0 0), [], 2636⟩
set_option maxRecDepth 1000000 in
theorem o1039 : EntryOK Try.prog e1039 := Ax.part (K := sks) (l := []) mixed sks_ok trivial (by kernel_rfl)
noncomputable def e1041 : Entry := ⟨102, [(.agg #[(S 263 0 4 1180591620717411303428), (S 264 0 4 1180591620717411303425), (S 265 0 4 1180591620717411303425)]), (S 603 0 1 1180591620717411303425), (.int .u8 (.ofNat 78))], b2_1, 2638, (.slice none 0 0), [], 2641⟩
set_option maxRecDepth 1000000 in
theorem o1041 : EntryOK Try.prog e1041 := Ax.part (K := sks) (l := []) mixed sks_ok trivial (by kernel_rfl)
noncomputable def e1043 : Entry := ⟨102, [(.agg #[(S 263 0 4 1180591620717411303428), (S 264 0 4 1180591620717411303425), (S 265 0 4 1180591620717411303425)]), (S 603 0 1 1180591620717411303425), (.int .u8 (.ofNat 79))], b2_1, 2643, (.slice none 0 0), [], 2646⟩
set_option maxRecDepth 1000000 in
theorem o1043 : EntryOK Try.prog e1043 := Ax.part (K := sks) (l := []) mixed sks_ok trivial (by kernel_rfl)
noncomputable def e1045 : Entry := ⟨102, [(.agg #[(S 263 0 4 1180591620717411303428), (S 264 0 4 1180591620717411303425), (S 265 0 4 1180591620717411303425)]), (S 603 0 1 1180591620717411303425), (.int .u8 (.ofNat 80))], b2_1, 2648, (.slice none 0 0), [], 2651⟩
set_option maxRecDepth 1000000 in
theorem o1045 : EntryOK Try.prog e1045 := Ax.part (K := sks) (l := []) mixed sks_ok trivial (by kernel_rfl)
noncomputable def e1047 : Entry := ⟨102, [(.agg #[(S 263 0 4 1180591620717411303428), (S 264 0 4 1180591620717411303425), (S 265 0 4 1180591620717411303425)]), (S 603 0 1 1180591620717411303425), (.int .u8 (.ofNat 81))], b2_1, 2653, (.slice none 0 0), [], 2656⟩
set_option maxRecDepth 1000000 in
theorem o1047 : EntryOK Try.prog e1047 := Ax.part (K := sks) (l := []) mixed sks_ok trivial (by kernel_rfl)
noncomputable def e1049 : Entry := ⟨102, [(.agg #[(S 263 0 4 1180591620717411303428), (S 264 0 4 1180591620717411303425), (S 265 0 4 1180591620717411303425)]), (S 603 0 1 1180591620717411303425), (.int .u8 (.ofNat 82))], b2_1, 2658, (.slice none 0 0), [], 2661⟩
set_option maxRecDepth 1000000 in
theorem o1049 : EntryOK Try.prog e1049 := Ax.part (K := sks) (l := []) mixed sks_ok trivial (by kernel_rfl)
noncomputable def e1051 : Entry := ⟨102, [(.agg #[(S 263 0 4 1180591620717411303428), (S 264 0 4 1180591620717411303425), (S 265 0 4 1180591620717411303425)]), (S 603 0 1 1180591620717411303425), (.int .u8 (.ofNat 83))], b2_1, 2663, (.slice none 0 0), [], 2666⟩
set_option maxRecDepth 1000000 in
theorem o1051 : EntryOK Try.prog e1051 := Ax.part (K := sks) (l := []) mixed sks_ok trivial (by kernel_rfl)
noncomputable def e1053 : Entry := ⟨102, [(.agg #[(S 263 0 4 1180591620717411303428), (S 264 0 4 1180591620717411303425), (S 265 0 4 1180591620717411303425)]), (S 603 0 1 1180591620717411303425), (.int .u8 (.ofNat 84))], b2_1, 2668, (.slice none 0 0), [], 2671⟩
set_option maxRecDepth 1000000 in
theorem o1053 : EntryOK Try.prog e1053 := Ax.part (K := sks) (l := []) mixed sks_ok trivial (by kernel_rfl)
noncomputable def e1055 : Entry := ⟨102, [(.agg #[(S 263 0 4 1180591620717411303428), (S 264 0 4 1180591620717411303425), (S 265 0 4 1180591620717411303425)]), (S 603 0 1 1180591620717411303425), (.int .u8 (.ofNat 85))], b2_1, 2673, (.slice none 0 0), [], 2676⟩
set_option maxRecDepth 1000000 in
theorem o1055 : EntryOK Try.prog e1055 := Ax.part (K := sks) (l := []) mixed sks_ok trivial (by kernel_rfl)
noncomputable def e1057 : Entry := ⟨102, [(.agg #[(S 263 0 4 1180591620717411303428), (S 264 0 4 1180591620717411303425), (S 265 0 4 1180591620717411303425)]), (S 603 0 1 1180591620717411303425), (.int .u8 (.ofNat 86))], b2_1, 2678, (.slice none 0 0), [], 2681⟩
set_option maxRecDepth 1000000 in
theorem o1057 : EntryOK Try.prog e1057 := Ax.part (K := sks) (l := []) mixed sks_ok trivial (by kernel_rfl)
noncomputable def e1059 : Entry := ⟨102, [(.agg #[(S 263 0 4 1180591620717411303428), (S 264 0 4 1180591620717411303425), (S 265 0 4 1180591620717411303425)]), (S 603 0 1 1180591620717411303425), (.int .u8 (.ofNat 87))], b2_1, 2683, (.slice none 0 0), [], 2686⟩
set_option maxRecDepth 1000000 in
theorem o1059 : EntryOK Try.prog e1059 := Ax.part (K := sks) (l := []) mixed sks_ok trivial (by kernel_rfl)
noncomputable def e1061 : Entry := ⟨102, [(.agg #[(S 263 0 4 1180591620717411303428), (S 264 0 4 1180591620717411303425), (S 265 0 4 1180591620717411303425)]), (S 603 0 1 1180591620717411303425), (.int .u8 (.ofNat 88))], b2_1, 2688, (.slice none 0 0), [], 2691⟩
set_option maxRecDepth 1000000 in
theorem o1061 : EntryOK Try.prog e1061 := Ax.part (K := sks) (l := []) mixed sks_ok trivial (by kernel_rfl)
noncomputable def e1063 : Entry := ⟨102, [(.agg #[(S 263 0 4 1180591620717411303428), (S 264 0 4 1180591620717411303425), (S 265 0 4 1180591620717411303425)]), (S 603 0 1 1180591620717411303425), (.int .u8 (.ofNat 89))], b2_1, 2693, (.slice none 0 0), [], 2696⟩
set_option maxRecDepth 1000000 in
theorem o1063 : EntryOK Try.prog e1063 := Ax.part (K := sks) (l := []) mixed sks_ok trivial (by kernel_rfl)
noncomputable def e1065 : Entry := ⟨102, [(.agg #[(S 263 0 4 1180591620717411303428), (S 264 0 4 1180591620717411303425), (S 265 0 4 1180591620717411303425)]), (S 603 0 1 1180591620717411303425), (.int .u8 (.ofNat 90))], b2_1, 2698, (.slice none 0 0), [], 2701⟩
set_option maxRecDepth 1000000 in
theorem o1065 : EntryOK Try.prog e1065 := Ax.part (K := sks) (l := []) mixed sks_ok trivial (by kernel_rfl)
noncomputable def e1067 : Entry := ⟨102, [(.agg #[(S 263 0 4 1180591620717411303428), (S 264 0 4 1180591620717411303425), (S 265 0 4 1180591620717411303425)]), (S 603 0 1 1180591620717411303425), (.int .u8 (.ofNat 91))], b2_1, 2703, (.slice none 0 0), [], 2706⟩
set_option maxRecDepth 1000000 in
theorem o1067 : EntryOK Try.prog e1067 := Ax.part (K := sks) (l := []) mixed sks_ok trivial (by kernel_rfl)
noncomputable def e1069 : Entry := ⟨102, [(.agg #[(S 263 0 4 1180591620717411303428), (S 264 0 4 1180591620717411303425), (S 265 0 4 1180591620717411303425)]), (S 603 0 1 1180591620717411303425), (.int .u8 (.ofNat 92))], b2_1, 2708, (.slice none 0 0), [], 2711⟩
set_option maxRecDepth 1000000 in
theorem o1069 : EntryOK Try.prog e1069 := Ax.part (K := sks) (l := []) mixed sks_ok trivial (by kernel_rfl)
noncomputable def e1071 : Entry := ⟨102, [(.agg #[(S 263 0 4 1180591620717411303428), (S 264 0 4 1180591620717411303425), (S 265 0 4 1180591620717411303425)]), (S 603 0 1 1180591620717411303425), (.int .u8 (.ofNat 93))], b2_1, 2713, (.slice none 0 0), [], 2716⟩
set_option maxRecDepth 1000000 in
theorem o1071 : EntryOK Try.prog e1071 := Ax.part (K := sks) (l := []) mixed sks_ok trivial (by kernel_rfl)
noncomputable def e1073 : Entry := ⟨102, [(.agg #[(S 263 0 4 1180591620717411303428), (S 264 0 4 1180591620717411303425), (S 265 0 4 1180591620717411303425)]), (S 603 0 1 1180591620717411303425), (.int .u8 (.ofNat 94))], b2_1, 2718, (.slice none 0 0), [], 2721⟩
set_option maxRecDepth 1000000 in
theorem o1073 : EntryOK Try.prog e1073 := Ax.part (K := sks) (l := []) mixed sks_ok trivial (by kernel_rfl)
noncomputable def e1075 : Entry := ⟨102, [(.agg #[(S 263 0 4 1180591620717411303428), (S 264 0 4 1180591620717411303425), (S 265 0 4 1180591620717411303425)]), (S 603 0 1 1180591620717411303425), (.int .u8 (.ofNat 95))], b2_1, 2723, (.slice none 0 0), [], 2726⟩
set_option maxRecDepth 1000000 in
theorem o1075 : EntryOK Try.prog e1075 := Ax.part (K := sks) (l := []) mixed sks_ok trivial (by kernel_rfl)
noncomputable def e1077 : Entry := ⟨102, [(.agg #[(S 263 0 4 1180591620717411303428), (S 264 0 4 1180591620717411303425), (S 265 0 4 1180591620717411303425)]), (S 603 0 1 1180591620717411303425), (.int .u8 (.ofNat 96))], b2_1, 2728, (.slice none 0 0), [], 2731⟩
set_option maxRecDepth 1000000 in
theorem o1077 : EntryOK Try.prog e1077 := Ax.part (K := sks) (l := []) mixed sks_ok trivial (by kernel_rfl)
noncomputable def e1079 : Entry := ⟨102, [(.agg #[(S 263 0 4 1180591620717411303428), (S 264 0 4 1180591620717411303425), (S 265 0 4 1180591620717411303425)]), (S 603 0 1 1180591620717411303425), (.int .u8 (.ofNat 97))], b2_1, 2733, (.slice none 0 0), [], 2736⟩
set_option maxRecDepth 1000000 in
theorem o1079 : EntryOK Try.prog e1079 := Ax.part (K := sks) (l := []) mixed sks_ok trivial (by kernel_rfl)
noncomputable def e1081 : Entry := ⟨102, [(.agg #[(S 263 0 4 1180591620717411303428), (S 264 0 4 1180591620717411303425), (S 265 0 4 1180591620717411303425)]), (S 603 0 1 1180591620717411303425), (.int .u8 (.ofNat 98))], b2_1, 2738, (.slice none 0 0), [], 2741⟩
set_option maxRecDepth 1000000 in
theorem o1081 : EntryOK Try.prog e1081 := Ax.part (K := sks) (l := []) mixed sks_ok trivial (by kernel_rfl)
noncomputable def e1083 : Entry := ⟨102, [(.agg #[(S 263 0 4 1180591620717411303428), (S 264 0 4 1180591620717411303425), (S 265 0 4 1180591620717411303425)]), (S 603 0 1 1180591620717411303425), (.int .u8 (.ofNat 99))], b2_1, 2743, (.slice none 0 0), [], 2746⟩
set_option maxRecDepth 1000000 in
theorem o1083 : EntryOK Try.prog e1083 := Ax.part (K := sks) (l := []) mixed sks_ok trivial (by kernel_rfl)
noncomputable def e1085 : Entry := ⟨102, [(.agg #[(S 263 0 4 1180591620717411303428), (S 264 0 4 1180591620717411303425), (S 265 0 4 1180591620717411303425)]), (S 603 0 1 1180591620717411303425), (.int .u8 (.ofNat 100))], b2_1, 2748, (.slice none 0 0), [], 2751⟩
set_option maxRecDepth 1000000 in
theorem o1085 : EntryOK Try.prog e1085 := Ax.part (K := sks) (l := []) mixed sks_ok trivial (by kernel_rfl)
noncomputable def e1087 : Entry := ⟨102, [(.agg #[(S 263 0 4 1180591620717411303428), (S 264 0 4 1180591620717411303425), (S 265 0 4 1180591620717411303425)]), (S 603 0 1 1180591620717411303425), (.int .u8 (.ofNat 101))], b2_1, 2753, (.slice none 0 0), [], 2756⟩
set_option maxRecDepth 1000000 in
theorem o1087 : EntryOK Try.prog e1087 := Ax.part (K := sks) (l := []) mixed sks_ok trivial (by kernel_rfl)
noncomputable def e1089 : Entry := ⟨102, [(.agg #[(S 263 0 4 1180591620717411303428), (S 264 0 4 1180591620717411303425), (S 265 0 4 1180591620717411303425)]), (S 603 0 1 1180591620717411303425), (.int .u8 (.ofNat 102))], b2_1, 2758, (.slice none 0 0), [], 2761⟩
set_option maxRecDepth 1000000 in
theorem o1089 : EntryOK Try.prog e1089 := Ax.part (K := sks) (l := []) mixed sks_ok trivial (by kernel_rfl)
noncomputable def e1091 : Entry := ⟨102, [(.agg #[(S 263 0 4 1180591620717411303428), (S 264 0 4 1180591620717411303425), (S 265 0 4 1180591620717411303425)]), (S 603 0 1 1180591620717411303425), (.int .u8 (.ofNat 103))], b2_1, 2763, (.slice none 0 0), [], 2766⟩
set_option maxRecDepth 1000000 in
theorem o1091 : EntryOK Try.prog e1091 := Ax.part (K := sks) (l := []) mixed sks_ok trivial (by kernel_rfl)
noncomputable def e1093 : Entry := ⟨102, [(.agg #[(S 263 0 4 1180591620717411303428), (S 264 0 4 1180591620717411303425), (S 265 0 4 1180591620717411303425)]), (S 603 0 1 1180591620717411303425), (.int .u8 (.ofNat 104))], b2_1, 2768, (.slice none 0 0), [], 2771⟩
set_option maxRecDepth 1000000 in
theorem o1093 : EntryOK Try.prog e1093 := Ax.part (K := sks) (l := []) mixed sks_ok trivial (by kernel_rfl)
noncomputable def e1095 : Entry := ⟨102, [(.agg #[(S 263 0 4 1180591620717411303428), (S 264 0 4 1180591620717411303425), (S 265 0 4 1180591620717411303425)]), (S 603 0 1 1180591620717411303425), (.int .u8 (.ofNat 105))], b2_1, 2773, (.slice none 0 0), [], 2776⟩
set_option maxRecDepth 1000000 in
theorem o1095 : EntryOK Try.prog e1095 := Ax.part (K := sks) (l := []) mixed sks_ok trivial (by kernel_rfl)
noncomputable def e1097 : Entry := ⟨102, [(.agg #[(S 263 0 4 1180591620717411303428), (S 264 0 4 1180591620717411303425), (S 265 0 4 1180591620717411303425)]), (S 603 0 1 1180591620717411303425), (.int .u8 (.ofNat 106))], b2_1, 2778, (.slice none 0 0), [], 2781⟩
set_option maxRecDepth 1000000 in
theorem o1097 : EntryOK Try.prog e1097 := Ax.part (K := sks) (l := []) mixed sks_ok trivial (by kernel_rfl)
noncomputable def e1099 : Entry := ⟨102, [(.agg #[(S 263 0 4 1180591620717411303428), (S 264 0 4 1180591620717411303425), (S 265 0 4 1180591620717411303425)]), (S 603 0 1 1180591620717411303425), (.int .u8 (.ofNat 107))], b2_1, 2783, (.slice none 0 0), [], 2786⟩
set_option maxRecDepth 1000000 in
theorem o1099 : EntryOK Try.prog e1099 := Ax.part (K := sks) (l := []) mixed sks_ok trivial (by kernel_rfl)
noncomputable def e1101 : Entry := ⟨102, [(.agg #[(S 263 0 4 1180591620717411303428), (S 264 0 4 1180591620717411303425), (S 265 0 4 1180591620717411303425)]), (S 603 0 1 1180591620717411303425), (.int .u8 (.ofNat 108))], b2_1, 2788, (.slice none 0 0), [], 2791⟩
set_option maxRecDepth 1000000 in
theorem o1101 : EntryOK Try.prog e1101 := Ax.part (K := sks) (l := []) mixed sks_ok trivial (by kernel_rfl)
noncomputable def e1103 : Entry := ⟨102, [(.agg #[(S 263 0 4 1180591620717411303428), (S 264 0 4 1180591620717411303425), (S 265 0 4 1180591620717411303425)]), (S 603 0 1 1180591620717411303425), (.int .u8 (.ofNat 109))], b2_1, 2793, (.slice none 0 0), [], 2796⟩
set_option maxRecDepth 1000000 in
theorem o1103 : EntryOK Try.prog e1103 := Ax.part (K := sks) (l := []) mixed sks_ok trivial (by kernel_rfl)
noncomputable def e1105 : Entry := ⟨102, [(.agg #[(S 263 0 4 1180591620717411303428), (S 264 0 4 1180591620717411303425), (S 265 0 4 1180591620717411303425)]), (S 603 0 1 1180591620717411303425), (.int .u8 (.ofNat 110))], b2_1, 2798, (.slice none 0 0), [], 2801⟩
set_option maxRecDepth 1000000 in
theorem o1105 : EntryOK Try.prog e1105 := Ax.part (K := sks) (l := []) mixed sks_ok trivial (by kernel_rfl)
noncomputable def e1107 : Entry := ⟨102, [(.agg #[(S 263 0 4 1180591620717411303428), (S 264 0 4 1180591620717411303425), (S 265 0 4 1180591620717411303425)]), (S 603 0 1 1180591620717411303425), (.int .u8 (.ofNat 111))], b2_1, 2803, (.slice none 0 0), [], 2806⟩
set_option maxRecDepth 1000000 in
theorem o1107 : EntryOK Try.prog e1107 := Ax.part (K := sks) (l := []) mixed sks_ok trivial (by kernel_rfl)
noncomputable def e1109 : Entry := ⟨102, [(.agg #[(S 263 0 4 1180591620717411303428), (S 264 0 4 1180591620717411303425), (S 265 0 4 1180591620717411303425)]), (S 603 0 1 1180591620717411303425), (.int .u8 (.ofNat 112))], b2_1, 2808, (.slice none 0 0), [], 2811⟩
set_option maxRecDepth 1000000 in
theorem o1109 : EntryOK Try.prog e1109 := Ax.part (K := sks) (l := []) mixed sks_ok trivial (by kernel_rfl)
noncomputable def e1111 : Entry := ⟨102, [(.agg #[(S 263 0 4 1180591620717411303428), (S 264 0 4 1180591620717411303425), (S 265 0 4 1180591620717411303425)]), (S 603 0 1 1180591620717411303425), (.int .u8 (.ofNat 113))], b2_1, 2813, (.slice none 0 0), [], 2816⟩
set_option maxRecDepth 1000000 in
theorem o1111 : EntryOK Try.prog e1111 := Ax.part (K := sks) (l := []) mixed sks_ok trivial (by kernel_rfl)
noncomputable def e1113 : Entry := ⟨102, [(.agg #[(S 263 0 4 1180591620717411303428), (S 264 0 4 1180591620717411303425), (S 265 0 4 1180591620717411303425)]), (S 603 0 1 1180591620717411303425), (.int .u8 (.ofNat 114))], b2_1, 2818, (.slice none 0 0), [], 2821⟩
set_option maxRecDepth 1000000 in
theorem o1113 : EntryOK Try.prog e1113 := Ax.part (K := sks) (l := []) mixed sks_ok trivial (by kernel_rfl)
noncomputable def e1115 : Entry := ⟨102, [(.agg #[(S 263 0 4 1180591620717411303428), (S 264 0 4 1180591620717411303425), (S 265 0 4 1180591620717411303425)]), (S 603 0 1 1180591620717411303425), (.int .u8 (.ofNat 115))], b2_1, 2823, (.slice none 0 0), [], 2826⟩
set_option maxRecDepth 1000000 in
theorem o1115 : EntryOK Try.prog e1115 := Ax.part (K := sks) (l := []) mixed sks_ok trivial (by kernel_rfl)
noncomputable def e1117 : Entry := ⟨102, [(.agg #[(S 263 0 4 1180591620717411303428), (S 264 0 4 1180591620717411303425), (S 265 0 4 1180591620717411303425)]), (S 603 0 1 1180591620717411303425), (.int .u8 (.ofNat 116))], b2_1, 2828, (.slice none 0 0), [], 2831⟩
set_option maxRecDepth 1000000 in
theorem o1117 : EntryOK Try.prog e1117 := Ax.part (K := sks) (l := []) mixed sks_ok trivial (by kernel_rfl)
noncomputable def e1119 : Entry := ⟨102, [(.agg #[(S 263 0 4 1180591620717411303428), (S 264 0 4 1180591620717411303425), (S 265 0 4 1180591620717411303425)]), (S 603 0 1 1180591620717411303425), (.int .u8 (.ofNat 117))], b2_1, 2833, (.slice none 0 0), [], 2836⟩
set_option maxRecDepth 1000000 in
theorem o1119 : EntryOK Try.prog e1119 := Ax.part (K := sks) (l := []) mixed sks_ok trivial (by kernel_rfl)
noncomputable def e1121 : Entry := ⟨102, [(.agg #[(S 263 0 4 1180591620717411303428), (S 264 0 4 1180591620717411303425), (S 265 0 4 1180591620717411303425)]), (S 603 0 1 1180591620717411303425), (.int .u8 (.ofNat 118))], b2_1, 2838, (.slice none 0 0), [], 2841⟩
set_option maxRecDepth 1000000 in
theorem o1121 : EntryOK Try.prog e1121 := Ax.part (K := sks) (l := []) mixed sks_ok trivial (by kernel_rfl)
noncomputable def e1123 : Entry := ⟨102, [(.agg #[(S 263 0 4 1180591620717411303428), (S 264 0 4 1180591620717411303425), (S 265 0 4 1180591620717411303425)]), (S 603 0 1 1180591620717411303425), (.int .u8 (.ofNat 119))], b2_1, 2843, (.slice none 0 0), [], 2846⟩
set_option maxRecDepth 1000000 in
theorem o1123 : EntryOK Try.prog e1123 := Ax.part (K := sks) (l := []) mixed sks_ok trivial (by kernel_rfl)
noncomputable def e1125 : Entry := ⟨102, [(.agg #[(S 263 0 4 1180591620717411303428), (S 264 0 4 1180591620717411303425), (S 265 0 4 1180591620717411303425)]), (S 603 0 1 1180591620717411303425), (.int .u8 (.ofNat 120))], b2_1, 2848, (.slice none 0 0), [], 2851⟩
set_option maxRecDepth 1000000 in
theorem o1125 : EntryOK Try.prog e1125 := Ax.part (K := sks) (l := []) mixed sks_ok trivial (by kernel_rfl)
noncomputable def e1127 : Entry := ⟨102, [(.agg #[(S 263 0 4 1180591620717411303428), (S 264 0 4 1180591620717411303425), (S 265 0 4 1180591620717411303425)]), (S 603 0 1 1180591620717411303425), (.int .u8 (.ofNat 121))], b2_1, 2853, (.slice none 0 0), [], 2856⟩
set_option maxRecDepth 1000000 in
theorem o1127 : EntryOK Try.prog e1127 := Ax.part (K := sks) (l := []) mixed sks_ok trivial (by kernel_rfl)
noncomputable def e1129 : Entry := ⟨102, [(.agg #[(S 263 0 4 1180591620717411303428), (S 264 0 4 1180591620717411303425), (S 265 0 4 1180591620717411303425)]), (S 603 0 1 1180591620717411303425), (.int .u8 (.ofNat 122))], b2_1, 2858, (.slice none 0 0), [], 2861⟩
set_option maxRecDepth 1000000 in
theorem o1129 : EntryOK Try.prog e1129 := Ax.part (K := sks) (l := []) mixed sks_ok trivial (by kernel_rfl)
noncomputable def e1131 : Entry := ⟨102, [(.agg #[(S 263 0 4 1180591620717411303428), (S 264 0 4 1180591620717411303425), (S 265 0 4 1180591620717411303425)]), (S 603 0 1 1180591620717411303425), (.int .u8 (.ofNat 123))], b2_1, 2863, (.slice none 0 0), [], 2866⟩
set_option maxRecDepth 1000000 in
theorem o1131 : EntryOK Try.prog e1131 := Ax.part (K := sks) (l := []) mixed sks_ok trivial (by kernel_rfl)
noncomputable def e1133 : Entry := ⟨102, [(.agg #[(S 263 0 4 1180591620717411303428), (S 264 0 4 1180591620717411303425), (S 265 0 4 1180591620717411303425)]), (S 603 0 1 1180591620717411303425), (.int .u8 (.ofNat 124))], b2_1, 2868, (.slice none 0 0), [], 2871⟩
set_option maxRecDepth 1000000 in
theorem o1133 : EntryOK Try.prog e1133 := Ax.part (K := sks) (l := []) mixed sks_ok trivial (by kernel_rfl)
noncomputable def e1135 : Entry := ⟨102, [(.agg #[(S 263 0 4 1180591620717411303428), (S 264 0 4 1180591620717411303425), (S 265 0 4 1180591620717411303425)]), (S 603 0 1 1180591620717411303425), (.int .u8 (.ofNat 125))], b2_1, 2873, (.slice none 0 0), [], 2876⟩
set_option maxRecDepth 1000000 in
theorem o1135 : EntryOK Try.prog e1135 := Ax.part (K := sks) (l := []) mixed sks_ok trivial (by kernel_rfl)
noncomputable def e1137 : Entry := ⟨102, [(.agg #[(S 263 0 4 1180591620717411303428), (S 264 0 4 1180591620717411303425), (S 265 0 4 1180591620717411303425)]), (S 603 0 1 1180591620717411303425), (.int .u8 (.ofNat 126))], b2_1, 2878, (.slice none 0 0), [], 2881⟩
set_option maxRecDepth 1000000 in
theorem o1137 : EntryOK Try.prog e1137 := Ax.part (K := sks) (l := []) mixed sks_ok trivial (by kernel_rfl)
noncomputable def e1139 : Entry := ⟨102, [(.agg #[(S 263 0 4 1180591620717411303428), (S 264 0 4 1180591620717411303425), (S 265 0 4 1180591620717411303425)]), (S 603 0 1 1180591620717411303425), (.int .u8 (.ofNat 127))], b2_1, 2883, (.slice none 0 0), [], 2886⟩
set_option maxRecDepth 1000000 in
theorem o1139 : EntryOK Try.prog e1139 := Ax.part (K := sks) (l := []) mixed sks_ok trivial (by kernel_rfl)
noncomputable def e1141 : Entry := ⟨102, [(.agg #[(S 263 0 4 1180591620717411303428), (S 264 0 4 1180591620717411303425), (S 265 0 4 1180591620717411303425)]), (S 603 0 1 1180591620717411303425), (.int .u8 (.ofNat 128))], b2_1, 2888, (.slice none 0 0), [], 2891⟩
set_option maxRecDepth 1000000 in
theorem o1141 : EntryOK Try.prog e1141 := Ax.part (K := sks) (l := []) mixed sks_ok trivial (by kernel_rfl)
noncomputable def e1143 : Entry := ⟨102, [(.agg #[(S 263 0 4 1180591620717411303428), (S 264 0 4 1180591620717411303425), (S 265 0 4 1180591620717411303425)]), (S 603 0 1 1180591620717411303425), (.int .u8 (.ofNat 129))], b2_1, 2893, (.slice none 0 0), [], 2896⟩
set_option maxRecDepth 1000000 in
theorem o1143 : EntryOK Try.prog e1143 := Ax.part (K := sks) (l := []) mixed sks_ok trivial (by kernel_rfl)
noncomputable def e1145 : Entry := ⟨102, [(.agg #[(S 263 0 4 1180591620717411303428), (S 264 0 4 1180591620717411303425), (S 265 0 4 1180591620717411303425)]), (S 603 0 1 1180591620717411303425), (.int .u8 (.ofNat 130))], b2_1, 2898, (.slice none 0 0), [], 2901⟩
set_option maxRecDepth 1000000 in
theorem o1145 : EntryOK Try.prog e1145 := Ax.part (K := sks) (l := []) mixed sks_ok trivial (by kernel_rfl)
noncomputable def e1147 : Entry := ⟨102, [(.agg #[(S 263 0 4 1180591620717411303428), (S 264 0 4 1180591620717411303425), (S 265 0 4 1180591620717411303425)]), (S 603 0 1 1180591620717411303425), (.int .u8 (.ofNat 131))], b2_1, 2903, (.slice none 0 0), [], 2906⟩
set_option maxRecDepth 1000000 in
theorem o1147 : EntryOK Try.prog e1147 := Ax.part (K := sks) (l := []) mixed sks_ok trivial (by kernel_rfl)
noncomputable def e1149 : Entry := ⟨102, [(.agg #[(S 263 0 4 1180591620717411303428), (S 264 0 4 1180591620717411303425), (S 265 0 4 1180591620717411303425)]), (S 603 0 1 1180591620717411303425), (.int .u8 (.ofNat 132))], b2_1, 2908, (.slice none 0 0), [], 2911⟩
set_option maxRecDepth 1000000 in
theorem o1149 : EntryOK Try.prog e1149 := Ax.part (K := sks) (l := []) mixed sks_ok trivial (by kernel_rfl)
noncomputable def e1151 : Entry := ⟨102, [(.agg #[(S 263 0 4 1180591620717411303428), (S 264 0 4 1180591620717411303425), (S 265 0 4 1180591620717411303425)]), (S 603 0 1 1180591620717411303425), (.int .u8 (.ofNat 133))], b2_1, 2913, (.slice none 0 0), [], 2916⟩
set_option maxRecDepth 1000000 in
theorem o1151 : EntryOK Try.prog e1151 := Ax.part (K := sks) (l := []) mixed sks_ok trivial (by kernel_rfl)
noncomputable def e1153 : Entry := ⟨102, [(.agg #[(S 263 0 4 1180591620717411303428), (S 264 0 4 1180591620717411303425), (S 265 0 4 1180591620717411303425)]), (S 603 0 1 1180591620717411303425), (.int .u8 (.ofNat 134))], b2_1, 2918, (.slice none 0 0), [], 2921⟩
set_option maxRecDepth 1000000 in
theorem o1153 : EntryOK Try.prog e1153 := Ax.part (K := sks) (l := []) mixed sks_ok trivial (by kernel_rfl)
noncomputable def e1155 : Entry := ⟨102, [(.agg #[(S 263 0 4 1180591620717411303428), (S 264 0 4 1180591620717411303425), (S 265 0 4 1180591620717411303425)]), (S 603 0 1 1180591620717411303425), (.int .u8 (.ofNat 135))], b2_1, 2923, (.slice none 0 0), [], 2926⟩
set_option maxRecDepth 1000000 in
theorem o1155 : EntryOK Try.prog e1155 := Ax.part (K := sks) (l := []) mixed sks_ok trivial (by kernel_rfl)
noncomputable def e1157 : Entry := ⟨102, [(.agg #[(S 263 0 4 1180591620717411303428), (S 264 0 4 1180591620717411303425), (S 265 0 4 1180591620717411303425)]), (S 603 0 1 1180591620717411303425), (.int .u8 (.ofNat 136))], b2_1, 2928, (.slice none 0 0), [], 2931⟩
set_option maxRecDepth 1000000 in
theorem o1157 : EntryOK Try.prog e1157 := Ax.part (K := sks) (l := []) mixed sks_ok trivial (by kernel_rfl)
noncomputable def e1159 : Entry := ⟨102, [(.agg #[(S 263 0 4 1180591620717411303428), (S 264 0 4 1180591620717411303425), (S 265 0 4 1180591620717411303425)]), (S 603 0 1 1180591620717411303425), (.int .u8 (.ofNat 137))], b2_1, 2933, (.slice none 0 0), [], 2936⟩
set_option maxRecDepth 1000000 in
theorem o1159 : EntryOK Try.prog e1159 := Ax.part (K := sks) (l := []) mixed sks_ok trivial (by kernel_rfl)
noncomputable def e1161 : Entry := ⟨102, [(.agg #[(S 263 0 4 1180591620717411303428), (S 264 0 4 1180591620717411303425), (S 265 0 4 1180591620717411303425)]), (S 603 0 1 1180591620717411303425), (.int .u8 (.ofNat 138))], b2_1, 2938, (.slice none 0 0), [], 2941⟩
set_option maxRecDepth 1000000 in
theorem o1161 : EntryOK Try.prog e1161 := Ax.part (K := sks) (l := []) mixed sks_ok trivial (by kernel_rfl)
noncomputable def e1163 : Entry := ⟨102, [(.agg #[(S 263 0 4 1180591620717411303428), (S 264 0 4 1180591620717411303425), (S 265 0 4 1180591620717411303425)]), (S 603 0 1 1180591620717411303425), (.int .u8 (.ofNat 139))], b2_1, 2943, (.slice none 0 0), [], 2946⟩
set_option maxRecDepth 1000000 in
theorem o1163 : EntryOK Try.prog e1163 := Ax.part (K := sks) (l := []) mixed sks_ok trivial (by kernel_rfl)
noncomputable def e1165 : Entry := ⟨102, [(.agg #[(S 263 0 4 1180591620717411303428), (S 264 0 4 1180591620717411303425), (S 265 0 4 1180591620717411303425)]), (S 603 0 1 1180591620717411303425), (.int .u8 (.ofNat 140))], b2_1, 2948, (.slice none 0 0), [], 2951⟩
set_option maxRecDepth 1000000 in
theorem o1165 : EntryOK Try.prog e1165 := Ax.part (K := sks) (l := []) mixed sks_ok trivial (by kernel_rfl)
noncomputable def e1167 : Entry := ⟨102, [(.agg #[(S 263 0 4 1180591620717411303428), (S 264 0 4 1180591620717411303425), (S 265 0 4 1180591620717411303425)]), (S 603 0 1 1180591620717411303425), (.int .u8 (.ofNat 141))], b2_1, 2953, (.slice none 0 0), [], 2956⟩
set_option maxRecDepth 1000000 in
theorem o1167 : EntryOK Try.prog e1167 := Ax.part (K := sks) (l := []) mixed sks_ok trivial (by kernel_rfl)
noncomputable def e1169 : Entry := ⟨102, [(.agg #[(S 263 0 4 1180591620717411303428), (S 264 0 4 1180591620717411303425), (S 265 0 4 1180591620717411303425)]), (S 603 0 1 1180591620717411303425), (.int .u8 (.ofNat 142))], b2_1, 2958, (.slice none 0 0), [], 2961⟩
set_option maxRecDepth 1000000 in
theorem o1169 : EntryOK Try.prog e1169 := Ax.part (K := sks) (l := []) mixed sks_ok trivial (by kernel_rfl)
noncomputable def e1171 : Entry := ⟨102, [(.agg #[(S 263 0 4 1180591620717411303428), (S 264 0 4 1180591620717411303425), (S 265 0 4 1180591620717411303425)]), (S 603 0 1 1180591620717411303425), (.int .u8 (.ofNat 143))], b2_1, 2963, (.slice none 0 0), [], 2966⟩
set_option maxRecDepth 1000000 in
theorem o1171 : EntryOK Try.prog e1171 := Ax.part (K := sks) (l := []) mixed sks_ok trivial (by kernel_rfl)
noncomputable def e1173 : Entry := ⟨102, [(.agg #[(S 263 0 4 1180591620717411303428), (S 264 0 4 1180591620717411303425), (S 265 0 4 1180591620717411303425)]), (S 603 0 1 1180591620717411303425), (.int .u8 (.ofNat 144))], b2_1, 2968, (.slice none 0 0), [], 2971⟩
set_option maxRecDepth 1000000 in
theorem o1173 : EntryOK Try.prog e1173 := Ax.part (K := sks) (l := []) mixed sks_ok trivial (by kernel_rfl)
noncomputable def e1175 : Entry := ⟨102, [(.agg #[(S 263 0 4 1180591620717411303428), (S 264 0 4 1180591620717411303425), (S 265 0 4 1180591620717411303425)]), (S 603 0 1 1180591620717411303425), (.int .u8 (.ofNat 145))], b2_1, 2973, (.slice none 0 0), [], 2976⟩
set_option maxRecDepth 1000000 in
theorem o1175 : EntryOK Try.prog e1175 := Ax.part (K := sks) (l := []) mixed sks_ok trivial (by kernel_rfl)
noncomputable def e1177 : Entry := ⟨102, [(.agg #[(S 263 0 4 1180591620717411303428), (S 264 0 4 1180591620717411303425), (S 265 0 4 1180591620717411303425)]), (S 603 0 1 1180591620717411303425), (.int .u8 (.ofNat 146))], b2_1, 2978, (.slice none 0 0), [], 2981⟩
set_option maxRecDepth 1000000 in
theorem o1177 : EntryOK Try.prog e1177 := Ax.part (K := sks) (l := []) mixed sks_ok trivial (by kernel_rfl)
noncomputable def e1179 : Entry := ⟨102, [(.agg #[(S 263 0 4 1180591620717411303428), (S 264 0 4 1180591620717411303425), (S 265 0 4 1180591620717411303425)]), (S 603 0 1 1180591620717411303425), (.int .u8 (.ofNat 147))], b2_1, 2983, (.slice none 0 0), [], 2986⟩
set_option maxRecDepth 1000000 in
theorem o1179 : EntryOK Try.prog e1179 := Ax.part (K := sks) (l := []) mixed sks_ok trivial (by kernel_rfl)
noncomputable def e1181 : Entry := ⟨102, [(.agg #[(S 263 0 4 1180591620717411303428), (S 264 0 4 1180591620717411303425), (S 265 0 4 1180591620717411303425)]), (S 603 0 1 1180591620717411303425), (.int .u8 (.ofNat 148))], b2_1, 2988, (.slice none 0 0), [], 2991⟩
set_option maxRecDepth 1000000 in
theorem o1181 : EntryOK Try.prog e1181 := Ax.part (K := sks) (l := []) mixed sks_ok trivial (by kernel_rfl)

end Go.Proofs.Ytoocpkmefmjcjaa.munchNil
