/-
  Parts of the run of viewportlaw06.MunchNil, in order: what each of these calls gives, for each memory that holds what it looks at. No condition.
-/
import Derived.Test.YtoocpkmefmjcjaaAx1
import Derived.Test.YtoocpkmefmjcjaaKeys
import Derived.Test.YtoocpkmefmjcjaaProg
import Derived.KernelRfl
set_option linter.unusedSimpArgs false
set_option linter.unusedVariables false
namespace Go.Proofs.Ytoocpkmefmjcjaa.munchNil
open Go.Proofs Go.Proofs.Ytoocpkmefmjcjaa Ax

noncomputable def b4_0 : List LBlk := [⟨263, .cells 149 [(.int .u64 (.ofNat 0)), (.int .u64 (.ofNat 0)), (.int .u64 (.ofNat 0)), (.int .u64 (.ofNat 0)), (.int .u64 (.ofNat 0)), (.int .u64 (.ofNat 8589934592)), (.int .u64 (.ofNat 0)), (.int .u64 (.ofNat 0)), (.int .u64 (.ofNat 0)), (.int .u64 (.ofNat 17179869184)), (.int .u64 (.ofNat 0)), (.int .u64 (.ofNat 0)), (.int .u64 (.ofNat 287948901175001088)), (.int .u64 (.ofNat 0)), (.int .u64 (.ofNat 0)), (.int .u64 (.ofNat 0))]⟩, ⟨275, .cells 3 [(I 1), (I 3)]⟩, ⟨217, .cells 3 [(I 2)]⟩, ⟨213, .cells 3 [(I 2)]⟩, ⟨271, .cells 3 [(I 3)]⟩, ⟨264, .cells 47 [(S 275 0 2 1180591620717411303425), (S 217 0 1 1180591620717411303425), (S 213 0 1 1180591620717411303425), (S 271 0 1 1180591620717411303425)]⟩, ⟨265, .cells 3 [(M 0), (I 0), (I 0), (I 1)]⟩, ⟨1084, .cells 3 [(I 1)]⟩]
noncomputable def b4_1 : List LBlk := [⟨263, .cells 149 [(.int .u64 (.ofNat 0)), (.int .u64 (.ofNat 0)), (.int .u64 (.ofNat 0)), (.int .u64 (.ofNat 0)), (.int .u64 (.ofNat 0)), (.int .u64 (.ofNat 8589934592)), (.int .u64 (.ofNat 0)), (.int .u64 (.ofNat 0)), (.int .u64 (.ofNat 0)), (.int .u64 (.ofNat 17179869184)), (.int .u64 (.ofNat 0)), (.int .u64 (.ofNat 0)), (.int .u64 (.ofNat 287948901175001088)), (.int .u64 (.ofNat 0)), (.int .u64 (.ofNat 0)), (.int .u64 (.ofNat 0))]⟩, ⟨275, .cells 3 [(I 1), (I 3)]⟩, ⟨217, .cells 3 [(I 2)]⟩, ⟨213, .cells 3 [(I 2)]⟩, ⟨271, .cells 3 [(I 3)]⟩, ⟨264, .cells 47 [(S 275 0 2 1180591620717411303425), (S 217 0 1 1180591620717411303425), (S 213 0 1 1180591620717411303425), (S 271 0 1 1180591620717411303425)]⟩, ⟨265, .cells 3 [(M 0), (I 0), (I 0), (I 1)]⟩, ⟨4033, .cells 3 [(I 2)]⟩]
noncomputable def e1584 : Entry := ⟨102, [(.agg #[(S 263 0 4 1180591620717411303428), (S 264 0 4 1180591620717411303425), (S 265 0 4 1180591620717411303425)]), (S 1084 0 1 1180591620717411303425), (.int .u8 (.ofNat 93))], b4_0, 4004, (.slice none 0 0), [], 4007⟩
set_option maxRecDepth 1000000 in
theorem o1584 : EntryOK Try.prog e1584 := Ax.part (K := sks) (l := []) mixed sks_ok trivial (by kernel_rfl)
noncomputable def e1586 : Entry := ⟨102, [(.agg #[(S 263 0 4 1180591620717411303428), (S 264 0 4 1180591620717411303425), (S 265 0 4 1180591620717411303425)]), (S 1084 0 1 1180591620717411303425), (.int .u8 (.ofNat 94))], b4_0, 4009, (.slice none 0 0), [], 4012⟩
set_option maxRecDepth 1000000 in
theorem o1586 : EntryOK Try.prog e1586 := Ax.part (K := sks) (l := []) mixed sks_ok trivial (by kernel_rfl)
noncomputable def e1588 : Entry := ⟨102, [(.agg #[(S 263 0 4 1180591620717411303428), (S 264 0 4 1180591620717411303425), (S 265 0 4 1180591620717411303425)]), (S 1084 0 1 1180591620717411303425), (.int .u8 (.ofNat 95))], b4_0, 4014, (.slice none 0 0), [], 4017⟩
set_option maxRecDepth 1000000 in
theorem o1588 : EntryOK Try.prog e1588 := Ax.part (K := sks) (l := []) mixed sks_ok trivial (by kernel_rfl)
noncomputable def e1590 : Entry := ⟨102, [(.agg #[(S 263 0 4 1180591620717411303428), (S 264 0 4 1180591620717411303425), (S 265 0 4 1180591620717411303425)]), (S 1084 0 1 1180591620717411303425), (.int .u8 (.ofNat 96))], b4_0, 4019, (.slice none 0 0), [], 4022⟩
set_option maxRecDepth 1000000 in
theorem o1590 : EntryOK Try.prog e1590 := Ax.part (K := sks) (l := []) mixed sks_ok trivial (by kernel_rfl)
noncomputable def e1592 : Entry := ⟨102, [(.agg #[(S 263 0 4 1180591620717411303428), (S 264 0 4 1180591620717411303425), (S 265 0 4 1180591620717411303425)]), (S 1084 0 1 1180591620717411303425), (.int .u8 (.ofNat 97))], b4_0, 4024, (.slice none 0 0), [], 4027⟩
set_option maxRecDepth 1000000 in
theorem o1592 : EntryOK Try.prog e1592 := Ax.part (K := sks) (l := []) mixed sks_ok trivial (by kernel_rfl)
noncomputable def e1594 : Entry := ⟨102, [(.agg #[(S 263 0 4 1180591620717411303428), (S 264 0 4 1180591620717411303425), (S 265 0 4 1180591620717411303425)]), (S 1084 0 1 1180591620717411303425), (.int .u8 (.ofNat 98))], b4_0, 4029, (S 4033 0 1 1180591620717411303425), [⟨4033, .cells 3 [(I 2)]⟩], 4034⟩
set_option maxRecDepth 1000000 in
theorem o1594 : EntryOK Try.prog e1594 := Ax.part (K := sks) (l := []) mixed sks_ok trivial (by kernel_rfl)
noncomputable def e1598 : Entry := ⟨102, [(.agg #[(S 263 0 4 1180591620717411303428), (S 264 0 4 1180591620717411303425), (S 265 0 4 1180591620717411303425)]), (S 1084 0 1 1180591620717411303425), (.int .u8 (.ofNat 99))], b4_0, 4068, (.slice none 0 0), [], 4071⟩
set_option maxRecDepth 1000000 in
theorem o1598 : EntryOK Try.prog e1598 := Ax.part (K := sks) (l := []) mixed sks_ok trivial (by kernel_rfl)
noncomputable def e1600 : Entry := ⟨102, [(.agg #[(S 263 0 4 1180591620717411303428), (S 264 0 4 1180591620717411303425), (S 265 0 4 1180591620717411303425)]), (S 1084 0 1 1180591620717411303425), (.int .u8 (.ofNat 100))], b4_0, 4073, (.slice none 0 0), [], 4076⟩
set_option maxRecDepth 1000000 in
theorem o1600 : EntryOK Try.prog e1600 := Ax.part (K := sks) (l := []) mixed sks_ok trivial (by kernel_rfl)
noncomputable def e1602 : Entry := ⟨102, [(.agg #[(S 263 0 4 1180591620717411303428), (S 264 0 4 1180591620717411303425), (S 265 0 4 1180591620717411303425)]), (S 1084 0 1 1180591620717411303425), (.int .u8 (.ofNat 101))], b4_0, 4078, (.slice none 0 0), [], 4081⟩
set_option maxRecDepth 1000000 in
theorem o1602 : EntryOK Try.prog e1602 := Ax.part (K := sks) (l := []) mixed sks_ok trivial (by kernel_rfl)
noncomputable def e1604 : Entry := ⟨102, [(.agg #[(S 263 0 4 1180591620717411303428), (S 264 0 4 1180591620717411303425), (S 265 0 4 1180591620717411303425)]), (S 1084 0 1 1180591620717411303425), (.int .u8 (.ofNat 102))], b4_0, 4083, (.slice none 0 0), [], 4086⟩
set_option maxRecDepth 1000000 in
theorem o1604 : EntryOK Try.prog e1604 := Ax.part (K := sks) (l := []) mixed sks_ok trivial (by kernel_rfl)
noncomputable def e1606 : Entry := ⟨102, [(.agg #[(S 263 0 4 1180591620717411303428), (S 264 0 4 1180591620717411303425), (S 265 0 4 1180591620717411303425)]), (S 1084 0 1 1180591620717411303425), (.int .u8 (.ofNat 103))], b4_0, 4088, (.slice none 0 0), [], 4091⟩
set_option maxRecDepth 1000000 in
theorem o1606 : EntryOK Try.prog e1606 := Ax.part (K := sks) (l := []) mixed sks_ok trivial (by kernel_rfl)
noncomputable def e1608 : Entry := ⟨102, [(.agg #[(S 263 0 4 1180591620717411303428), (S 264 0 4 1180591620717411303425), (S 265 0 4 1180591620717411303425)]), (S 1084 0 1 1180591620717411303425), (.int .u8 (.ofNat 104))], b4_0, 4093, (.slice none 0 0), [], 4096⟩
set_option maxRecDepth 1000000 in
theorem o1608 : EntryOK Try.prog e1608 := Ax.part (K := sks) (l := []) mixed sks_ok trivial (by kernel_rfl)
noncomputable def e1610 : Entry := ⟨102, [(.agg #[(S 263 0 4 1180591620717411303428), (S 264 0 4 1180591620717411303425), (S 265 0 4 1180591620717411303425)]), (S 1084 0 1 1180591620717411303425), (.int .u8 (.ofNat 105))], b4_0, 4098, (.slice none 0 0), [], 4101⟩
set_option maxRecDepth 1000000 in
theorem o1610 : EntryOK Try.prog e1610 := Ax.part (K := sks) (l := []) mixed sks_ok trivial (by kernel_rfl)
noncomputable def e1612 : Entry := ⟨102, [(.agg #[(S 263 0 4 1180591620717411303428), (S 264 0 4 1180591620717411303425), (S 265 0 4 1180591620717411303425)]), (S 1084 0 1 1180591620717411303425), (.int .u8 (.ofNat 106))], b4_0, 4103, (.slice none 0 0), [], 4106⟩
set_option maxRecDepth 1000000 in
theorem o1612 : EntryOK Try.prog e1612 := Ax.part (K := sks) (l := []) mixed sks_ok trivial (by kernel_rfl)
noncomputable def e1614 : Entry := ⟨102, [(.agg #[(S 263 0 4 1180591620717411303428), (S 264 0 4 1180591620717411303425), (S 265 0 4 1180591620717411303425)]), (S 1084 0 1 1180591620717411303425), (.int .u8 (.ofNat 107))], b4_0, 4108, (.slice none 0 0), [], 4111⟩
set_option maxRecDepth 1000000 in
theorem o1614 : EntryOK Try.prog e1614 := Ax.part (K := sks) (l := []) mixed sks_ok trivial (by kernel_rfl)
noncomputable def e1616 : Entry := ⟨102, [(.agg #[(S 263 0 4 1180591620717411303428), (S 264 0 4 1180591620717411303425), (S 265 0 4 1180591620717411303425)]), (S 1084 0 1 1180591620717411303425), (.int .u8 (.ofNat 108))], b4_0, 4113, (.slice none 0 0), [], 4116⟩
set_option maxRecDepth 1000000 in
theorem o1616 : EntryOK Try.prog e1616 := Ax.part (K := sks) (l := []) mixed sks_ok trivial (by kernel_rfl)
noncomputable def e1618 : Entry := ⟨102, [(.agg #[(S 263 0 4 1180591620717411303428), (S 264 0 4 1180591620717411303425), (S 265 0 4 1180591620717411303425)]), (S 1084 0 1 1180591620717411303425), (.int .u8 (.ofNat 109))], b4_0, 4118, (.slice none 0 0), [], 4121⟩
set_option maxRecDepth 1000000 in
theorem o1618 : EntryOK Try.prog e1618 := Ax.part (K := sks) (l := []) mixed sks_ok trivial (by kernel_rfl)
noncomputable def e1620 : Entry := ⟨102, [(.agg #[(S 263 0 4 1180591620717411303428), (S 264 0 4 1180591620717411303425), (S 265 0 4 1180591620717411303425)]), (S 1084 0 1 1180591620717411303425), (.int .u8 (.ofNat 110))], b4_0, 4123, (.slice none 0 0), [], 4126⟩
set_option maxRecDepth 1000000 in
theorem o1620 : EntryOK Try.prog e1620 := Ax.part (K := sks) (l := []) mixed sks_ok trivial (by kernel_rfl)
noncomputable def e1622 : Entry := ⟨102, [(.agg #[(S 263 0 4 1180591620717411303428), (S 264 0 4 1180591620717411303425), (S 265 0 4 1180591620717411303425)]), (S 1084 0 1 1180591620717411303425), (.int .u8 (.ofNat 111))], b4_0, 4128, (.slice none 0 0), [], 4131⟩
set_option maxRecDepth 1000000 in
theorem o1622 : EntryOK Try.prog e1622 := Ax.part (K := sks) (l := []) mixed sks_ok trivial (by kernel_rfl)
noncomputable def e1624 : Entry := ⟨102, [(.agg #[(S 263 0 4 1180591620717411303428), (S 264 0 4 1180591620717411303425), (S 265 0 4 1180591620717411303425)]), (S 1084 0 1 1180591620717411303425), (.int .u8 (.ofNat 112))], b4_0, 4133, (.slice none 0 0), [], 4136⟩
set_option maxRecDepth 1000000 in
theorem o1624 : EntryOK Try.prog e1624 := Ax.part (K := sks) (l := []) mixed sks_ok trivial (by kernel_rfl)
noncomputable def e1626 : Entry := ⟨102, [(.agg #[(S 263 0 4 1180591620717411303428), (S 264 0 4 1180591620717411303425), (S 265 0 4 1180591620717411303425)]), (S 1084 0 1 1180591620717411303425), (.int .u8 (.ofNat 113))], b4_0, 4138, (.slice none 0 0), [], 4141⟩
set_option maxRecDepth 1000000 in
theorem o1626 : EntryOK Try.prog e1626 := Ax.part (K := sks) (l := []) mixed sks_ok trivial (by kernel_rfl)
noncomputable def e1628 : Entry := ⟨102, [(.agg #[(S 263 0 4 1180591620717411303428), (S 264 0 4 1180591620717411303425), (S 265 0 4 1180591620717411303425)]), (S 1084 0 1 1180591620717411303425), (.int .u8 (.ofNat 114))], b4_0, 4143, (.slice none 0 0), [], 4146⟩
set_option maxRecDepth 1000000 in
theorem o1628 : EntryOK Try.prog e1628 := Ax.part (K := sks) (l := []) mixed sks_ok trivial (by kernel_rfl)
noncomputable def e1630 : Entry := ⟨102, [(.agg #[(S 263 0 4 1180591620717411303428), (S 264 0 4 1180591620717411303425), (S 265 0 4 1180591620717411303425)]), (S 1084 0 1 1180591620717411303425), (.int .u8 (.ofNat 115))], b4_0, 4148, (.slice none 0 0), [], 4151⟩
set_option maxRecDepth 1000000 in
theorem o1630 : EntryOK Try.prog e1630 := Ax.part (K := sks) (l := []) mixed sks_ok trivial (by kernel_rfl)
noncomputable def e1632 : Entry := ⟨102, [(.agg #[(S 263 0 4 1180591620717411303428), (S 264 0 4 1180591620717411303425), (S 265 0 4 1180591620717411303425)]), (S 1084 0 1 1180591620717411303425), (.int .u8 (.ofNat 116))], b4_0, 4153, (.slice none 0 0), [], 4156⟩
set_option maxRecDepth 1000000 in
theorem o1632 : EntryOK Try.prog e1632 := Ax.part (K := sks) (l := []) mixed sks_ok trivial (by kernel_rfl)
noncomputable def e1634 : Entry := ⟨102, [(.agg #[(S 263 0 4 1180591620717411303428), (S 264 0 4 1180591620717411303425), (S 265 0 4 1180591620717411303425)]), (S 1084 0 1 1180591620717411303425), (.int .u8 (.ofNat 117))], b4_0, 4158, (.slice none 0 0), [], 4161⟩
set_option maxRecDepth 1000000 in
theorem o1634 : EntryOK Try.prog e1634 := Ax.part (K := sks) (l := []) mixed sks_ok trivial (by kernel_rfl)
noncomputable def e1636 : Entry := ⟨102, [(.agg #[(S 263 0 4 1180591620717411303428), (S 264 0 4 1180591620717411303425), (S 265 0 4 1180591620717411303425)]), (S 1084 0 1 1180591620717411303425), (.int .u8 (.ofNat 118))], b4_0, 4163, (.slice none 0 0), [], 4166⟩
set_option maxRecDepth 1000000 in
theorem o1636 : EntryOK Try.prog e1636 := Ax.part (K := sks) (l := []) mixed sks_ok trivial (by kernel_rfl)
noncomputable def e1638 : Entry := ⟨102, [(.agg #[(S 263 0 4 1180591620717411303428), (S 264 0 4 1180591620717411303425), (S 265 0 4 1180591620717411303425)]), (S 1084 0 1 1180591620717411303425), (.int .u8 (.ofNat 119))], b4_0, 4168, (.slice none 0 0), [], 4171⟩
set_option maxRecDepth 1000000 in
theorem o1638 : EntryOK Try.prog e1638 := Ax.part (K := sks) (l := []) mixed sks_ok trivial (by kernel_rfl)
noncomputable def e1640 : Entry := ⟨102, [(.agg #[(S 263 0 4 1180591620717411303428), (S 264 0 4 1180591620717411303425), (S 265 0 4 1180591620717411303425)]), (S 1084 0 1 1180591620717411303425), (.int .u8 (.ofNat 120))], b4_0, 4173, (.slice none 0 0), [], 4176⟩
set_option maxRecDepth 1000000 in
theorem o1640 : EntryOK Try.prog e1640 := Ax.part (K := sks) (l := []) mixed sks_ok trivial (by kernel_rfl)
noncomputable def e1642 : Entry := ⟨102, [(.agg #[(S 263 0 4 1180591620717411303428), (S 264 0 4 1180591620717411303425), (S 265 0 4 1180591620717411303425)]), (S 1084 0 1 1180591620717411303425), (.int .u8 (.ofNat 121))], b4_0, 4178, (.slice none 0 0), [], 4181⟩
set_option maxRecDepth 1000000 in
theorem o1642 : EntryOK Try.prog e1642 := Ax.part (K := sks) (l := []) mixed sks_ok trivial (by kernel_rfl)
noncomputable def e1644 : Entry := ⟨102, [(.agg #[(S 263 0 4 1180591620717411303428), (S 264 0 4 1180591620717411303425), (S 265 0 4 1180591620717411303425)]), (S 1084 0 1 1180591620717411303425), (.int .u8 (.ofNat 122))], b4_0, 4183, (.slice none 0 0), [], 4186⟩
set_option maxRecDepth 1000000 in
theorem o1644 : EntryOK Try.prog e1644 := Ax.part (K := sks) (l := []) mixed sks_ok trivial (by kernel_rfl)
noncomputable def e1646 : Entry := ⟨102, [(.agg #[(S 263 0 4 1180591620717411303428), (S 264 0 4 1180591620717411303425), (S 265 0 4 1180591620717411303425)]), (S 1084 0 1 1180591620717411303425), (.int .u8 (.ofNat 123))], b4_0, 4188, (.slice none 0 0), [], 4191⟩
set_option maxRecDepth 1000000 in
theorem o1646 : EntryOK Try.prog e1646 := Ax.part (K := sks) (l := []) mixed sks_ok trivial (by kernel_rfl)
noncomputable def e1648 : Entry := ⟨102, [(.agg #[(S 263 0 4 1180591620717411303428), (S 264 0 4 1180591620717411303425), (S 265 0 4 1180591620717411303425)]), (S 1084 0 1 1180591620717411303425), (.int .u8 (.ofNat 124))], b4_0, 4193, (.slice none 0 0), [], 4196⟩
set_option maxRecDepth 1000000 in
theorem o1648 : EntryOK Try.prog e1648 := Ax.part (K := sks) (l := []) mixed sks_ok trivial (by kernel_rfl)
noncomputable def e1650 : Entry := ⟨102, [(.agg #[(S 263 0 4 1180591620717411303428), (S 264 0 4 1180591620717411303425), (S 265 0 4 1180591620717411303425)]), (S 1084 0 1 1180591620717411303425), (.int .u8 (.ofNat 125))], b4_0, 4198, (.slice none 0 0), [], 4201⟩
set_option maxRecDepth 1000000 in
theorem o1650 : EntryOK Try.prog e1650 := Ax.part (K := sks) (l := []) mixed sks_ok trivial (by kernel_rfl)
noncomputable def e1652 : Entry := ⟨102, [(.agg #[(S 263 0 4 1180591620717411303428), (S 264 0 4 1180591620717411303425), (S 265 0 4 1180591620717411303425)]), (S 1084 0 1 1180591620717411303425), (.int .u8 (.ofNat 126))], b4_0, 4203, (.slice none 0 0), [], 4206⟩
set_option maxRecDepth 1000000 in
theorem o1652 : EntryOK Try.prog e1652 := Ax.part (K := sks) (l := []) mixed sks_ok trivial (by kernel_rfl)
noncomputable def e1654 : Entry := ⟨102, [(.agg #[(S 263 0 4 1180591620717411303428), (S 264 0 4 1180591620717411303425), (S 265 0 4 1180591620717411303425)]), (S 1084 0 1 1180591620717411303425), (.int .u8 (.ofNat 127))], b4_0, 4208, (.slice none 0 0), [], 4211⟩
set_option maxRecDepth 1000000 in
theorem o1654 : EntryOK Try.prog e1654 := Ax.part (K := sks) (l := []) mixed sks_ok trivial (by kernel_rfl)
noncomputable def e1656 : Entry := ⟨102, [(.agg #[(S 263 0 4 1180591620717411303428), (S 264 0 4 1180591620717411303425), (S 265 0 4 1180591620717411303425)]), (S 1084 0 1 1180591620717411303425), (.int .u8 (.ofNat 128))], b4_0, 4213, (.slice none 0 0), [], 4216⟩
set_option maxRecDepth 1000000 in
theorem o1656 : EntryOK Try.prog e1656 := Ax.part (K := sks) (l := []) mixed sks_ok trivial (by kernel_rfl)
noncomputable def e1658 : Entry := ⟨102, [(.agg #[(S 263 0 4 1180591620717411303428), (S 264 0 4 1180591620717411303425), (S 265 0 4 1180591620717411303425)]), (S 1084 0 1 1180591620717411303425), (.int .u8 (.ofNat 129))], b4_0, 4218, (.slice none 0 0), [], 4221⟩
set_option maxRecDepth 1000000 in
theorem o1658 : EntryOK Try.prog e1658 := Ax.part (K := sks) (l := []) mixed sks_ok trivial (by kernel_rfl)
noncomputable def e1660 : Entry := ⟨102, [(.agg #[(S 263 0 4 1180591620717411303428), (S 264 0 4 1180591620717411303425), (S 265 0 4 1180591620717411303425)]), (S 1084 0 1 1180591620717411303425), (.int .u8 (.ofNat 130))], b4_0, 4223, (.slice none 0 0), [], 4226⟩
set_option maxRecDepth 1000000 in
theorem o1660 : EntryOK Try.prog e1660 := Ax.part (K := sks) (l := []) mixed sks_ok trivial (by kernel_rfl)
noncomputable def e1662 : Entry := ⟨102, [(.agg #[(S 263 0 4 1180591620717411303428), (S 264 0 4 1180591620717411303425), (S 265 0 4 1180591620717411303425)]), (S 1084 0 1 1180591620717411303425), (.int .u8 (.ofNat 131))], b4_0, 4228, (.slice none 0 0), [], 4231⟩
set_option maxRecDepth 1000000 in
theorem o1662 : EntryOK Try.prog e1662 := Ax.part (K := sks) (l := []) mixed sks_ok trivial (by kernel_rfl)
noncomputable def e1664 : Entry := ⟨102, [(.agg #[(S 263 0 4 1180591620717411303428), (S 264 0 4 1180591620717411303425), (S 265 0 4 1180591620717411303425)]), (S 1084 0 1 1180591620717411303425), (.int .u8 (.ofNat 132))], b4_0, 4233, (.slice none 0 0), [], 4236⟩
set_option maxRecDepth 1000000 in
theorem o1664 : EntryOK Try.prog e1664 := Ax.part (K := sks) (l := []) mixed sks_ok trivial (by kernel_rfl)
noncomputable def e1666 : Entry := ⟨102, [(.agg #[(S 263 0 4 1180591620717411303428), (S 264 0 4 1180591620717411303425), (S 265 0 4 1180591620717411303425)]), (S 1084 0 1 1180591620717411303425), (.int .u8 (.ofNat 133))], b4_0, 4238, (.slice none 0 0), [], 4241⟩
set_option maxRecDepth 1000000 in
theorem o1666 : EntryOK Try.prog e1666 := Ax.part (K := sks) (l := []) mixed sks_ok trivial (by kernel_rfl)
noncomputable def e1668 : Entry := ⟨102, [(.agg #[(S 263 0 4 1180591620717411303428), (S 264 0 4 1180591620717411303425), (S 265 0 4 1180591620717411303425)]), (S 1084 0 1 1180591620717411303425), (.int .u8 (.ofNat 134))], b4_0, 4243, (.slice none 0 0), [], 4246⟩
set_option maxRecDepth 1000000 in
theorem o1668 : EntryOK Try.prog e1668 := Ax.part (K := sks) (l := []) mixed sks_ok trivial (by kernel_rfl)
noncomputable def e1670 : Entry := ⟨102, [(.agg #[(S 263 0 4 1180591620717411303428), (S 264 0 4 1180591620717411303425), (S 265 0 4 1180591620717411303425)]), (S 1084 0 1 1180591620717411303425), (.int .u8 (.ofNat 135))], b4_0, 4248, (.slice none 0 0), [], 4251⟩
set_option maxRecDepth 1000000 in
theorem o1670 : EntryOK Try.prog e1670 := Ax.part (K := sks) (l := []) mixed sks_ok trivial (by kernel_rfl)
noncomputable def e1672 : Entry := ⟨102, [(.agg #[(S 263 0 4 1180591620717411303428), (S 264 0 4 1180591620717411303425), (S 265 0 4 1180591620717411303425)]), (S 1084 0 1 1180591620717411303425), (.int .u8 (.ofNat 136))], b4_0, 4253, (.slice none 0 0), [], 4256⟩
set_option maxRecDepth 1000000 in
theorem o1672 : EntryOK Try.prog e1672 := Ax.part (K := sks) (l := []) mixed sks_ok trivial (by kernel_rfl)
noncomputable def e1674 : Entry := ⟨102, [(.agg #[(S 263 0 4 1180591620717411303428), (S 264 0 4 1180591620717411303425), (S 265 0 4 1180591620717411303425)]), (S 1084 0 1 1180591620717411303425), (.int .u8 (.ofNat 137))], b4_0, 4258, (.slice none 0 0), [], 4261⟩
set_option maxRecDepth 1000000 in
theorem o1674 : EntryOK Try.prog e1674 := Ax.part (K := sks) (l := []) mixed sks_ok trivial (by kernel_rfl)
noncomputable def e1676 : Entry := ⟨102, [(.agg #[(S 263 0 4 1180591620717411303428), (S 264 0 4 1180591620717411303425), (S 265 0 4 1180591620717411303425)]), (S 1084 0 1 1180591620717411303425), (.int .u8 (.ofNat 138))], b4_0, 4263, (.slice none 0 0), [], 4266⟩
set_option maxRecDepth 1000000 in
theorem o1676 : EntryOK Try.prog e1676 := Ax.part (K := sks) (l := []) mixed sks_ok trivial (by kernel_rfl)
noncomputable def e1678 : Entry := ⟨102, [(.agg #[(S 263 0 4 1180591620717411303428), (S 264 0 4 1180591620717411303425), (S 265 0 4 1180591620717411303425)]), (S 1084 0 1 1180591620717411303425), (.int .u8 (.ofNat 139))], b4_0, 4268, (.slice none 0 0), [], 4271⟩
set_option maxRecDepth 1000000 in
theorem o1678 : EntryOK Try.prog e1678 := Ax.part (K := sks) (l := []) mixed sks_ok trivial (by kernel_rfl)
noncomputable def e1680 : Entry := ⟨102, [(.agg #[(S 263 0 4 1180591620717411303428), (S 264 0 4 1180591620717411303425), (S 265 0 4 1180591620717411303425)]), (S 1084 0 1 1180591620717411303425), (.int .u8 (.ofNat 140))], b4_0, 4273, (.slice none 0 0), [], 4276⟩
set_option maxRecDepth 1000000 in
theorem o1680 : EntryOK Try.prog e1680 := Ax.part (K := sks) (l := []) mixed sks_ok trivial (by kernel_rfl)
noncomputable def e1682 : Entry := ⟨102, [(.agg #[(S 263 0 4 1180591620717411303428), (S 264 0 4 1180591620717411303425), (S 265 0 4 1180591620717411303425)]), (S 1084 0 1 1180591620717411303425), (.int .u8 (.ofNat 141))], b4_0, 4278, (.slice none 0 0), [], 4281⟩
set_option maxRecDepth 1000000 in
theorem o1682 : EntryOK Try.prog e1682 := Ax.part (K := sks) (l := []) mixed sks_ok trivial (by kernel_rfl)
noncomputable def e1684 : Entry := ⟨102, [(.agg #[(S 263 0 4 1180591620717411303428), (S 264 0 4 1180591620717411303425), (S 265 0 4 1180591620717411303425)]), (S 1084 0 1 1180591620717411303425), (.int .u8 (.ofNat 142))], b4_0, 4283, (.slice none 0 0), [], 4286⟩
set_option maxRecDepth 1000000 in
theorem o1684 : EntryOK Try.prog e1684 := Ax.part (K := sks) (l := []) mixed sks_ok trivial (by kernel_rfl)
noncomputable def e1686 : Entry := ⟨102, [(.agg #[(S 263 0 4 1180591620717411303428), (S 264 0 4 1180591620717411303425), (S 265 0 4 1180591620717411303425)]), (S 1084 0 1 1180591620717411303425), (.int .u8 (.ofNat 143))], b4_0, 4288, (.slice none 0 0), [], 4291⟩
set_option maxRecDepth 1000000 in
theorem o1686 : EntryOK Try.prog e1686 := Ax.part (K := sks) (l := []) mixed sks_ok trivial (by kernel_rfl)
noncomputable def e1688 : Entry := ⟨102, [(.agg #[(S 263 0 4 1180591620717411303428), (S 264 0 4 1180591620717411303425), (S 265 0 4 1180591620717411303425)]), (S 1084 0 1 1180591620717411303425), (.int .u8 (.ofNat 144))], b4_0, 4293, (.slice none 0 0), [], 4296⟩
set_option maxRecDepth 1000000 in
theorem o1688 : EntryOK Try.prog e1688 := Ax.part (K := sks) (l := []) mixed sks_ok trivial (by kernel_rfl)
noncomputable def e1690 : Entry := ⟨102, [(.agg #[(S 263 0 4 1180591620717411303428), (S 264 0 4 1180591620717411303425), (S 265 0 4 1180591620717411303425)]), (S 1084 0 1 1180591620717411303425), (.int .u8 (.ofNat 145))], b4_0, 4298, (.slice none 0 0), [], 4301⟩
set_option maxRecDepth 1000000 in
theorem o1690 : EntryOK Try.prog e1690 := Ax.part (K := sks) (l := []) mixed sks_ok trivial (by kernel_rfl)
noncomputable def e1692 : Entry := ⟨102, [(.agg #[(S 263 0 4 1180591620717411303428), (S 264 0 4 1180591620717411303425), (S 265 0 4 1180591620717411303425)]), (S 1084 0 1 1180591620717411303425), (.int .u8 (.ofNat 146))], b4_0, 4303, (.slice none 0 0), [], 4306⟩
set_option maxRecDepth 1000000 in
theorem o1692 : EntryOK Try.prog e1692 := Ax.part (K := sks) (l := []) mixed sks_ok trivial (by kernel_rfl)
noncomputable def e1694 : Entry := ⟨102, [(.agg #[(S 263 0 4 1180591620717411303428), (S 264 0 4 1180591620717411303425), (S 265 0 4 1180591620717411303425)]), (S 1084 0 1 1180591620717411303425), (.int .u8 (.ofNat 147))], b4_0, 4308, (.slice none 0 0), [], 4311⟩
set_option maxRecDepth 1000000 in
theorem o1694 : EntryOK Try.prog e1694 := Ax.part (K := sks) (l := []) mixed sks_ok trivial (by kernel_rfl)
noncomputable def e1696 : Entry := ⟨102, [(.agg #[(S 263 0 4 1180591620717411303428), (S 264 0 4 1180591620717411303425), (S 265 0 4 1180591620717411303425)]), (S 1084 0 1 1180591620717411303425), (.int .u8 (.ofNat 148))], b4_0, 4313, (.slice none 0 0), [], 4316⟩
set_option maxRecDepth 1000000 in
theorem o1696 : EntryOK Try.prog e1696 := Ax.part (K := sks) (l := []) mixed sks_ok trivial (by kernel_rfl)
noncomputable def e1698 : Entry := ⟨102, [(.agg #[(S 263 0 4 1180591620717411303428), (S 264 0 4 1180591620717411303425), (S 265 0 4 1180591620717411303425)]), (S 1084 0 1 1180591620717411303425), (.int .u8 (.ofNat 149))], b4_0, 4318, (.slice none 0 0), [], 4321⟩
set_option maxRecDepth 1000000 in
theorem o1698 : EntryOK Try.prog e1698 := Ax.part (K := sks) (l := []) mixed sks_ok trivial (by kernel_rfl)
noncomputable def e1700 : Entry := ⟨102, [(.agg #[(S 263 0 4 1180591620717411303428), (S 264 0 4 1180591620717411303425), (S 265 0 4 1180591620717411303425)]), (S 1084 0 1 1180591620717411303425), (.int .u8 (.ofNat 150))], b4_0, 4323, (.slice none 0 0), [], 4326⟩
set_option maxRecDepth 1000000 in
theorem o1700 : EntryOK Try.prog e1700 := Ax.part (K := sks) (l := []) mixed sks_ok trivial (by kernel_rfl)
noncomputable def e1702 : Entry := ⟨102, [(.agg #[(S 263 0 4 1180591620717411303428), (S 264 0 4 1180591620717411303425), (S 265 0 4 1180591620717411303425)]), (S 1084 0 1 1180591620717411303425), (.int .u8 (.ofNat 151))], b4_0, 4328, (.slice none 0 0), [], 4331⟩
set_option maxRecDepth 1000000 in
theorem o1702 : EntryOK Try.prog e1702 := Ax.part (K := sks) (l := []) mixed sks_ok trivial (by kernel_rfl)
noncomputable def e1704 : Entry := ⟨102, [(.agg #[(S 263 0 4 1180591620717411303428), (S 264 0 4 1180591620717411303425), (S 265 0 4 1180591620717411303425)]), (S 1084 0 1 1180591620717411303425), (.int .u8 (.ofNat 152))], b4_0, 4333, (.slice none 0 0), [], 4336⟩
set_option maxRecDepth 1000000 in
theorem o1704 : EntryOK Try.prog e1704 := Ax.part (K := sks) (l := []) mixed sks_ok trivial (by kernel_rfl)
noncomputable def e1706 : Entry := ⟨102, [(.agg #[(S 263 0 4 1180591620717411303428), (S 264 0 4 1180591620717411303425), (S 265 0 4 1180591620717411303425)]), (S 1084 0 1 1180591620717411303425), (.int .u8 (.ofNat 153))], b4_0, 4338, (.slice none 0 0), [], 4341⟩
set_option maxRecDepth 1000000 in
theorem o1706 : EntryOK Try.prog e1706 := Ax.part (K := sks) (l := []) mixed sks_ok trivial (by kernel_rfl)
noncomputable def e1708 : Entry := ⟨102, [(.agg #[(S 263 0 4 1180591620717411303428), (S 264 0 4 1180591620717411303425), (S 265 0 4 1180591620717411303425)]), (S 1084 0 1 1180591620717411303425), (.int .u8 (.ofNat 154))], b4_0, 4343, (.slice none 0 0), [], 4346⟩
set_option maxRecDepth 1000000 in
theorem o1708 : EntryOK Try.prog e1708 := Ax.part (K := sks) (l := []) mixed sks_ok trivial (by kernel_rfl)
noncomputable def e1710 : Entry := ⟨102, [(.agg #[(S 263 0 4 1180591620717411303428), (S 264 0 4 1180591620717411303425), (S 265 0 4 1180591620717411303425)]), (S 1084 0 1 1180591620717411303425), (.int .u8 (.ofNat 155))], b4_0, 4348, (.slice none 0 0), [], 4351⟩
set_option maxRecDepth 1000000 in
theorem o1710 : EntryOK Try.prog e1710 := Ax.part (K := sks) (l := []) mixed sks_ok trivial (by kernel_rfl)
noncomputable def e1712 : Entry := ⟨102, [(.agg #[(S 263 0 4 1180591620717411303428), (S 264 0 4 1180591620717411303425), (S 265 0 4 1180591620717411303425)]), (S 1084 0 1 1180591620717411303425), (.int .u8 (.ofNat 156))], b4_0, 4353, (.slice none 0 0), [], 4356⟩
set_option maxRecDepth 1000000 in
theorem o1712 : EntryOK Try.prog e1712 := Ax.part (K := sks) (l := []) mixed sks_ok trivial (by kernel_rfl)
noncomputable def e1714 : Entry := ⟨102, [(.agg #[(S 263 0 4 1180591620717411303428), (S 264 0 4 1180591620717411303425), (S 265 0 4 1180591620717411303425)]), (S 1084 0 1 1180591620717411303425), (.int .u8 (.ofNat 157))], b4_0, 4358, (.slice none 0 0), [], 4361⟩
set_option maxRecDepth 1000000 in
theorem o1714 : EntryOK Try.prog e1714 := Ax.part (K := sks) (l := []) mixed sks_ok trivial (by kernel_rfl)
noncomputable def e1716 : Entry := ⟨102, [(.agg #[(S 263 0 4 1180591620717411303428), (S 264 0 4 1180591620717411303425), (S 265 0 4 1180591620717411303425)]), (S 1084 0 1 1180591620717411303425), (.int .u8 (.ofNat 158))], b4_0, 4363, (.slice none 0 0), [], 4366⟩
set_option maxRecDepth 1000000 in
theorem o1716 : EntryOK Try.prog e1716 := Ax.part (K := sks) (l := []) mixed sks_ok trivial (by kernel_rfl)
noncomputable def e1718 : Entry := ⟨102, [(.agg #[(S 263 0 4 1180591620717411303428), (S 264 0 4 1180591620717411303425), (S 265 0 4 1180591620717411303425)]), (S 1084 0 1 1180591620717411303425), (.int .u8 (.ofNat 159))], b4_0, 4368, (.slice none 0 0), [], 4371⟩
set_option maxRecDepth 1000000 in
theorem o1718 : EntryOK Try.prog e1718 := Ax.part (K := sks) (l := []) mixed sks_ok trivial (by kernel_rfl)
noncomputable def e1720 : Entry := ⟨102, [(.agg #[(S 263 0 4 1180591620717411303428), (S 264 0 4 1180591620717411303425), (S 265 0 4 1180591620717411303425)]), (S 1084 0 1 1180591620717411303425), (.int .u8 (.ofNat 160))], b4_0, 4373, (.slice none 0 0), [], 4376⟩
set_option maxRecDepth 1000000 in
theorem o1720 : EntryOK Try.prog e1720 := Ax.part (K := sks) (l := []) mixed sks_ok trivial (by kernel_rfl)
noncomputable def e1722 : Entry := ⟨102, [(.agg #[(S 263 0 4 1180591620717411303428), (S 264 0 4 1180591620717411303425), (S 265 0 4 1180591620717411303425)]), (S 1084 0 1 1180591620717411303425), (.int .u8 (.ofNat 161))], b4_0, 4378, (.slice none 0 0), [], 4381⟩
set_option maxRecDepth 1000000 in
theorem o1722 : EntryOK Try.prog e1722 := Ax.part (K := sks) (l := []) mixed sks_ok trivial (by kernel_rfl)
noncomputable def e1724 : Entry := ⟨102, [(.agg #[(S 263 0 4 1180591620717411303428), (S 264 0 4 1180591620717411303425), (S 265 0 4 1180591620717411303425)]), (S 1084 0 1 1180591620717411303425), (.int .u8 (.ofNat 162))], b4_0, 4383, (.slice none 0 0), [], 4386⟩
set_option maxRecDepth 1000000 in
theorem o1724 : EntryOK Try.prog e1724 := Ax.part (K := sks) (l := []) mixed sks_ok trivial (by kernel_rfl)
noncomputable def e1726 : Entry := ⟨102, [(.agg #[(S 263 0 4 1180591620717411303428), (S 264 0 4 1180591620717411303425), (S 265 0 4 1180591620717411303425)]), (S 1084 0 1 1180591620717411303425), (.int .u8 (.ofNat 163))], b4_0, 4388, (.slice none 0 0), [], 4391⟩
set_option maxRecDepth 1000000 in
theorem o1726 : EntryOK Try.prog e1726 := Ax.part (K := sks) (l := []) mixed sks_ok trivial (by kernel_rfl)
noncomputable def e1728 : Entry := ⟨102, [(.agg #[(S 263 0 4 1180591620717411303428), (S 264 0 4 1180591620717411303425), (S 265 0 4 1180591620717411303425)]), (S 1084 0 1 1180591620717411303425), (.int .u8 (.ofNat 164))], b4_0, 4393, (.slice none 0 0), [], 4396⟩
set_option maxRecDepth 1000000 in
theorem o1728 : EntryOK Try.prog e1728 := Ax.part (K := sks) (l := []) mixed sks_ok trivial (by kernel_rfl)
noncomputable def e1730 : Entry := ⟨102, [(.agg #[(S 263 0 4 1180591620717411303428), (S 264 0 4 1180591620717411303425), (S 265 0 4 1180591620717411303425)]), (S 1084 0 1 1180591620717411303425), (.int .u8 (.ofNat 165))], b4_0, 4398, (.slice none 0 0), [], 4401⟩
set_option maxRecDepth 1000000 in
theorem o1730 : EntryOK Try.prog e1730 := Ax.part (K := sks) (l := []) mixed sks_ok trivial (by kernel_rfl)
noncomputable def e1732 : Entry := ⟨102, [(.agg #[(S 263 0 4 1180591620717411303428), (S 264 0 4 1180591620717411303425), (S 265 0 4 1180591620717411303425)]), (S 1084 0 1 1180591620717411303425), (.int .u8 (.ofNat 166))], b4_0, 4403, (.slice none 0 0), [], 4406⟩
set_option maxRecDepth 1000000 in
theorem o1732 : EntryOK Try.prog e1732 := Ax.part (K := sks) (l := []) mixed sks_ok trivial (by kernel_rfl)
noncomputable def e1734 : Entry := ⟨102, [(.agg #[(S 263 0 4 1180591620717411303428), (S 264 0 4 1180591620717411303425), (S 265 0 4 1180591620717411303425)]), (S 1084 0 1 1180591620717411303425), (.int .u8 (.ofNat 167))], b4_0, 4408, (.slice none 0 0), [], 4411⟩
set_option maxRecDepth 1000000 in
theorem o1734 : EntryOK Try.prog e1734 := Ax.part (K := sks) (l := []) mixed sks_ok trivial (by kernel_rfl)
noncomputable def e1736 : Entry := ⟨102, [(.agg #[(S 263 0 4 1180591620717411303428), (S 264 0 4 1180591620717411303425), (S 265 0 4 1180591620717411303425)]), (S 1084 0 1 1180591620717411303425), (.int .u8 (.ofNat 168))], b4_0, 4413, (.slice none 0 0), [], 4416⟩
set_option maxRecDepth 1000000 in
theorem o1736 : EntryOK Try.prog e1736 := Ax.part (K := sks) (l := []) mixed sks_ok trivial (by kernel_rfl)
noncomputable def e1738 : Entry := ⟨102, [(.agg #[(S 263 0 4 1180591620717411303428), (S 264 0 4 1180591620717411303425), (S 265 0 4 1180591620717411303425)]), (S 1084 0 1 1180591620717411303425), (.int .u8 (.ofNat 169))], b4_0, 4418, (.slice none 0 0), [], 4421⟩
set_option maxRecDepth 1000000 in
theorem o1738 : EntryOK Try.prog e1738 := Ax.part (K := sks) (l := []) mixed sks_ok trivial (by kernel_rfl)
noncomputable def e1740 : Entry := ⟨102, [(.agg #[(S 263 0 4 1180591620717411303428), (S 264 0 4 1180591620717411303425), (S 265 0 4 1180591620717411303425)]), (S 1084 0 1 1180591620717411303425), (.int .u8 (.ofNat 170))], b4_0, 4423, (.slice none 0 0), [], 4426⟩
set_option maxRecDepth 1000000 in
theorem o1740 : EntryOK Try.prog e1740 := Ax.part (K := sks) (l := []) mixed sks_ok trivial (by kernel_rfl)
noncomputable def e1742 : Entry := ⟨102, [(.agg #[(S 263 0 4 1180591620717411303428), (S 264 0 4 1180591620717411303425), (S 265 0 4 1180591620717411303425)]), (S 1084 0 1 1180591620717411303425), (.int .u8 (.ofNat 171))], b4_0, 4428, (.slice none 0 0), [], 4431⟩
set_option maxRecDepth 1000000 in
theorem o1742 : EntryOK Try.prog e1742 := Ax.part (K := sks) (l := []) mixed sks_ok trivial (by kernel_rfl)
noncomputable def e1744 : Entry := ⟨102, [(.agg #[(S 263 0 4 1180591620717411303428), (S 264 0 4 1180591620717411303425), (S 265 0 4 1180591620717411303425)]), (S 1084 0 1 1180591620717411303425), (.int .u8 (.ofNat 172))], b4_0, 4433, (.slice none 0 0), [], 4436⟩
set_option maxRecDepth 1000000 in
theorem o1744 : EntryOK Try.prog e1744 := Ax.part (K := sks) (l := []) mixed sks_ok trivial (by kernel_rfl)
noncomputable def e1746 : Entry := ⟨102, [(.agg #[(S 263 0 4 1180591620717411303428), (S 264 0 4 1180591620717411303425), (S 265 0 4 1180591620717411303425)]), (S 1084 0 1 1180591620717411303425), (.int .u8 (.ofNat 173))], b4_0, 4438, (.slice none 0 0), [], 4441⟩
set_option maxRecDepth 1000000 in
theorem o1746 : EntryOK Try.prog e1746 := Ax.part (K := sks) (l := []) mixed sks_ok trivial (by kernel_rfl)
noncomputable def e1748 : Entry := ⟨102, [(.agg #[(S 263 0 4 1180591620717411303428), (S 264 0 4 1180591620717411303425), (S 265 0 4 1180591620717411303425)]), (S 1084 0 1 1180591620717411303425), (.int .u8 (.ofNat 174))], b4_0, 4443, (.slice none 0 0), [], 4446⟩
set_option maxRecDepth 1000000 in
theorem o1748 : EntryOK Try.prog e1748 := Ax.part (K := sks) (l := []) mixed sks_ok trivial (by kernel_rfl)
noncomputable def e1750 : Entry := ⟨102, [(.agg #[(S 263 0 4 1180591620717411303428), (S 264 0 4 1180591620717411303425), (S 265 0 4 1180591620717411303425)]), (S 1084 0 1 1180591620717411303425), (.int .u8 (.ofNat 175))], b4_0, 4448, (.slice none 0 0), [], 4451⟩
set_option maxRecDepth 1000000 in
theorem o1750 : EntryOK Try.prog e1750 := Ax.part (K := sks) (l := []) mixed sks_ok trivial (by kernel_rfl)
noncomputable def e1752 : Entry := ⟨102, [(.agg #[(S 263 0 4 1180591620717411303428), (S 264 0 4 1180591620717411303425), (S 265 0 4 1180591620717411303425)]), (S 1084 0 1 1180591620717411303425), (.int .u8 (.ofNat 176))], b4_0, 4453, (.slice none 0 0), [], 4456⟩
set_option maxRecDepth 1000000 in
theorem o1752 : EntryOK Try.prog e1752 := Ax.part (K := sks) (l := []) mixed sks_ok trivial (by kernel_rfl)
noncomputable def e1754 : Entry := ⟨102, [(.agg #[(S 263 0 4 1180591620717411303428), (S 264 0 4 1180591620717411303425), (S 265 0 4 1180591620717411303425)]), (S 1084 0 1 1180591620717411303425), (.int .u8 (.ofNat 177))], b4_0, 4458, (.slice none 0 0), [], 4461⟩
set_option maxRecDepth 1000000 in
theorem o1754 : EntryOK Try.prog e1754 := Ax.part (K := sks) (l := []) mixed sks_ok trivial (by kernel_rfl)
noncomputable def e1756 : Entry := ⟨102, [(.agg #[(S 263 0 4 1180591620717411303428), (S 264 0 4 1180591620717411303425), (S 265 0 4 1180591620717411303425)]), (S 1084 0 1 1180591620717411303425), (.int .u8 (.ofNat 178))], b4_0, 4463, (.slice none 0 0), [], 4466⟩
set_option maxRecDepth 1000000 in
theorem o1756 : EntryOK Try.prog e1756 := Ax.part (K := sks) (l := []) mixed sks_ok trivial (by kernel_rfl)
noncomputable def e1758 : Entry := ⟨102, [(.agg #[(S 263 0 4 1180591620717411303428), (S 264 0 4 1180591620717411303425), (S 265 0 4 1180591620717411303425)]), (S 1084 0 1 1180591620717411303425), (.int .u8 (.ofNat 179))], b4_0, 4468, (.slice none 0 0), [], 4471⟩
set_option maxRecDepth 1000000 in
theorem o1758 : EntryOK Try.prog e1758 := Ax.part (K := sks) (l := []) mixed sks_ok trivial (by kernel_rfl)
noncomputable def e1760 : Entry := ⟨102, [(.agg #[(S 263 0 4 1180591620717411303428), (S 264 0 4 1180591620717411303425), (S 265 0 4 1180591620717411303425)]), (S 1084 0 1 1180591620717411303425), (.int .u8 (.ofNat 180))], b4_0, 4473, (.slice none 0 0), [], 4476⟩
set_option maxRecDepth 1000000 in
theorem o1760 : EntryOK Try.prog e1760 := Ax.part (K := sks) (l := []) mixed sks_ok trivial (by kernel_rfl)
noncomputable def e1762 : Entry := ⟨102, [(.agg #[(S 263 0 4 1180591620717411303428), (S 264 0 4 1180591620717411303425), (S 265 0 4 1180591620717411303425)]), (S 1084 0 1 1180591620717411303425), (.int .u8 (.ofNat 181))], b4_0, 4478, (.slice none 0 0), [], 4481⟩
set_option maxRecDepth 1000000 in
theorem o1762 : EntryOK Try.prog e1762 := Ax.part (K := sks) (l := []) mixed sks_ok trivial (by kernel_rfl)
noncomputable def e1764 : Entry := ⟨102, [(.agg #[(S 263 0 4 1180591620717411303428), (S 264 0 4 1180591620717411303425), (S 265 0 4 1180591620717411303425)]), (S 1084 0 1 1180591620717411303425), (.int .u8 (.ofNat 182))], b4_0, 4483, (.slice none 0 0), [], 4486⟩
set_option maxRecDepth 1000000 in
theorem o1764 : EntryOK Try.prog e1764 := Ax.part (K := sks) (l := []) mixed sks_ok trivial (by kernel_rfl)
noncomputable def e1766 : Entry := ⟨102, [(.agg #[(S 263 0 4 1180591620717411303428), (S 264 0 4 1180591620717411303425), (S 265 0 4 1180591620717411303425)]), (S 1084 0 1 1180591620717411303425), (.int .u8 (.ofNat 183))], b4_0, 4488, (.slice none 0 0), [], 4491⟩
set_option maxRecDepth 1000000 in
theorem o1766 : EntryOK Try.prog e1766 := Ax.part (K := sks) (l := []) mixed sks_ok trivial (by kernel_rfl)
noncomputable def e1768 : Entry := ⟨102, [(.agg #[(S 263 0 4 1180591620717411303428), (S 264 0 4 1180591620717411303425), (S 265 0 4 1180591620717411303425)]), (S 1084 0 1 1180591620717411303425), (.int .u8 (.ofNat 184))], b4_0, 4493, (.slice none 0 0), [], 4496⟩
set_option maxRecDepth 1000000 in
theorem o1768 : EntryOK Try.prog e1768 := Ax.part (K := sks) (l := []) mixed sks_ok trivial (by kernel_rfl)
noncomputable def e1770 : Entry := ⟨102, [(.agg #[(S 263 0 4 1180591620717411303428), (S 264 0 4 1180591620717411303425), (S 265 0 4 1180591620717411303425)]), (S 1084 0 1 1180591620717411303425), (.int .u8 (.ofNat 185))], b4_0, 4498, (.slice none 0 0), [], 4501⟩
set_option maxRecDepth 1000000 in
theorem o1770 : EntryOK Try.prog e1770 := Ax.part (K := sks) (l := []) mixed sks_ok trivial (by kernel_rfl)
noncomputable def e1772 : Entry := ⟨102, [(.agg #[(S 263 0 4 1180591620717411303428), (S 264 0 4 1180591620717411303425), (S 265 0 4 1180591620717411303425)]), (S 1084 0 1 1180591620717411303425), (.int .u8 (.ofNat 186))], b4_0, 4503, (.slice none 0 0), [], 4506⟩
set_option maxRecDepth 1000000 in
theorem o1772 : EntryOK Try.prog e1772 := Ax.part (K := sks) (l := []) mixed sks_ok trivial (by kernel_rfl)
noncomputable def e1774 : Entry := ⟨102, [(.agg #[(S 263 0 4 1180591620717411303428), (S 264 0 4 1180591620717411303425), (S 265 0 4 1180591620717411303425)]), (S 1084 0 1 1180591620717411303425), (.int .u8 (.ofNat 187))], b4_0, 4508, (.slice none 0 0), [], 4511⟩
set_option maxRecDepth 1000000 in
theorem o1774 : EntryOK Try.prog e1774 := Ax.part (K := sks) (l := []) mixed sks_ok trivial (by kernel_rfl)
noncomputable def e1776 : Entry := ⟨102, [(.agg #[(S 263 0 4 1180591620717411303428), (S 264 0 4 1180591620717411303425), (S 265 0 4 1180591620717411303425)]), (S 1084 0 1 1180591620717411303425), (.int .u8 (.ofNat 188))], b4_0, 4513, (.slice none 0 0), [], 4516⟩
set_option maxRecDepth 1000000 in
theorem o1776 : EntryOK Try.prog e1776 := Ax.part (K := sks) (l := []) mixed sks_ok trivial (by kernel_rfl)
noncomputable def e1778 : Entry := ⟨102, [(.agg #[(S 263 0 4 1180591620717411303428), (S 264 0 4 1180591620717411303425), (S 265 0 4 1180591620717411303425)]), (S 1084 0 1 1180591620717411303425), (.int .u8 (.ofNat 189))], b4_0, 4518, (.slice none 0 0), [], 4521⟩
set_option maxRecDepth 1000000 in
theorem o1778 : EntryOK Try.prog e1778 := Ax.part (K := sks) (l := []) mixed sks_ok trivial (by kernel_rfl)
noncomputable def e1780 : Entry := ⟨102, [(.agg #[(S 263 0 4 1180591620717411303428), (S 264 0 4 1180591620717411303425), (S 265 0 4 1180591620717411303425)]), (S 1084 0 1 1180591620717411303425), (.int .u8 (.ofNat 190))], b4_0, 4523, (.slice none 0 0), [], 4526⟩
set_option maxRecDepth 1000000 in
theorem o1780 : EntryOK Try.prog e1780 := Ax.part (K := sks) (l := []) mixed sks_ok trivial (by kernel_rfl)
noncomputable def e1782 : Entry := ⟨102, [(.agg #[(S 263 0 4 1180591620717411303428), (S 264 0 4 1180591620717411303425), (S 265 0 4 1180591620717411303425)]), (S 1084 0 1 1180591620717411303425), (.int .u8 (.ofNat 191))], b4_0, 4528, (.slice none 0 0), [], 4531⟩
set_option maxRecDepth 1000000 in
theorem o1782 : EntryOK Try.prog e1782 := Ax.part (K := sks) (l := []) mixed sks_ok trivial (by kernel_rfl)
noncomputable def e1784 : Entry := ⟨102, [(.agg #[(S 263 0 4 1180591620717411303428), (S 264 0 4 1180591620717411303425), (S 265 0 4 1180591620717411303425)]), (S 1084 0 1 1180591620717411303425), (.int .u8 (.ofNat 192))], b4_0, 4533, (.slice none 0 0), [], 4536⟩
set_option maxRecDepth 1000000 in
theorem o1784 : EntryOK Try.prog e1784 := Ax.part (K := sks) (l := []) mixed sks_ok trivial (by kernel_rfl)
noncomputable def e1786 : Entry := ⟨102, [(.agg #[(S 263 0 4 1180591620717411303428), (S 264 0 4 1180591620717411303425), (S 265 0 4 1180591620717411303425)]), (S 1084 0 1 1180591620717411303425), (.int .u8 (.ofNat 193))], b4_0, 4538, (.slice none 0 0), [], 4541⟩
set_option maxRecDepth 1000000 in
theorem o1786 : EntryOK Try.prog e1786 := Ax.part (K := sks) (l := []) mixed sks_ok trivial (by kernel_rfl)
noncomputable def e1788 : Entry := ⟨102, [(.agg #[(S 263 0 4 1180591620717411303428), (S 264 0 4 1180591620717411303425), (S 265 0 4 1180591620717411303425)]), (S 1084 0 1 1180591620717411303425), (.int .u8 (.ofNat 194))], b4_0, 4543, (.slice none 0 0), [], 4546⟩
set_option maxRecDepth 1000000 in
theorem o1788 : EntryOK Try.prog e1788 := Ax.part (K := sks) (l := []) mixed sks_ok trivial (by kernel_rfl)
noncomputable def e1790 : Entry := ⟨102, [(.agg #[(S 263 0 4 1180591620717411303428), (S 264 0 4 1180591620717411303425), (S 265 0 4 1180591620717411303425)]), (S 1084 0 1 1180591620717411303425), (.int .u8 (.ofNat 195))], b4_0, 4548, (.slice none 0 0), [], 4551⟩
set_option maxRecDepth 1000000 in
theorem o1790 : EntryOK Try.prog e1790 := Ax.part (K := sks) (l := []) mixed sks_ok trivial (by kernel_rfl)
noncomputable def e1792 : Entry := ⟨102, [(.agg #[(S 263 0 4 1180591620717411303428), (S 264 0 4 1180591620717411303425), (S 265 0 4 1180591620717411303425)]), (S 1084 0 1 1180591620717411303425), (.int .u8 (.ofNat 196))], b4_0, 4553, (.slice none 0 0), [], 4556⟩
set_option maxRecDepth 1000000 in
theorem o1792 : EntryOK Try.prog e1792 := Ax.part (K := sks) (l := []) mixed sks_ok trivial (by kernel_rfl)
noncomputable def e1794 : Entry := ⟨102, [(.agg #[(S 263 0 4 1180591620717411303428), (S 264 0 4 1180591620717411303425), (S 265 0 4 1180591620717411303425)]), (S 1084 0 1 1180591620717411303425), (.int .u8 (.ofNat 197))], b4_0, 4558, (.slice none 0 0), [], 4561⟩
set_option maxRecDepth 1000000 in
theorem o1794 : EntryOK Try.prog e1794 := Ax.part (K := sks) (l := []) mixed sks_ok trivial (by kernel_rfl)
noncomputable def e1796 : Entry := ⟨102, [(.agg #[(S 263 0 4 1180591620717411303428), (S 264 0 4 1180591620717411303425), (S 265 0 4 1180591620717411303425)]), (S 1084 0 1 1180591620717411303425), (.int .u8 (.ofNat 198))], b4_0, 4563, (.slice none 0 0), [], 4566⟩
set_option maxRecDepth 1000000 in
theorem o1796 : EntryOK Try.prog e1796 := Ax.part (K := sks) (l := []) mixed sks_ok trivial (by kernel_rfl)
noncomputable def e1798 : Entry := ⟨102, [(.agg #[(S 263 0 4 1180591620717411303428), (S 264 0 4 1180591620717411303425), (S 265 0 4 1180591620717411303425)]), (S 1084 0 1 1180591620717411303425), (.int .u8 (.ofNat 199))], b4_0, 4568, (.slice none 0 0), [], 4571⟩
set_option maxRecDepth 1000000 in
theorem o1798 : EntryOK Try.prog e1798 := Ax.part (K := sks) (l := []) mixed sks_ok trivial (by kernel_rfl)
noncomputable def e1800 : Entry := ⟨102, [(.agg #[(S 263 0 4 1180591620717411303428), (S 264 0 4 1180591620717411303425), (S 265 0 4 1180591620717411303425)]), (S 1084 0 1 1180591620717411303425), (.int .u8 (.ofNat 200))], b4_0, 4573, (.slice none 0 0), [], 4576⟩
set_option maxRecDepth 1000000 in
theorem o1800 : EntryOK Try.prog e1800 := Ax.part (K := sks) (l := []) mixed sks_ok trivial (by kernel_rfl)
noncomputable def e1802 : Entry := ⟨102, [(.agg #[(S 263 0 4 1180591620717411303428), (S 264 0 4 1180591620717411303425), (S 265 0 4 1180591620717411303425)]), (S 1084 0 1 1180591620717411303425), (.int .u8 (.ofNat 201))], b4_0, 4578, (.slice none 0 0), [], 4581⟩
set_option maxRecDepth 1000000 in
theorem o1802 : EntryOK Try.prog e1802 := Ax.part (K := sks) (l := []) mixed sks_ok trivial (by kernel_rfl)
noncomputable def e1804 : Entry := ⟨102, [(.agg #[(S 263 0 4 1180591620717411303428), (S 264 0 4 1180591620717411303425), (S 265 0 4 1180591620717411303425)]), (S 1084 0 1 1180591620717411303425), (.int .u8 (.ofNat 202))], b4_0, 4583, (.slice none 0 0), [], 4586⟩
set_option maxRecDepth 1000000 in
theorem o1804 : EntryOK Try.prog e1804 := Ax.part (K := sks) (l := []) mixed sks_ok trivial (by kernel_rfl)
noncomputable def e1806 : Entry := ⟨102, [(.agg #[(S 263 0 4 1180591620717411303428), (S 264 0 4 1180591620717411303425), (S 265 0 4 1180591620717411303425)]), (S 1084 0 1 1180591620717411303425), (.int .u8 (.ofNat 203))], b4_0, 4588, (.slice none 0 0), [], 4591⟩
set_option maxRecDepth 1000000 in
theorem o1806 : EntryOK Try.prog e1806 := Ax.part (K := sks) (l := []) mixed sks_ok trivial (by kernel_rfl)
noncomputable def e1808 : Entry := ⟨102, [(.agg #[(S 263 0 4 1180591620717411303428), (S 264 0 4 1180591620717411303425), (S 265 0 4 1180591620717411303425)]), (S 1084 0 1 1180591620717411303425), (.int .u8 (.ofNat 204))], b4_0, 4593, (.slice none 0 0), [], 4596⟩
set_option maxRecDepth 1000000 in
theorem o1808 : EntryOK Try.prog e1808 := Ax.part (K := sks) (l := []) mixed sks_ok trivial (by kernel_rfl)
noncomputable def e1810 : Entry := ⟨102, [(.agg #[(S 263 0 4 1180591620717411303428), (S 264 0 4 1180591620717411303425), (S 265 0 4 1180591620717411303425)]), (S 1084 0 1 1180591620717411303425), (.int .u8 (.ofNat 205))], b4_0, 4598, (.slice none 0 0), [], 4601⟩
set_option maxRecDepth 1000000 in
theorem o1810 : EntryOK Try.prog e1810 := Ax.part (K := sks) (l := []) mixed sks_ok trivial (by kernel_rfl)
noncomputable def e1812 : Entry := ⟨102, [(.agg #[(S 263 0 4 1180591620717411303428), (S 264 0 4 1180591620717411303425), (S 265 0 4 1180591620717411303425)]), (S 1084 0 1 1180591620717411303425), (.int .u8 (.ofNat 206))], b4_0, 4603, (.slice none 0 0), [], 4606⟩
set_option maxRecDepth 1000000 in
theorem o1812 : EntryOK Try.prog e1812 := Ax.part (K := sks) (l := []) mixed sks_ok trivial (by kernel_rfl)
noncomputable def e1814 : Entry := ⟨102, [(.agg #[(S 263 0 4 1180591620717411303428), (S 264 0 4 1180591620717411303425), (S 265 0 4 1180591620717411303425)]), (S 1084 0 1 1180591620717411303425), (.int .u8 (.ofNat 207))], b4_0, 4608, (.slice none 0 0), [], 4611⟩
set_option maxRecDepth 1000000 in
theorem o1814 : EntryOK Try.prog e1814 := Ax.part (K := sks) (l := []) mixed sks_ok trivial (by kernel_rfl)
noncomputable def e1816 : Entry := ⟨102, [(.agg #[(S 263 0 4 1180591620717411303428), (S 264 0 4 1180591620717411303425), (S 265 0 4 1180591620717411303425)]), (S 1084 0 1 1180591620717411303425), (.int .u8 (.ofNat 208))], b4_0, 4613, (.slice none 0 0), [], 4616⟩
set_option maxRecDepth 1000000 in
theorem o1816 : EntryOK Try.prog e1816 := Ax.part (K := sks) (l := []) mixed sks_ok trivial (by kernel_rfl)
noncomputable def e1818 : Entry := ⟨102, [(.agg #[(S 263 0 4 1180591620717411303428), (S 264 0 4 1180591620717411303425), (S 265 0 4 1180591620717411303425)]), (S 1084 0 1 1180591620717411303425), (.int .u8 (.ofNat 209))], b4_0, 4618, (.slice none 0 0), [], 4621⟩
set_option maxRecDepth 1000000 in
theorem o1818 : EntryOK Try.prog e1818 := Ax.part (K := sks) (l := []) mixed sks_ok trivial (by kernel_rfl)
noncomputable def e1820 : Entry := ⟨102, [(.agg #[(S 263 0 4 1180591620717411303428), (S 264 0 4 1180591620717411303425), (S 265 0 4 1180591620717411303425)]), (S 1084 0 1 1180591620717411303425), (.int .u8 (.ofNat 210))], b4_0, 4623, (.slice none 0 0), [], 4626⟩
set_option maxRecDepth 1000000 in
theorem o1820 : EntryOK Try.prog e1820 := Ax.part (K := sks) (l := []) mixed sks_ok trivial (by kernel_rfl)
noncomputable def e1822 : Entry := ⟨102, [(.agg #[(S 263 0 4 1180591620717411303428), (S 264 0 4 1180591620717411303425), (S 265 0 4 1180591620717411303425)]), (S 1084 0 1 1180591620717411303425), (.int .u8 (.ofNat 211))], b4_0, 4628, (.slice none 0 0), [], 4631⟩
set_option maxRecDepth 1000000 in
theorem o1822 : EntryOK Try.prog e1822 := Ax.part (K := sks) (l := []) mixed sks_ok trivial (by kernel_rfl)
noncomputable def e1824 : Entry := ⟨102, [(.agg #[(S 263 0 4 1180591620717411303428), (S 264 0 4 1180591620717411303425), (S 265 0 4 1180591620717411303425)]), (S 1084 0 1 1180591620717411303425), (.int .u8 (.ofNat 212))], b4_0, 4633, (.slice none 0 0), [], 4636⟩
set_option maxRecDepth 1000000 in
theorem o1824 : EntryOK Try.prog e1824 := Ax.part (K := sks) (l := []) mixed sks_ok trivial (by kernel_rfl)
noncomputable def e1826 : Entry := ⟨102, [(.agg #[(S 263 0 4 1180591620717411303428), (S 264 0 4 1180591620717411303425), (S 265 0 4 1180591620717411303425)]), (S 1084 0 1 1180591620717411303425), (.int .u8 (.ofNat 213))], b4_0, 4638, (.slice none 0 0), [], 4641⟩
set_option maxRecDepth 1000000 in
theorem o1826 : EntryOK Try.prog e1826 := Ax.part (K := sks) (l := []) mixed sks_ok trivial (by kernel_rfl)
noncomputable def e1828 : Entry := ⟨102, [(.agg #[(S 263 0 4 1180591620717411303428), (S 264 0 4 1180591620717411303425), (S 265 0 4 1180591620717411303425)]), (S 1084 0 1 1180591620717411303425), (.int .u8 (.ofNat 214))], b4_0, 4643, (.slice none 0 0), [], 4646⟩
set_option maxRecDepth 1000000 in
theorem o1828 : EntryOK Try.prog e1828 := Ax.part (K := sks) (l := []) mixed sks_ok trivial (by kernel_rfl)
noncomputable def e1830 : Entry := ⟨102, [(.agg #[(S 263 0 4 1180591620717411303428), (S 264 0 4 1180591620717411303425), (S 265 0 4 1180591620717411303425)]), (S 1084 0 1 1180591620717411303425), (.int .u8 (.ofNat 215))], b4_0, 4648, (.slice none 0 0), [], 4651⟩
set_option maxRecDepth 1000000 in
theorem o1830 : EntryOK Try.prog e1830 := Ax.part (K := sks) (l := []) mixed sks_ok trivial (by kernel_rfl)
noncomputable def e1832 : Entry := ⟨102, [(.agg #[(S 263 0 4 1180591620717411303428), (S 264 0 4 1180591620717411303425), (S 265 0 4 1180591620717411303425)]), (S 1084 0 1 1180591620717411303425), (.int .u8 (.ofNat 216))], b4_0, 4653, (.slice none 0 0), [], 4656⟩
set_option maxRecDepth 1000000 in
theorem o1832 : EntryOK Try.prog e1832 := Ax.part (K := sks) (l := []) mixed sks_ok trivial (by kernel_rfl)
noncomputable def e1834 : Entry := ⟨102, [(.agg #[(S 263 0 4 1180591620717411303428), (S 264 0 4 1180591620717411303425), (S 265 0 4 1180591620717411303425)]), (S 1084 0 1 1180591620717411303425), (.int .u8 (.ofNat 217))], b4_0, 4658, (.slice none 0 0), [], 4661⟩
set_option maxRecDepth 1000000 in
theorem o1834 : EntryOK Try.prog e1834 := Ax.part (K := sks) (l := []) mixed sks_ok trivial (by kernel_rfl)
noncomputable def e1836 : Entry := ⟨102, [(.agg #[(S 263 0 4 1180591620717411303428), (S 264 0 4 1180591620717411303425), (S 265 0 4 1180591620717411303425)]), (S 1084 0 1 1180591620717411303425), (.int .u8 (.ofNat 218))], b4_0, 4663, (.slice none 0 0), [], 4666⟩
set_option maxRecDepth 1000000 in
theorem o1836 : EntryOK Try.prog e1836 := Ax.part (K := sks) (l := []) mixed sks_ok trivial (by kernel_rfl)
noncomputable def e1838 : Entry := ⟨102, [(.agg #[(S 263 0 4 1180591620717411303428), (S 264 0 4 1180591620717411303425), (S 265 0 4 1180591620717411303425)]), (S 1084 0 1 1180591620717411303425), (.int .u8 (.ofNat 219))], b4_0, 4668, (.slice none 0 0), [], 4671⟩
set_option maxRecDepth 1000000 in
theorem o1838 : EntryOK Try.prog e1838 := Ax.part (K := sks) (l := []) mixed sks_ok trivial (by kernel_rfl)
noncomputable def e1840 : Entry := ⟨102, [(.agg #[(S 263 0 4 1180591620717411303428), (S 264 0 4 1180591620717411303425), (S 265 0 4 1180591620717411303425)]), (S 1084 0 1 1180591620717411303425), (.int .u8 (.ofNat 220))], b4_0, 4673, (.slice none 0 0), [], 4676⟩
set_option maxRecDepth 1000000 in
theorem o1840 : EntryOK Try.prog e1840 := Ax.part (K := sks) (l := []) mixed sks_ok trivial (by kernel_rfl)
noncomputable def e1842 : Entry := ⟨102, [(.agg #[(S 263 0 4 1180591620717411303428), (S 264 0 4 1180591620717411303425), (S 265 0 4 1180591620717411303425)]), (S 1084 0 1 1180591620717411303425), (.int .u8 (.ofNat 221))], b4_0, 4678, (.slice none 0 0), [], 4681⟩
set_option maxRecDepth 1000000 in
theorem o1842 : EntryOK Try.prog e1842 := Ax.part (K := sks) (l := []) mixed sks_ok trivial (by kernel_rfl)
noncomputable def e1844 : Entry := ⟨102, [(.agg #[(S 263 0 4 1180591620717411303428), (S 264 0 4 1180591620717411303425), (S 265 0 4 1180591620717411303425)]), (S 1084 0 1 1180591620717411303425), (.int .u8 (.ofNat 222))], b4_0, 4683, (.slice none 0 0), [], 4686⟩
set_option maxRecDepth 1000000 in
theorem o1844 : EntryOK Try.prog e1844 := Ax.part (K := sks) (l := []) mixed sks_ok trivial (by kernel_rfl)
noncomputable def e1846 : Entry := ⟨102, [(.agg #[(S 263 0 4 1180591620717411303428), (S 264 0 4 1180591620717411303425), (S 265 0 4 1180591620717411303425)]), (S 1084 0 1 1180591620717411303425), (.int .u8 (.ofNat 223))], b4_0, 4688, (.slice none 0 0), [], 4691⟩
set_option maxRecDepth 1000000 in
theorem o1846 : EntryOK Try.prog e1846 := Ax.part (K := sks) (l := []) mixed sks_ok trivial (by kernel_rfl)
noncomputable def e1848 : Entry := ⟨102, [(.agg #[(S 263 0 4 1180591620717411303428), (S 264 0 4 1180591620717411303425), (S 265 0 4 1180591620717411303425)]), (S 1084 0 1 1180591620717411303425), (.int .u8 (.ofNat 224))], b4_0, 4693, (.slice none 0 0), [], 4696⟩
set_option maxRecDepth 1000000 in
theorem o1848 : EntryOK Try.prog e1848 := Ax.part (K := sks) (l := []) mixed sks_ok trivial (by kernel_rfl)
noncomputable def e1850 : Entry := ⟨102, [(.agg #[(S 263 0 4 1180591620717411303428), (S 264 0 4 1180591620717411303425), (S 265 0 4 1180591620717411303425)]), (S 1084 0 1 1180591620717411303425), (.int .u8 (.ofNat 225))], b4_0, 4698, (.slice none 0 0), [], 4701⟩
set_option maxRecDepth 1000000 in
theorem o1850 : EntryOK Try.prog e1850 := Ax.part (K := sks) (l := []) mixed sks_ok trivial (by kernel_rfl)
noncomputable def e1852 : Entry := ⟨102, [(.agg #[(S 263 0 4 1180591620717411303428), (S 264 0 4 1180591620717411303425), (S 265 0 4 1180591620717411303425)]), (S 1084 0 1 1180591620717411303425), (.int .u8 (.ofNat 226))], b4_0, 4703, (.slice none 0 0), [], 4706⟩
set_option maxRecDepth 1000000 in
theorem o1852 : EntryOK Try.prog e1852 := Ax.part (K := sks) (l := []) mixed sks_ok trivial (by kernel_rfl)
noncomputable def e1854 : Entry := ⟨102, [(.agg #[(S 263 0 4 1180591620717411303428), (S 264 0 4 1180591620717411303425), (S 265 0 4 1180591620717411303425)]), (S 1084 0 1 1180591620717411303425), (.int .u8 (.ofNat 227))], b4_0, 4708, (.slice none 0 0), [], 4711⟩
set_option maxRecDepth 1000000 in
theorem o1854 : EntryOK Try.prog e1854 := Ax.part (K := sks) (l := []) mixed sks_ok trivial (by kernel_rfl)
noncomputable def e1856 : Entry := ⟨102, [(.agg #[(S 263 0 4 1180591620717411303428), (S 264 0 4 1180591620717411303425), (S 265 0 4 1180591620717411303425)]), (S 1084 0 1 1180591620717411303425), (.int .u8 (.ofNat 228))], b4_0, 4713, (.slice none 0 0), [], 4716⟩
set_option maxRecDepth 1000000 in
theorem o1856 : EntryOK Try.prog e1856 := Ax.part (K := sks) (l := []) mixed sks_ok trivial (by kernel_rfl)
noncomputable def e1858 : Entry := ⟨102, [(.agg #[(S 263 0 4 1180591620717411303428), (S 264 0 4 1180591620717411303425), (S 265 0 4 1180591620717411303425)]), (S 1084 0 1 1180591620717411303425), (.int .u8 (.ofNat 229))], b4_0, 4718, (.slice none 0 0), [], 4721⟩
set_option maxRecDepth 1000000 in
theorem o1858 : EntryOK Try.prog e1858 := Ax.part (K := sks) (l := []) mixed sks_ok trivial (by kernel_rfl)
noncomputable def e1860 : Entry := ⟨102, [(.agg #[(S 263 0 4 1180591620717411303428), (S 264 0 4 1180591620717411303425), (S 265 0 4 1180591620717411303425)]), (S 1084 0 1 1180591620717411303425), (.int .u8 (.ofNat 230))], b4_0, 4723, (.slice none 0 0), [], 4726⟩
set_option maxRecDepth 1000000 in
theorem o1860 : EntryOK Try.prog e1860 := Ax.part (K := sks) (l := []) mixed sks_ok trivial (by kernel_rfl)
noncomputable def e1862 : Entry := ⟨102, [(.agg #[(S 263 0 4 1180591620717411303428), (S 264 0 4 1180591620717411303425), (S 265 0 4 1180591620717411303425)]), (S 1084 0 1 1180591620717411303425), (.int .u8 (.ofNat 231))], b4_0, 4728, (.slice none 0 0), [], 4731⟩
set_option maxRecDepth 1000000 in
theorem o1862 : EntryOK Try.prog e1862 := Ax.part (K := sks) (l := []) mixed sks_ok trivial (by kernel_rfl)
noncomputable def e1864 : Entry := ⟨102, [(.agg #[(S 263 0 4 1180591620717411303428), (S 264 0 4 1180591620717411303425), (S 265 0 4 1180591620717411303425)]), (S 1084 0 1 1180591620717411303425), (.int .u8 (.ofNat 232))], b4_0, 4733, (.slice none 0 0), [], 4736⟩
set_option maxRecDepth 1000000 in
theorem o1864 : EntryOK Try.prog e1864 := Ax.part (K := sks) (l := []) mixed sks_ok trivial (by kernel_rfl)
noncomputable def e1866 : Entry := ⟨102, [(.agg #[(S 263 0 4 1180591620717411303428), (S 264 0 4 1180591620717411303425), (S 265 0 4 1180591620717411303425)]), (S 1084 0 1 1180591620717411303425), (.int .u8 (.ofNat 233))], b4_0, 4738, (.slice none 0 0), [], 4741⟩
set_option maxRecDepth 1000000 in
theorem o1866 : EntryOK Try.prog e1866 := Ax.part (K := sks) (l := []) mixed sks_ok trivial (by kernel_rfl)
noncomputable def e1868 : Entry := ⟨102, [(.agg #[(S 263 0 4 1180591620717411303428), (S 264 0 4 1180591620717411303425), (S 265 0 4 1180591620717411303425)]), (S 1084 0 1 1180591620717411303425), (.int .u8 (.ofNat 234))], b4_0, 4743, (.slice none 0 0), [], 4746⟩
set_option maxRecDepth 1000000 in
theorem o1868 : EntryOK Try.prog e1868 := Ax.part (K := sks) (l := []) mixed sks_ok trivial (by kernel_rfl)
noncomputable def e1870 : Entry := ⟨102, [(.agg #[(S 263 0 4 1180591620717411303428), (S 264 0 4 1180591620717411303425), (S 265 0 4 1180591620717411303425)]), (S 1084 0 1 1180591620717411303425), (.int .u8 (.ofNat 235))], b4_0, 4748, (.slice none 0 0), [], 4751⟩
set_option maxRecDepth 1000000 in
theorem o1870 : EntryOK Try.prog e1870 := Ax.part (K := sks) (l := []) mixed sks_ok trivial (by kernel_rfl)
noncomputable def e1872 : Entry := ⟨102, [(.agg #[(S 263 0 4 1180591620717411303428), (S 264 0 4 1180591620717411303425), (S 265 0 4 1180591620717411303425)]), (S 1084 0 1 1180591620717411303425), (.int .u8 (.ofNat 236))], b4_0, 4753, (.slice none 0 0), [], 4756⟩
set_option maxRecDepth 1000000 in
theorem o1872 : EntryOK Try.prog e1872 := Ax.part (K := sks) (l := []) mixed sks_ok trivial (by kernel_rfl)
noncomputable def e1874 : Entry := ⟨102, [(.agg #[(S 263 0 4 1180591620717411303428), (S 264 0 4 1180591620717411303425), (S 265 0 4 1180591620717411303425)]), (S 1084 0 1 1180591620717411303425), (.int .u8 (.ofNat 237))], b4_0, 4758, (.slice none 0 0), [], 4761⟩
set_option maxRecDepth 1000000 in
theorem o1874 : EntryOK Try.prog e1874 := Ax.part (K := sks) (l := []) mixed sks_ok trivial (by kernel_rfl)
noncomputable def e1876 : Entry := ⟨102, [(.agg #[(S 263 0 4 1180591620717411303428), (S 264 0 4 1180591620717411303425), (S 265 0 4 1180591620717411303425)]), (S 1084 0 1 1180591620717411303425), (.int .u8 (.ofNat 238))], b4_0, 4763, (.slice none 0 0), [], 4766⟩
set_option maxRecDepth 1000000 in
theorem o1876 : EntryOK Try.prog e1876 := Ax.part (K := sks) (l := []) mixed sks_ok trivial (by kernel_rfl)
noncomputable def e1878 : Entry := ⟨102, [(.agg #[(S 263 0 4 1180591620717411303428), (S 264 0 4 1180591620717411303425), (S 265 0 4 1180591620717411303425)]), (S 1084 0 1 1180591620717411303425), (.int .u8 (.ofNat 239))], b4_0, 4768, (.slice none 0 0), [], 4771⟩
set_option maxRecDepth 1000000 in
theorem o1878 : EntryOK Try.prog e1878 := Ax.part (K := sks) (l := []) mixed sks_ok trivial (by kernel_rfl)
noncomputable def e1880 : Entry := ⟨102, [(.agg #[(S 263 0 4 1180591620717411303428), (S 264 0 4 1180591620717411303425), (S 265 0 4 1180591620717411303425)]), (S 1084 0 1 1180591620717411303425), (.int .u8 (.ofNat 240))], b4_0, 4773, (.slice none 0 0), [], 4776⟩
set_option maxRecDepth 1000000 in
theorem o1880 : EntryOK Try.prog e1880 := Ax.part (K := sks) (l := []) mixed sks_ok trivial (by kernel_rfl)
noncomputable def e1882 : Entry := ⟨102, [(.agg #[(S 263 0 4 1180591620717411303428), (S 264 0 4 1180591620717411303425), (S 265 0 4 1180591620717411303425)]), (S 1084 0 1 1180591620717411303425), (.int .u8 (.ofNat 241))], b4_0, 4778, (.slice none 0 0), [], 4781⟩
set_option maxRecDepth 1000000 in
theorem o1882 : EntryOK Try.prog e1882 := Ax.part (K := sks) (l := []) mixed sks_ok trivial (by kernel_rfl)
noncomputable def e1884 : Entry := ⟨102, [(.agg #[(S 263 0 4 1180591620717411303428), (S 264 0 4 1180591620717411303425), (S 265 0 4 1180591620717411303425)]), (S 1084 0 1 1180591620717411303425), (.int .u8 (.ofNat 242))], b4_0, 4783, (.slice none 0 0), [], 4786⟩
set_option maxRecDepth 1000000 in
theorem o1884 : EntryOK Try.prog e1884 := Ax.part (K := sks) (l := []) mixed sks_ok trivial (by kernel_rfl)
noncomputable def e1886 : Entry := ⟨102, [(.agg #[(S 263 0 4 1180591620717411303428), (S 264 0 4 1180591620717411303425), (S 265 0 4 1180591620717411303425)]), (S 1084 0 1 1180591620717411303425), (.int .u8 (.ofNat 243))], b4_0, 4788, (.slice none 0 0), [], 4791⟩
set_option maxRecDepth 1000000 in
theorem o1886 : EntryOK Try.prog e1886 := Ax.part (K := sks) (l := []) mixed sks_ok trivial (by kernel_rfl)
noncomputable def e1888 : Entry := ⟨102, [(.agg #[(S 263 0 4 1180591620717411303428), (S 264 0 4 1180591620717411303425), (S 265 0 4 1180591620717411303425)]), (S 1084 0 1 1180591620717411303425), (.int .u8 (.ofNat 244))], b4_0, 4793, (.slice none 0 0), [], 4796⟩
set_option maxRecDepth 1000000 in
theorem o1888 : EntryOK Try.prog e1888 := Ax.part (K := sks) (l := []) mixed sks_ok trivial (by kernel_rfl)
noncomputable def e1890 : Entry := ⟨102, [(.agg #[(S 263 0 4 1180591620717411303428), (S 264 0 4 1180591620717411303425), (S 265 0 4 1180591620717411303425)]), (S 1084 0 1 1180591620717411303425), (.int .u8 (.ofNat 245))], b4_0, 4798, (.slice none 0 0), [], 4801⟩
set_option maxRecDepth 1000000 in
theorem o1890 : EntryOK Try.prog e1890 := Ax.part (K := sks) (l := []) mixed sks_ok trivial (by kernel_rfl)
noncomputable def e1892 : Entry := ⟨102, [(.agg #[(S 263 0 4 1180591620717411303428), (S 264 0 4 1180591620717411303425), (S 265 0 4 1180591620717411303425)]), (S 1084 0 1 1180591620717411303425), (.int .u8 (.ofNat 246))], b4_0, 4803, (.slice none 0 0), [], 4806⟩
set_option maxRecDepth 1000000 in
theorem o1892 : EntryOK Try.prog e1892 := Ax.part (K := sks) (l := []) mixed sks_ok trivial (by kernel_rfl)
noncomputable def e1894 : Entry := ⟨102, [(.agg #[(S 263 0 4 1180591620717411303428), (S 264 0 4 1180591620717411303425), (S 265 0 4 1180591620717411303425)]), (S 1084 0 1 1180591620717411303425), (.int .u8 (.ofNat 247))], b4_0, 4808, (.slice none 0 0), [], 4811⟩
set_option maxRecDepth 1000000 in
theorem o1894 : EntryOK Try.prog e1894 := Ax.part (K := sks) (l := []) mixed sks_ok trivial (by kernel_rfl)
noncomputable def e1896 : Entry := ⟨102, [(.agg #[(S 263 0 4 1180591620717411303428), (S 264 0 4 1180591620717411303425), (S 265 0 4 1180591620717411303425)]), (S 1084 0 1 1180591620717411303425), (.int .u8 (.ofNat 248))], b4_0, 4813, (.slice none 0 0), [], 4816⟩
set_option maxRecDepth 1000000 in
theorem o1896 : EntryOK Try.prog e1896 := Ax.part (K := sks) (l := []) mixed sks_ok trivial (by kernel_rfl)
noncomputable def e1898 : Entry := ⟨102, [(.agg #[(S 263 0 4 1180591620717411303428), (S 264 0 4 1180591620717411303425), (S 265 0 4 1180591620717411303425)]), (S 1084 0 1 1180591620717411303425), (.int .u8 (.ofNat 249))], b4_0, 4818, (.slice none 0 0), [], 4821⟩
set_option maxRecDepth 1000000 in
theorem o1898 : EntryOK Try.prog e1898 := Ax.part (K := sks) (l := []) mixed sks_ok trivial (by kernel_rfl)
noncomputable def e1900 : Entry := ⟨102, [(.agg #[(S 263 0 4 1180591620717411303428), (S 264 0 4 1180591620717411303425), (S 265 0 4 1180591620717411303425)]), (S 1084 0 1 1180591620717411303425), (.int .u8 (.ofNat 250))], b4_0, 4823, (.slice none 0 0), [], 4826⟩
set_option maxRecDepth 1000000 in
theorem o1900 : EntryOK Try.prog e1900 := Ax.part (K := sks) (l := []) mixed sks_ok trivial (by kernel_rfl)
noncomputable def e1902 : Entry := ⟨102, [(.agg #[(S 263 0 4 1180591620717411303428), (S 264 0 4 1180591620717411303425), (S 265 0 4 1180591620717411303425)]), (S 1084 0 1 1180591620717411303425), (.int .u8 (.ofNat 251))], b4_0, 4828, (.slice none 0 0), [], 4831⟩
set_option maxRecDepth 1000000 in
theorem o1902 : EntryOK Try.prog e1902 := Ax.part (K := sks) (l := []) mixed sks_ok trivial (by kernel_rfl)
noncomputable def e1904 : Entry := ⟨102, [(.agg #[(S 263 0 4 1180591620717411303428), (S 264 0 4 1180591620717411303425), (S 265 0 4 1180591620717411303425)]), (S 1084 0 1 1180591620717411303425), (.int .u8 (.ofNat 252))], b4_0, 4833, (.slice none 0 0), [], 4836⟩
set_option maxRecDepth 1000000 in
theorem o1904 : EntryOK Try.prog e1904 := Ax.part (K := sks) (l := []) mixed sks_ok trivial (by kernel_rfl)
noncomputable def e1906 : Entry := ⟨102, [(.agg #[(S 263 0 4 1180591620717411303428), (S 264 0 4 1180591620717411303425), (S 265 0 4 1180591620717411303425)]), (S 1084 0 1 1180591620717411303425), (.int .u8 (.ofNat 253))], b4_0, 4838, (.slice none 0 0), [], 4841⟩
set_option maxRecDepth 1000000 in
theorem o1906 : EntryOK Try.prog e1906 := Ax.part (K := sks) (l := []) mixed sks_ok trivial (by kernel_rfl)
noncomputable def e1908 : Entry := ⟨102, [(.agg #[(S 263 0 4 1180591620717411303428), (S 264 0 4 1180591620717411303425), (S 265 0 4 1180591620717411303425)]), (S 1084 0 1 1180591620717411303425), (.int .u8 (.ofNat 254))], b4_0, 4843, (.slice none 0 0), [], 4846⟩
set_option maxRecDepth 1000000 in
theorem o1908 : EntryOK Try.prog e1908 := Ax.part (K := sks) (l := []) mixed sks_ok trivial (by kernel_rfl)
noncomputable def e1910 : Entry := ⟨102, [(.agg #[(S 263 0 4 1180591620717411303428), (S 264 0 4 1180591620717411303425), (S 265 0 4 1180591620717411303425)]), (S 1084 0 1 1180591620717411303425), (.int .u8 (.ofNat 255))], b4_0, 4848, (.slice none 0 0), [], 4851⟩
set_option maxRecDepth 1000000 in
theorem o1910 : EntryOK Try.prog e1910 := Ax.part (K := sks) (l := []) mixed sks_ok trivial (by kernel_rfl)
noncomputable def e1913 : Entry := ⟨102, [(.agg #[(S 263 0 4 1180591620717411303428), (S 264 0 4 1180591620717411303425), (S 265 0 4 1180591620717411303425)]), (S 4033 0 1 1180591620717411303425), (.int .u8 (.ofNat 0))], b4_1, 4864, (.slice none 0 0), [], 4867⟩
set_option maxRecDepth 1000000 in
theorem o1913 : EntryOK Try.prog e1913 := Ax.part (K := sks) (l := []) mixed sks_ok trivial (by kernel_rfl)
noncomputable def e1915 : Entry := ⟨102, [(.agg #[(S 263 0 4 1180591620717411303428), (S 264 0 4 1180591620717411303425), (S 265 0 4 1180591620717411303425)]), (S 4033 0 1 1180591620717411303425), (.int .u8 (.ofNat 1))], b4_1, 4869, (.slice none 0 0), [], 4872⟩
set_option maxRecDepth 1000000 in
theorem o1915 : EntryOK Try.prog e1915 := Ax.part (K := sks) (l := []) mixed sks_ok trivial (by kernel_rfl)
noncomputable def e1917 : Entry := ⟨102, [(.agg #[(S 263 0 4 1180591620717411303428), (S 264 0 4 1180591620717411303425), (S 265 0 4 1180591620717411303425)]), (S 4033 0 1 1180591620717411303425), (.int .u8 (.ofNat 2))], b4_1, 4874, (.slice none 0 0), [], 4877⟩
set_option maxRecDepth 1000000 in
theorem o1917 : EntryOK Try.prog e1917 := Ax.part (K := sks) (l := []) mixed sks_ok trivial (by kernel_rfl)
noncomputable def e1919 : Entry := ⟨102, [(.agg #[(S 263 0 4 1180591620717411303428), (S 264 0 4 1180591620717411303425), (S 265 0 4 1180591620717411303425)]), (S 4033 0 1 1180591620717411303425), (.int .u8 (.ofNat 3))], b4_1, 4879, (.slice none 0 0), [], 4882⟩
set_option maxRecDepth 1000000 in
theorem o1919 : EntryOK Try.prog e1919 := Ax.part (K := sks) (l := []) mixed sks_ok trivial (by kernel_rfl)
noncomputable def e1921 : Entry := ⟨102, [(.agg #[(S 263 0 4 1180591620717411303428), (S 264 0 4 1180591620717411303425), (S 265 0 4 1180591620717411303425)]), (S 4033 0 1 1180591620717411303425), (.int .u8 (.ofNat 4))], b4_1, 4884, (.slice none 0 0), [], 4887⟩
set_option maxRecDepth 1000000 in
theorem o1921 : EntryOK Try.prog e1921 := Ax.part (K := sks) (l := []) mixed sks_ok trivial (by kernel_rfl)
noncomputable def e1923 : Entry := ⟨102, [(.agg #[(S 263 0 4 1180591620717411303428), (S 264 0 4 1180591620717411303425), (S 265 0 4 1180591620717411303425)]), (S 4033 0 1 1180591620717411303425), (.int .u8 (.ofNat 5))], b4_1, 4889, (.slice none 0 0), [], 4892⟩
set_option maxRecDepth 1000000 in
theorem o1923 : EntryOK Try.prog e1923 := Ax.part (K := sks) (l := []) mixed sks_ok trivial (by kernel_rfl)
noncomputable def e1925 : Entry := ⟨102, [(.agg #[(S 263 0 4 1180591620717411303428), (S 264 0 4 1180591620717411303425), (S 265 0 4 1180591620717411303425)]), (S 4033 0 1 1180591620717411303425), (.int .u8 (.ofNat 6))], b4_1, 4894, (.slice none 0 0), [], 4897⟩
set_option maxRecDepth 1000000 in
theorem o1925 : EntryOK Try.prog e1925 := Ax.part (K := sks) (l := []) mixed sks_ok trivial (by kernel_rfl)
noncomputable def e1927 : Entry := ⟨102, [(.agg #[(S 263 0 4 1180591620717411303428), (S 264 0 4 1180591620717411303425), (S 265 0 4 1180591620717411303425)]), (S 4033 0 1 1180591620717411303425), (.int .u8 (.ofNat 7))], b4_1, 4899, (.slice none 0 0), [], 4902⟩
set_option maxRecDepth 1000000 in
theorem o1927 : EntryOK Try.prog e1927 := Ax.part (K := sks) (l := []) mixed sks_ok trivial (by kernel_rfl)
noncomputable def e1929 : Entry := ⟨102, [(.agg #[(S 263 0 4 1180591620717411303428), (S 264 0 4 1180591620717411303425), (S 265 0 4 1180591620717411303425)]), (S 4033 0 1 1180591620717411303425), (.int .u8 (.ofNat 8))], b4_1, 4904, (.slice none 0 0), [], 4907⟩
set_option maxRecDepth 1000000 in
theorem o1929 : EntryOK Try.prog e1929 := Ax.part (K := sks) (l := []) mixed sks_ok trivial (by kernel_rfl)
noncomputable def e1931 : Entry := ⟨102, [(.agg #[(S 263 0 4 1180591620717411303428), (S 264 0 4 1180591620717411303425), (S 265 0 4 1180591620717411303425)]), (S 4033 0 1 1180591620717411303425), (.int .u8 (.ofNat 9))], b4_1, 4909, (.slice none 0 0), [], 4912⟩
set_option maxRecDepth 1000000 in
theorem o1931 : EntryOK Try.prog e1931 := Ax.part (K := sks) (l := []) mixed sks_ok trivial (by kernel_rfl)
noncomputable def e1933 : Entry := ⟨102, [(.agg #[(S 263 0 4 1180591620717411303428), (S 264 0 4 1180591620717411303425), (S 265 0 4 1180591620717411303425)]), (S 4033 0 1 1180591620717411303425), (.int .u8 (.ofNat 10))], b4_1, 4914, (.slice none 0 0), [], 4917⟩
set_option maxRecDepth 1000000 in
theorem o1933 : EntryOK Try.prog e1933 := Ax.part (K := sks) (l := []) mixed sks_ok trivial (by kernel_rfl)
noncomputable def e1935 : Entry := ⟨102, [(.agg #[(S 263 0 4 1180591620717411303428), (S 264 0 4 1180591620717411303425), (S 265 0 4 1180591620717411303425)]), (S 4033 0 1 1180591620717411303425), (.int .u8 (.ofNat 11))], b4_1, 4919, (.slice none 0 0), [], 4922⟩
set_option maxRecDepth 1000000 in
theorem o1935 : EntryOK Try.prog e1935 := Ax.part (K := sks) (l := []) mixed sks_ok trivial (by kernel_rfl)
noncomputable def e1937 : Entry := ⟨102, [(.agg #[(S 263 0 4 1180591620717411303428), (S 264 0 4 1180591620717411303425), (S 265 0 4 1180591620717411303425)]), (S 4033 0 1 1180591620717411303425), (.int .u8 (.ofNat 12))], b4_1, 4924, (.slice none 0 0), [], 4927⟩
set_option maxRecDepth 1000000 in
theorem o1937 : EntryOK Try.prog e1937 := Ax.part (K := sks) (l := []) mixed sks_ok trivial (by kernel_rfl)
noncomputable def e1939 : Entry := ⟨102, [(.agg #[(S 263 0 4 1180591620717411303428), (S 264 0 4 1180591620717411303425), (S 265 0 4 1180591620717411303425)]), (S 4033 0 1 1180591620717411303425), (.int .u8 (.ofNat 13))], b4_1, 4929, (.slice none 0 0), [], 4932⟩
set_option maxRecDepth 1000000 in
theorem o1939 : EntryOK Try.prog e1939 := Ax.part (K := sks) (l := []) mixed sks_ok trivial (by kernel_rfl)
noncomputable def e1941 : Entry := ⟨102, [(.agg #[(S 263 0 4 1180591620717411303428), (S 264 0 4 1180591620717411303425), (S 265 0 4 1180591620717411303425)]), (S 4033 0 1 1180591620717411303425), (.int .u8 (.ofNat 14))], b4_1, 4934, (.slice none 0 0), [], 4937⟩
set_option maxRecDepth 1000000 in
theorem o1941 : EntryOK Try.prog e1941 := Ax.part (K := sks) (l := []) mixed sks_ok trivial (by kernel_rfl)
noncomputable def e1943 : Entry := ⟨102, [(.agg #[(S 263 0 4 1180591620717411303428), (S 264 0 4 1180591620717411303425), (S 265 0 4 1180591620717411303425)]), (S 4033 0 1 1180591620717411303425), (.int .u8 (.ofNat 15))], b4_1, 4939, (.slice none 0 0), [], 4942⟩
set_option maxRecDepth 1000000 in
theorem o1943 : EntryOK Try.prog e1943 := Ax.part (K := sks) (l := []) mixed sks_ok trivial (by kernel_rfl)
noncomputable def e1945 : Entry := ⟨102, [(.agg #[(S 263 0 4 1180591620717411303428), (S 264 0 4 1180591620717411303425), (S 265 0 4 1180591620717411303425)]), (S 4033 0 1 1180591620717411303425), (.int .u8 (.ofNat 16))], b4_1, 4944, (.slice none 0 0), [], 4947⟩
set_option maxRecDepth 1000000 in
theorem o1945 : EntryOK Try.prog e1945 := Ax.part (K := sks) (l := []) mixed sks_ok trivial (by kernel_rfl)
noncomputable def e1947 : Entry := ⟨102, [(.agg #[(S 263 0 4 1180591620717411303428), (S 264 0 4 1180591620717411303425), (S 265 0 4 1180591620717411303425)]), (S 4033 0 1 1180591620717411303425), (.int .u8 (.ofNat 17))], b4_1, 4949, (.slice none 0 0), [], 4952⟩
set_option maxRecDepth 1000000 in
theorem o1947 : EntryOK Try.prog e1947 := Ax.part (K := sks) (l := []) mixed sks_ok trivial (by kernel_rfl)
noncomputable def e1949 : Entry := ⟨102, [(.agg #[(S 263 0 4 1180591620717411303428), (S 264 0 4 1180591620717411303425), (S 265 0 4 1180591620717411303425)]), (S 4033 0 1 1180591620717411303425), (.int .u8 (.ofNat 18))], b4_1, 4954, (.slice none 0 0), [], 4957⟩
set_option maxRecDepth 1000000 in
theorem o1949 : EntryOK Try.prog e1949 := Ax.part (K := sks) (l := []) mixed sks_ok trivial (by kernel_rfl)
noncomputable def e1951 : Entry := ⟨102, [(.agg #[(S 263 0 4 1180591620717411303428), (S 264 0 4 1180591620717411303425), (S 265 0 4 1180591620717411303425)]), (S 4033 0 1 1180591620717411303425), (.int .u8 (.ofNat 19))], b4_1, 4959, (.slice none 0 0), [], 4962⟩
set_option maxRecDepth 1000000 in
theorem o1951 : EntryOK Try.prog e1951 := Ax.part (K := sks) (l := []) mixed sks_ok trivial (by kernel_rfl)
noncomputable def e1953 : Entry := ⟨102, [(.agg #[(S 263 0 4 1180591620717411303428), (S 264 0 4 1180591620717411303425), (S 265 0 4 1180591620717411303425)]), (S 4033 0 1 1180591620717411303425), (.int .u8 (.ofNat 20))], b4_1, 4964, (.slice none 0 0), [], 4967⟩
set_option maxRecDepth 1000000 in
theorem o1953 : EntryOK Try.prog e1953 := Ax.part (K := sks) (l := []) mixed sks_ok trivial (by kernel_rfl)
noncomputable def e1955 : Entry := ⟨102, [(.agg #[(S 263 0 4 1180591620717411303428), (S 264 0 4 1180591620717411303425), (S 265 0 4 1180591620717411303425)]), (S 4033 0 1 1180591620717411303425), (.int .u8 (.ofNat 21))], b4_1, 4969, (.slice none 0 0), [], 4972⟩
set_option maxRecDepth 1000000 in
theorem o1955 : EntryOK Try.prog e1955 := Ax.part (K := sks) (l := []) mixed sks_ok trivial (by kernel_rfl)
noncomputable def e1957 : Entry := ⟨102, [(.agg #[(S 263 0 4 1180591620717411303428), (S 264 0 4 1180591620717411303425), (S 265 0 4 1180591620717411303425)]), (S 4033 0 1 1180591620717411303425), (.int .u8 (.ofNat 22))], b4_1, 4974, (.slice none 0 0), [], 4977⟩
set_option maxRecDepth 1000000 in
theorem o1957 : EntryOK Try.prog e1957 := Ax.part (K := sks) (l := []) mixed sks_ok trivial (by kernel_rfl)
noncomputable def e1959 : Entry := ⟨102, [(.agg #[(S 263 0 4 1180591620717411303428), (S 264 0 4 1180591620717411303425), (S 265 0 4 1180591620717411303425)]), (S 4033 0 1 1180591620717411303425), (.int .u8 (.ofNat 23))], b4_1, 4979, (.slice none 0 0), [], 4982⟩
set_option maxRecDepth 1000000 in
theorem o1959 : EntryOK Try.prog e1959 := Ax.part (K := sks) (l := []) mixed sks_ok trivial (by kernel_rfl)
noncomputable def e1961 : Entry := ⟨102, [(.agg #[(S 263 0 4 1180591620717411303428), (S 264 0 4 1180591620717411303425), (S 265 0 4 1180591620717411303425)]), (S 4033 0 1 1180591620717411303425), (.int .u8 (.ofNat 24))], b4_1, 4984, (.slice none 0 0), [], 4987⟩
set_option maxRecDepth 1000000 in
theorem o1961 : EntryOK Try.prog e1961 := Ax.part (K := sks) (l := []) mixed sks_ok trivial (by kernel_rfl)
noncomputable def e1963 : Entry := ⟨102, [(.agg #[(S 263 0 4 1180591620717411303428), (S 264 0 4 1180591620717411303425), (S 265 0 4 1180591620717411303425)]), (S 4033 0 1 1180591620717411303425), (.int .u8 (.ofNat 25))], b4_1, 4989, (.slice none 0 0), [], 4992⟩
set_option maxRecDepth 1000000 in
theorem o1963 : EntryOK Try.prog e1963 := Ax.part (K := sks) (l := []) mixed sks_ok trivial (by kernel_rfl)
noncomputable def e1965 : Entry := ⟨102, [(.agg #[(S 263 0 4 1180591620717411303428), (S 264 0 4 1180591620717411303425), (S 265 0 4 1180591620717411303425)]), (S 4033 0 1 1180591620717411303425), (.int .u8 (.ofNat 26))], b4_1, 4994, (.slice none 0 0), [], 4997⟩
set_option maxRecDepth 1000000 in
theorem o1965 : EntryOK Try.prog e1965 := Ax.part (K := sks) (l := []) mixed sks_ok trivial (by kernel_rfl)
noncomputable def e1967 : Entry := ⟨102, [(.agg #[(S 263 0 4 1180591620717411303428), (S 264 0 4 1180591620717411303425), (S 265 0 4 1180591620717411303425)]), (S 4033 0 1 1180591620717411303425), (.int .u8 (.ofNat 27))], b4_1, 4999, (.slice none 0 0), [], 5002⟩
set_option maxRecDepth 1000000 in
theorem o1967 : EntryOK Try.prog e1967 := Ax.part (K := sks) (l := []) mixed sks_ok trivial (by kernel_rfl)
noncomputable def e1969 : Entry := ⟨102, [(.agg #[(S 263 0 4 1180591620717411303428), (S 264 0 4 1180591620717411303425), (S 265 0 4 1180591620717411303425)]), (S 4033 0 1 1180591620717411303425), (.int .u8 (.ofNat 28))], b4_1, 5004, (.slice none 0 0), [], 5007⟩
set_option maxRecDepth 1000000 in
theorem o1969 : EntryOK Try.prog e1969 := Ax.part (K := sks) (l := []) mixed sks_ok trivial (by kernel_rfl)
noncomputable def e1971 : Entry := ⟨102, [(.agg #[(S 263 0 4 1180591620717411303428), (S 264 0 4 1180591620717411303425), (S 265 0 4 1180591620717411303425)]), (S 4033 0 1 1180591620717411303425), (.int .u8 (.ofNat 29))], b4_1, 5009, (.slice none 0 0), [], 5012⟩
set_option maxRecDepth 1000000 in
theorem o1971 : EntryOK Try.prog e1971 := Ax.part (K := sks) (l := []) mixed sks_ok trivial (by kernel_rfl)
noncomputable def e1973 : Entry := ⟨102, [(.agg #[(S 263 0 4 1180591620717411303428), (S 264 0 4 1180591620717411303425), (S 265 0 4 1180591620717411303425)]), (S 4033 0 1 1180591620717411303425), (.int .u8 (.ofNat 30))], b4_1, 5014, (.slice none 0 0), [], 5017⟩
set_option maxRecDepth 1000000 in
theorem o1973 : EntryOK Try.prog e1973 := Ax.part (K := sks) (l := []) mixed sks_ok trivial (by kernel_rfl)
noncomputable def e1975 : Entry := ⟨102, [(.agg #[(S 263 0 4 1180591620717411303428), (S 264 0 4 1180591620717411303425), (S 265 0 4 1180591620717411303425)]), (S 4033 0 1 1180591620717411303425), (.int .u8 (.ofNat 31))], b4_1, 5019, (.slice none 0 0), [], 5022⟩
set_option maxRecDepth 1000000 in
theorem o1975 : EntryOK Try.prog e1975 := Ax.part (K := sks) (l := []) mixed sks_ok trivial (by kernel_rfl)
noncomputable def e1977 : Entry := ⟨102, [(.agg #[(S 263 0 4 1180591620717411303428), (S 264 0 4 1180591620717411303425), (S 265 0 4 1180591620717411303425)]), (S 4033 0 1 1180591620717411303425), (.int .u8 (.ofNat 32))], b4_1, 5024, (.slice none 0 0), [], 5027⟩
set_option maxRecDepth 1000000 in
theorem o1977 : EntryOK Try.prog e1977 := Ax.part (K := sks) (l := []) mixed sks_ok trivial (by kernel_rfl)
noncomputable def e1979 : Entry := ⟨102, [(.agg #[(S 263 0 4 1180591620717411303428), (S 264 0 4 1180591620717411303425), (S 265 0 4 1180591620717411303425)]), (S 4033 0 1 1180591620717411303425), (.int .u8 (.ofNat 33))], b4_1, 5029, (.slice none 0 0), [], 5032⟩
set_option maxRecDepth 1000000 in
theorem o1979 : EntryOK Try.prog e1979 := Ax.part (K := sks) (l := []) mixed sks_ok trivial (by kernel_rfl)
noncomputable def e1981 : Entry := ⟨102, [(.agg #[(S 263 0 4 1180591620717411303428), (S 264 0 4 1180591620717411303425), (S 265 0 4 1180591620717411303425)]), (S 4033 0 1 1180591620717411303425), (.int .u8 (.ofNat 34))], b4_1, 5034, (.slice none 0 0), [], 5037⟩
set_option maxRecDepth 1000000 in
theorem o1981 : EntryOK Try.prog e1981 := Ax.part (K := sks) (l := []) mixed sks_ok trivial (by kernel_rfl)
noncomputable def e1983 : Entry := ⟨102, [(.agg #[(S 263 0 4 1180591620717411303428), (S 264 0 4 1180591620717411303425), (S 265 0 4 1180591620717411303425)]), (S 4033 0 1 1180591620717411303425), (.int .u8 (.ofNat 35))], b4_1, 5039, (.slice none 0 0), [], 5042⟩
set_option maxRecDepth 1000000 in
theorem o1983 : EntryOK Try.prog e1983 := Ax.part (K := sks) (l := []) mixed sks_ok trivial (by kernel_rfl)
noncomputable def e1985 : Entry := ⟨102, [(.agg #[(S 263 0 4 1180591620717411303428), (S 264 0 4 1180591620717411303425), (S 265 0 4 1180591620717411303425)]), (S 4033 0 1 1180591620717411303425), (.int .u8 (.ofNat 36))], b4_1, 5044, (.slice none 0 0), [], 5047⟩
set_option maxRecDepth 1000000 in
theorem o1985 : EntryOK Try.prog e1985 := Ax.part (K := sks) (l := []) mixed sks_ok trivial (by kernel_rfl)

end Go.Proofs.Ytoocpkmefmjcjaa.munchNil
