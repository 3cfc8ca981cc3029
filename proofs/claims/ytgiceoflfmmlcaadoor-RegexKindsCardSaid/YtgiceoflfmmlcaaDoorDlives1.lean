/-
  What the parts of the run of viewportlaw02.lives look at and give. No condition.
-/
import Derived.Test.YtgiceoflfmmlcaaDoorAx9
import Derived.Test.YtgiceoflfmmlcaaDoorKeys
import Derived.Test.YtgiceoflfmmlcaaDoorTabslives
import Derived.Test.YtgiceoflfmmlcaaDoorProg
import Derived.KernelRfl
set_option linter.unusedSimpArgs false
set_option linter.unusedVariables false
namespace Go.Proofs.YtgiceoflfmmlcaaDoor.lives
open Go.Proofs Go.Proofs.YtgiceoflfmmlcaaDoor Ax

noncomputable def z28 : LBlk := ⟨0,.cells 74 (Rr 2 (.slice (some ⟨64,0,some 1⟩) 0 0) [])⟩
noncomputable def z10 : LBlk := ⟨1,.cells 56 [(.string ⟨#[40,97,124,98,41,42,99]⟩),(I 0),(.slice none 0 0),(S 0 0 1 1)]⟩
noncomputable def s6_0 : List Value × List LBlk := ((Kk [(A 1 0),Y,Y,(.int .u8 (.ofNat 40))] (Rr 13 Y (Kk [(A 3 0)] (Rr 66 Y [])))), [z28,z10])
noncomputable def u6 : UL := ⟨20, [false,true,false,true,true], 0, (Kk [(A 1 0),Y,Y,(.int .u8 (.ofNat 40))] (Rr 13 Y (Kk [(A 3 0)] (Rr 66 Y [])))), 3, 2, 3, [⟨(I 5),(.int .u8 (.ofNat 42)),0⟩,⟨(I 6),(.int .u8 (.ofNat 43)),1⟩,⟨(I 7),(.int .u8 (.ofNat 63)),2⟩], [z28,z10], 4, (.exit 0), (Kk [(A 1 0),Y,Y,(.int .u8 (.ofNat 40))] (Rr 80 Y [])), [z28,z10], 3, 4, [(0,s6_0),(1,s6_0),(2,s6_0),(4,s6_0),(3,s6_0),(5,s6_0),(6,s6_0),(7,s6_0)]⟩
noncomputable def g6 : LEntry := u6.entry
noncomputable def z9 : LBlk := ⟨1,.cells 56 [(.string ⟨#[40,97,124,98,41,42,99]⟩),(I 1),(.slice none 0 0),(Gg 5 0 2 2)]⟩
noncomputable def z8 : LBlk := ⟨5,.cells 74 (Rr 2 (.slice (some ⟨64,0,some 1⟩) 0 0) [(.slice none 0 0),(.slice none 0 0)])⟩
noncomputable def s10_1 : List Value × List LBlk := ((Kk [(A 1 0),Y,Y,(.int .u8 (.ofNat 97))] (Rr 13 Y (Kk [(A 7 0)] (Rr 66 Y [])))), [z9,z8])
noncomputable def u10 : UL := ⟨20, [false,true,false,true,true], 0, (Kk [(A 1 0),Y,Y,(.int .u8 (.ofNat 97))] (Rr 13 Y (Kk [(A 7 0)] (Rr 66 Y [])))), 7, 6, 3, [⟨(I 5),(.int .u8 (.ofNat 42)),0⟩,⟨(I 6),(.int .u8 (.ofNat 43)),1⟩,⟨(I 7),(.int .u8 (.ofNat 63)),2⟩], [z9,z8], 8, (.exit 0), (Kk [(A 1 0),Y,Y,(.int .u8 (.ofNat 97))] (Rr 80 Y [])), [z9,z8], 7, 8, [(0,s10_1),(1,s10_1),(2,s10_1),(4,s10_1),(3,s10_1),(5,s10_1),(6,s10_1),(7,s10_1)]⟩
noncomputable def g10 : LEntry := u10.entry
noncomputable def z13 : LBlk := ⟨1,.cells 56 [(.string ⟨#[40,97,124,98,41,42,99]⟩),(I 2),(Gg 24 0 1 6),(Gg 5 0 2 2)]⟩
noncomputable def z11 : LBlk := ⟨5,.cells 74 (Rr 2 (.slice (some ⟨64,0,some 1⟩) 0 0) [(.slice none 0 0),(Gg 26 0 1 1)])⟩
noncomputable def z5 : LBlk := ⟨24,.cells 37 (Kk [(I 2),(.int .u64 (.ofNat 0)),(.int .u64 (.ofNat 8589934592))] (Rr 2 (.int .u64 (.ofNat 0)) [(.slice none 0 0)]))⟩
noncomputable def s23_2 : List Value × List LBlk := ((Kk [(A 1 0),Y,Y,(.int .u8 (.ofNat 124))] (Rr 13 Y (Kk [(A 28 0)] (Rr 66 Y [])))), [z13,z11,z5,⟨26,.cells 3 [(I 0)]⟩])
noncomputable def u23 : UL := ⟨20, [false,true,false,true,true], 0, (Kk [(A 1 0),Y,Y,(.int .u8 (.ofNat 124))] (Rr 13 Y (Kk [(A 28 0)] (Rr 66 Y [])))), 28, 27, 3, [⟨(I 5),(.int .u8 (.ofNat 42)),0⟩,⟨(I 6),(.int .u8 (.ofNat 43)),1⟩,⟨(I 7),(.int .u8 (.ofNat 63)),2⟩], [z13,z11,z5,⟨26,.cells 3 [(I 0)]⟩], 29, (.exit 0), (Kk [(A 1 0),Y,Y,(.int .u8 (.ofNat 124))] (Rr 80 Y [])), [z13,z11,z5,⟨26,.cells 3 [(I 0)]⟩], 28, 29, [(0,s23_2),(1,s23_2),(2,s23_2),(4,s23_2),(3,s23_2),(5,s23_2),(6,s23_2),(7,s23_2)]⟩
noncomputable def g23 : LEntry := u23.entry
noncomputable def z14 : LBlk := ⟨1,.cells 56 [(.string ⟨#[40,97,124,98,41,42,99]⟩),(I 3),(Gg 24 0 1 6),(Gg 5 0 2 2)]⟩
noncomputable def z12 : LBlk := ⟨5,.cells 74 (Rr 2 (.slice (some ⟨64,0,some 1⟩) 0 0) [(Gg 30 0 1 1),(.slice none 0 0)])⟩
noncomputable def s29_3 : List Value × List LBlk := ((Kk [(A 1 0),Y,Y,(.int .u8 (.ofNat 98))] (Rr 13 Y (Kk [(A 32 0)] (Rr 66 Y [])))), [z14,z12,z5,⟨30,.cells 3 [(I 0)]⟩])
noncomputable def u29 : UL := ⟨20, [false,true,false,true,true], 0, (Kk [(A 1 0),Y,Y,(.int .u8 (.ofNat 98))] (Rr 13 Y (Kk [(A 32 0)] (Rr 66 Y [])))), 32, 31, 3, [⟨(I 5),(.int .u8 (.ofNat 42)),0⟩,⟨(I 6),(.int .u8 (.ofNat 43)),1⟩,⟨(I 7),(.int .u8 (.ofNat 63)),2⟩], [z14,z12,z5,⟨30,.cells 3 [(I 0)]⟩], 33, (.exit 0), (Kk [(A 1 0),Y,Y,(.int .u8 (.ofNat 98))] (Rr 80 Y [])), [z14,z12,z5,⟨30,.cells 3 [(I 0)]⟩], 32, 33, [(0,s29_3),(1,s29_3),(2,s29_3),(4,s29_3),(3,s29_3),(5,s29_3),(6,s29_3),(7,s29_3)]⟩
noncomputable def g29 : LEntry := u29.entry
noncomputable def z15 : LBlk := ⟨1,.cells 56 [(.string ⟨#[40,97,124,98,41,42,99]⟩),(I 4),(Gg 49 0 2 6),(Gg 5 0 2 2)]⟩
noncomputable def z18 : LBlk := ⟨5,.cells 74 (Rr 2 (.slice (some ⟨64,0,some 1⟩) 0 0) [(Gg 30 0 1 1),(Gg 51 0 1 1)])⟩
noncomputable def z2 : LBlk := ⟨49,.cells 37 (Kk [(I 2),(.int .u64 (.ofNat 0)),(.int .u64 (.ofNat 8589934592))] (Rr 2 (.int .u64 (.ofNat 0)) (Kk [(.slice none 0 0),(I 2),(.int .u64 (.ofNat 0)),(.int .u64 (.ofNat 17179869184))] (Rr 2 (.int .u64 (.ofNat 0)) [(.slice none 0 0)]))))⟩
noncomputable def s42_4 : List Value × List LBlk := ((Kk [(A 1 0),Y,Y,(.int .u8 (.ofNat 41))] (Rr 13 Y (Kk [(A 53 0)] (Rr 66 Y [])))), [z15,z18,⟨30,.cells 3 [(I 0)]⟩,z2,⟨51,.cells 3 [(I 1)]⟩])
noncomputable def u42 : UL := ⟨20, [false,true,false,true,true], 0, (Kk [(A 1 0),Y,Y,(.int .u8 (.ofNat 41))] (Rr 13 Y (Kk [(A 53 0)] (Rr 66 Y [])))), 53, 52, 3, [⟨(I 5),(.int .u8 (.ofNat 42)),0⟩,⟨(I 6),(.int .u8 (.ofNat 43)),1⟩,⟨(I 7),(.int .u8 (.ofNat 63)),2⟩], [z15,z18,⟨30,.cells 3 [(I 0)]⟩,z2,⟨51,.cells 3 [(I 1)]⟩], 54, (.exit 0), (Kk [(A 1 0),Y,Y,(.int .u8 (.ofNat 41))] (Rr 80 Y [])), [z15,z18,⟨30,.cells 3 [(I 0)]⟩,z2,⟨51,.cells 3 [(I 1)]⟩], 53, 54, [(0,s42_4),(1,s42_4),(2,s42_4),(4,s42_4),(3,s42_4),(5,s42_4),(6,s42_4),(7,s42_4)]⟩
noncomputable def g42 : LEntry := u42.entry
noncomputable def z16 : LBlk := ⟨1,.cells 56 [(.string ⟨#[40,97,124,98,41,42,99]⟩),(I 5),(Gg 67 0 3 6),(Gg 5 0 1 2)]⟩
noncomputable def z7 : LBlk := ⟨5,.cells 74 [(.slice (some ⟨64,0,some 1⟩) 0 0),(Gg 69 0 1 1),(Gg 55 0 2 1),(.slice none 0 0)]⟩
noncomputable def z1 : LBlk := ⟨67,.cells 37 (Kk [(I 2),(.int .u64 (.ofNat 0)),(.int .u64 (.ofNat 8589934592))] (Rr 2 (.int .u64 (.ofNat 0)) (Kk [(.slice none 0 0),(I 2),(.int .u64 (.ofNat 0)),(.int .u64 (.ofNat 17179869184))] (Rr 2 (.int .u64 (.ofNat 0)) (Kk [(.slice none 0 0),(I 4)] (Rr 4 (.int .u64 (.ofNat 0)) [(Gg 55 0 2 1)]))))))⟩
noncomputable def s53_5 : List Value × List LBlk := ((Kk [(A 1 0),Y,Y,(.int .u8 (.ofNat 42))] (Rr 13 Y (Kk [(A 71 0)] (Rr 66 Y [])))), [z16,z7,⟨55,.cells 3 [(I 0),(I 1)]⟩,z1,⟨69,.cells 3 [(I 2)]⟩])
noncomputable def z17 : LBlk := ⟨1,.cells 56 [(.string ⟨#[40,97,124,98,41,42,99]⟩),(I 6),(Gg 84 0 4 6),(Gg 5 0 1 2)]⟩
noncomputable def z0 : LBlk := ⟨84,.cells 37 (Kk [(I 2),(.int .u64 (.ofNat 0)),(.int .u64 (.ofNat 8589934592))] (Rr 2 (.int .u64 (.ofNat 0)) (Kk [(.slice none 0 0),(I 2),(.int .u64 (.ofNat 0)),(.int .u64 (.ofNat 17179869184))] (Rr 2 (.int .u64 (.ofNat 0)) (Kk [(.slice none 0 0),(I 4)] (Rr 4 (.int .u64 (.ofNat 0)) (Kk [(Gg 55 0 2 1),(I 5)] (Rr 4 (.int .u64 (.ofNat 0)) [(S 72 0 1 1)]))))))))⟩
noncomputable def u53 : UL := ⟨20, [false,true,false,true,true], 0, (Kk [(A 1 0),Y,Y,(.int .u8 (.ofNat 42))] (Rr 13 Y (Kk [(A 71 0)] (Rr 66 Y [])))), 71, 70, 3, [⟨(I 5),(.int .u8 (.ofNat 42)),0⟩,⟨(I 6),(.int .u8 (.ofNat 43)),1⟩,⟨(I 7),(.int .u8 (.ofNat 63)),2⟩], [z16,z7,⟨55,.cells 3 [(I 0),(I 1)]⟩,z1,⟨69,.cells 3 [(I 2)]⟩], 72, .ret, (Kk [Y,Y,(I 0)] (Rr 81 Y [])), [z17,z7,⟨55,.cells 3 [(I 0),(I 1)]⟩,⟨69,.cells 3 [(I 3)]⟩,⟨72,.cells 3 [(I 2)]⟩,z0], 1, 85, [(0,s53_5),(2,s53_5),(4,s53_5),(6,s53_5)]⟩
noncomputable def g53 : LEntry := u53.entry
noncomputable def s69_6 : List Value × List LBlk := ((Kk [(A 1 0),Y,Y,(.int .u8 (.ofNat 99))] (Rr 13 Y (Kk [(A 86 0)] (Rr 66 Y [])))), [z17,z7,⟨55,.cells 3 [(I 0),(I 1)]⟩,⟨69,.cells 3 [(I 3)]⟩,⟨72,.cells 3 [(I 2)]⟩,z0])
noncomputable def u69 : UL := ⟨20, [false,true,false,true,true], 0, (Kk [(A 1 0),Y,Y,(.int .u8 (.ofNat 99))] (Rr 13 Y (Kk [(A 86 0)] (Rr 66 Y [])))), 86, 85, 3, [⟨(I 5),(.int .u8 (.ofNat 42)),0⟩,⟨(I 6),(.int .u8 (.ofNat 43)),1⟩,⟨(I 7),(.int .u8 (.ofNat 63)),2⟩], [z17,z7,⟨55,.cells 3 [(I 0),(I 1)]⟩,⟨69,.cells 3 [(I 3)]⟩,⟨72,.cells 3 [(I 2)]⟩,z0], 87, (.exit 0), (Kk [(A 1 0),Y,Y,(.int .u8 (.ofNat 99))] (Rr 80 Y [])), [z17,z7,⟨55,.cells 3 [(I 0),(I 1)]⟩,⟨69,.cells 3 [(I 3)]⟩,⟨72,.cells 3 [(I 2)]⟩,z0], 86, 87, [(0,s69_6),(1,s69_6),(2,s69_6),(4,s69_6),(3,s69_6),(5,s69_6),(6,s69_6),(7,s69_6)]⟩
noncomputable def g69 : LEntry := u69.entry
noncomputable def z26 : LBlk := ⟨210,.cells 74 (Rr 2 (.slice (some ⟨64,0,some 1⟩) 0 0) [])⟩
noncomputable def z19 : LBlk := ⟨211,.cells 56 [(.string ⟨#[97,40,98]⟩),(I 0),(.slice none 0 0),(S 210 0 1 1)]⟩
noncomputable def s336_7 : List Value × List LBlk := ((Kk [(A 211 0),Y,Y,(.int .u8 (.ofNat 97))] (Rr 13 Y (Kk [(A 213 0)] (Rr 66 Y [])))), [z26,z19])
noncomputable def u336 : UL := ⟨20, [false,true,false,true,true], 0, (Kk [(A 211 0),Y,Y,(.int .u8 (.ofNat 97))] (Rr 13 Y (Kk [(A 213 0)] (Rr 66 Y [])))), 213, 212, 3, [⟨(I 5),(.int .u8 (.ofNat 42)),0⟩,⟨(I 6),(.int .u8 (.ofNat 43)),1⟩,⟨(I 7),(.int .u8 (.ofNat 63)),2⟩], [z26,z19], 214, (.exit 0), (Kk [(A 211 0),Y,Y,(.int .u8 (.ofNat 97))] (Rr 80 Y [])), [z26,z19], 213, 214, [(0,s336_7),(1,s336_7),(2,s336_7),(4,s336_7),(3,s336_7),(5,s336_7),(6,s336_7),(7,s336_7)]⟩
noncomputable def g336 : LEntry := u336.entry
noncomputable def z24 : LBlk := ⟨210,.cells 74 [(.slice (some ⟨64,0,some 1⟩) 0 0),(Gg 232 0 1 1)]⟩
noncomputable def z21 : LBlk := ⟨211,.cells 56 [(.string ⟨#[97,40,98]⟩),(I 1),(Gg 230 0 1 6),(S 210 0 1 1)]⟩
noncomputable def z3 : LBlk := ⟨230,.cells 37 (Kk [(I 2),(.int .u64 (.ofNat 0)),(.int .u64 (.ofNat 8589934592))] (Rr 2 (.int .u64 (.ofNat 0)) [(.slice none 0 0)]))⟩
noncomputable def s349_8 : List Value × List LBlk := ((Kk [(A 211 0),Y,Y,(.int .u8 (.ofNat 40))] (Rr 13 Y (Kk [(A 234 0)] (Rr 66 Y [])))), [z24,z21,z3,⟨232,.cells 3 [(I 0)]⟩])
noncomputable def u349 : UL := ⟨20, [false,true,false,true,true], 0, (Kk [(A 211 0),Y,Y,(.int .u8 (.ofNat 40))] (Rr 13 Y (Kk [(A 234 0)] (Rr 66 Y [])))), 234, 233, 3, [⟨(I 5),(.int .u8 (.ofNat 42)),0⟩,⟨(I 6),(.int .u8 (.ofNat 43)),1⟩,⟨(I 7),(.int .u8 (.ofNat 63)),2⟩], [z24,z21,z3,⟨232,.cells 3 [(I 0)]⟩], 235, (.exit 0), (Kk [(A 211 0),Y,Y,(.int .u8 (.ofNat 40))] (Rr 80 Y [])), [z24,z21,z3,⟨232,.cells 3 [(I 0)]⟩], 234, 235, [(0,s349_8),(1,s349_8),(2,s349_8),(4,s349_8),(3,s349_8),(5,s349_8),(6,s349_8),(7,s349_8)]⟩
noncomputable def g349 : LEntry := u349.entry
noncomputable def z20 : LBlk := ⟨211,.cells 56 [(.string ⟨#[97,40,98]⟩),(I 2),(Gg 230 0 1 6),(Gg 236 0 2 2)]⟩
noncomputable def z6 : LBlk := ⟨236,.cells 74 [(.slice (some ⟨64,0,some 1⟩) 0 0),(Gg 232 0 1 1),(.slice none 0 0),(.slice none 0 0)]⟩
noncomputable def s353_9 : List Value × List LBlk := ((Kk [(A 211 0),Y,Y,(.int .u8 (.ofNat 98))] (Rr 13 Y (Kk [(A 238 0)] (Rr 66 Y [])))), [z20,z3,⟨232,.cells 3 [(I 0)]⟩,z6])
noncomputable def u353 : UL := ⟨20, [false,true,false,true,true], 0, (Kk [(A 211 0),Y,Y,(.int .u8 (.ofNat 98))] (Rr 13 Y (Kk [(A 238 0)] (Rr 66 Y [])))), 238, 237, 3, [⟨(I 5),(.int .u8 (.ofNat 42)),0⟩,⟨(I 6),(.int .u8 (.ofNat 43)),1⟩,⟨(I 7),(.int .u8 (.ofNat 63)),2⟩], [z20,z3,⟨232,.cells 3 [(I 0)]⟩,z6], 239, (.exit 0), (Kk [(A 211 0),Y,Y,(.int .u8 (.ofNat 98))] (Rr 80 Y [])), [z20,z3,⟨232,.cells 3 [(I 0)]⟩,z6], 238, 239, [(0,s353_9),(1,s353_9),(2,s353_9),(4,s353_9),(3,s353_9),(5,s353_9),(6,s353_9),(7,s353_9)]⟩
noncomputable def g353 : LEntry := u353.entry
noncomputable def z27 : LBlk := ⟨258,.cells 74 (Rr 2 (.slice (some ⟨64,0,some 1⟩) 0 0) [])⟩
noncomputable def z22 : LBlk := ⟨259,.cells 56 [(.string ⟨#[97,41]⟩),(I 0),(.slice none 0 0),(S 258 0 1 1)]⟩
noncomputable def qol_ : List Value × List LBlk := ((Kk [(A 259 0),Y,Y,(.int .u8 (.ofNat 97))] (Rr 13 Y (Kk [(A 261 0)] (Rr 66 Y [])))), [z27,z22])
noncomputable def u368 : UL := ⟨20, [false,true,false,true,true], 0, (Kk [(A 259 0),Y,Y,(.int .u8 (.ofNat 97))] (Rr 13 Y (Kk [(A 261 0)] (Rr 66 Y [])))), 261, 260, 3, [⟨(I 5),(.int .u8 (.ofNat 42)),0⟩,⟨(I 6),(.int .u8 (.ofNat 43)),1⟩,⟨(I 7),(.int .u8 (.ofNat 63)),2⟩], [z27,z22], 262, (.exit 0), (Kk [(A 259 0),Y,Y,(.int .u8 (.ofNat 97))] (Rr 80 Y [])), [z27,z22], 261, 262, [(0,qol_),(1,qol_),(2,qol_),(4,qol_),(3,qol_),(5,qol_),(6,qol_),(7,qol_)]⟩
noncomputable def g368 : LEntry := u368.entry
noncomputable def z25 : LBlk := ⟨258,.cells 74 [(.slice (some ⟨64,0,some 1⟩) 0 0),(Gg 280 0 1 1)]⟩
noncomputable def z23 : LBlk := ⟨259,.cells 56 [(.string ⟨#[97,41]⟩),(I 1),(Gg 278 0 1 6),(S 258 0 1 1)]⟩
noncomputable def z4 : LBlk := ⟨278,.cells 37 (Kk [(I 2),(.int .u64 (.ofNat 0)),(.int .u64 (.ofNat 8589934592))] (Rr 2 (.int .u64 (.ofNat 0)) [(.slice none 0 0)]))⟩
noncomputable def qom_ : List Value × List LBlk := ((Kk [(A 259 0),Y,Y,(.int .u8 (.ofNat 41))] (Rr 13 Y (Kk [(A 282 0)] (Rr 66 Y [])))), [z25,z23,z4,⟨280,.cells 3 [(I 0)]⟩])
noncomputable def u381 : UL := ⟨20, [false,true,false,true,true], 0, (Kk [(A 259 0),Y,Y,(.int .u8 (.ofNat 41))] (Rr 13 Y (Kk [(A 282 0)] (Rr 66 Y [])))), 282, 281, 3, [⟨(I 5),(.int .u8 (.ofNat 42)),0⟩,⟨(I 6),(.int .u8 (.ofNat 43)),1⟩,⟨(I 7),(.int .u8 (.ofNat 63)),2⟩], [z25,z23,z4,⟨280,.cells 3 [(I 0)]⟩], 283, (.exit 0), (Kk [(A 259 0),Y,Y,(.int .u8 (.ofNat 41))] (Rr 80 Y [])), [z25,z23,z4,⟨280,.cells 3 [(I 0)]⟩], 282, 283, [(0,qom_),(1,qom_),(2,qom_),(4,qom_),(3,qom_),(5,qom_),(6,qom_),(7,qom_)]⟩
noncomputable def g381 : LEntry := u381.entry

end Go.Proofs.YtgiceoflfmmlcaaDoor.lives
