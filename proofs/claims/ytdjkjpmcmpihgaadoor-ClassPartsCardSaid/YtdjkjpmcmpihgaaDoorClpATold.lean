/-
  What functions do, told by pure functions. No condition.
-/
import Derived.Test.YtdjkjpmcmpihgaaDoorClpLives
set_option linter.unusedSimpArgs false
set_option linter.unusedVariables false
set_option linter.unusedSectionVars false
set_option linter.unnecessarySimpa false
set_option maxRecDepth 100000
noncomputable section
namespace Go.Proofs.YtdjkjpmcmpihgaaDoor.clp01
open Go Go.Proofs.YtdjkjpmcmpihgaaDoor Ax
variable [Args]
def rw_u (x : Int) : List Value := [Value.int .u64 x]
theorem rwf_u : RowF rw_u 1 := ⟨fun _ => rfl, fun a v h => by
 simp only [rw_u, List.mem_cons, List.not_mem_nil, or_false] at h
 rcases h with rfl <;> rfl, fun _ => rfl⟩
abbrev xp1 (b o n k : Nat) (i : Int) : Prop := IA P 25 (sW b o n k) i (pW b (Nat.add o (i.toNat * 4)))
theorem xk1 (b o k : Nat) {n : Nat} {i : Int} (h : 0 ≤ i ∧ i < (n : Int)) : OB (.pur (pW b (Nat.add o (i.toNat * 4)))) (xp1 b o n k i) := ⟨ixWO (e := 24) (by kernel_rfl) (by kernel_rfl) h⟩
abbrev lp2 (x : WL rw_uuuu) (i : Nat) (r : Int × Int × Int × Int) : Prop := Lg P 24 (pW x.num (Nat.add x.off (i * 4))) (Value.agg #[(Value.int .u64 (r.1)), (Value.int .u64 (r.2.1)), (Value.int .u64 (r.2.2.1)), (Value.int .u64 (r.2.2.2))])
theorem lk2 {x : WL rw_uuuu} {i : Nat} {r : Int × Int × Int × Int} (hr : some ((x.l).getD i (0, 0, 0, 0)) = some r) (h : i < (x.l).length) : OB (.ld (Value.agg #[(Value.int .u64 (r.1)), (Value.int .u64 (r.2.1)), (Value.int .u64 (r.2.2.1)), (Value.int .u64 (r.2.2.2))])) (lp2 x i r) := by cases hr; exact ⟨ldRA rwf_uuuu (0, 0, 0, 0) (i := i) (q := 0) x (n := 4) (Nat.add x.off (i * 4)) rfl (by kernel_rfl) (by kernel_rfl) h (by decide) (by decide) rfl⟩
abbrev xp3 (b n k : Nat) (i : Int) : Prop := IA P 25 (sN b 0 n k) i (pN b (i.toNat * 4))
theorem xk3 (b k : Nat) {n : Nat} {i : Int} (h : 0 ≤ i ∧ i < (n : Int)) : OB (.pur (pN b (i.toNat * 4))) (xp3 b n k i) := ⟨ixS (e := 24) (by kernel_rfl) (by kernel_rfl) h.1 h.2⟩
abbrev op4 (L : List (Int)) (i : Nat) (r : Int) : Prop := (layT (rows rw_u L)).get (i * 1) = some (Value.int .u64 r)
theorem ok4 {L : List (Int)} {i : Nat} {r : Int} (hr : some (L.getD i (0)) = some r) (h : i < L.length) : OB (.ld (Value.int .u64 r)) (op4 L i r) := by cases hr; exact ⟨rows_ld rwf_u (0) (i := i) (j := 0) (i * 1) rfl h (by decide) rfl⟩

def qkz_ (n : Nat) : Option Unit := some ()
theorem qo0_ (n : Nat) (r : Unit) (h : qkz_ n = some r) : Gv P (.func 5) [] Ax.h0 (.bool true) Ax.h0 := lives_gv

def qvf_ (a0 : Int) (a1 : Int) (a2 : Int) (a3 : Int) : List Value := [(Value.agg #[(Value.int .u64 a0), (Value.int .u64 a1), (Value.int .u64 a2), (Value.int .u64 a3)])]
def qvg_ (a0 : Int) (a1 : Int) (a2 : Int) (a3 : Int) : AH := ⟨sB [], 0, 0⟩
def qqu_ (a0 : Int) (a1 : Int) (a2 : Int) (a3 : Int) (r : Int × Int × Int × Int) : Value := match r with
 | (o0, o1, o2, o3) => (Value.agg #[(Value.int .u64 o0), (Value.int .u64 o1), (Value.int .u64 o2), (Value.int .u64 o3)])
def qqv_ (a0 : Int) (a1 : Int) (a2 : Int) (a3 : Int) (r : Int × Int × Int × Int) : AH := match r with
 | (o0, o1, o2, o3) => ⟨sB [(0, (some (.cells (layT [(Value.int .u64 o0), (Value.int .u64 o1), (Value.int .u64 o2), (Value.int .u64 o3)]) 24)))], 1, 0⟩
abbrev G_classNotq1 (a0 : Int) (a1 : Int) (a2 : Int) (a3 : Int) (r : Int × Int × Int × Int) : Prop := Gv P (.func 20) (qvf_ a0 a1 a2 a3) (qvg_ a0 a1 a2 a3) (qqu_ a0 a1 a2 a3 r) (qqv_ a0 a1 a2 a3 r)
abbrev qok_ (a0 : Int) (a1 : Int) (a2 : Int) (a3 : Int) (r : Int × Int × Int × Int) (ins outs : BL) : CallA := ⟨0, ins, qqu_ a0 a1 a2 a3 r, qqv_ a0 a1 a2 a3 r, outs⟩
def qh8_ (n : Nat) (a0 : Int) (a1 : Int) (a2 : Int) (a3 : Int) : Option (Int × Int × Int × Int) :=
 some ((bNot .u64 a0), (bNot .u64 a1), (bNot .u64 a2), (bNot .u64 a3))
theorem qmj_ (n : Nat) (a0 : Int) (a1 : Int) (a2 : Int) (a3 : Int) (r : Int × Int × Int × Int) (h : qh8_ n a0 a1 a2 a3 = some r) : Gv P (.func 20) (qvf_ a0 a1 a2 a3) (qvg_ a0 a1 a2 a3) (qqu_ a0 a1 a2 a3 r) (qqv_ a0 a1 a2 a3 r) := by
 unfold qh8_ at h
 obtain rfl := oI h
 exact runF2 hm ⟨[2], [(0, 1, false)], 1, 0, [], false, [], [], []⟩ (ee) (by kernel_rfl)

def qta_ (a0 : Int) (a1 : Int) (a2 : Int) (a3 : Int) (a4 : Int) (a5 : Int) (a6 : Int) (a7 : Int) : List Value := [(Value.agg #[(Value.int .u64 a0), (Value.int .u64 a1), (Value.int .u64 a2), (Value.int .u64 a3)]), (Value.agg #[(Value.int .u64 a4), (Value.int .u64 a5), (Value.int .u64 a6), (Value.int .u64 a7)])]
def qtb_ (a0 : Int) (a1 : Int) (a2 : Int) (a3 : Int) (a4 : Int) (a5 : Int) (a6 : Int) (a7 : Int) : AH := ⟨sB [], 0, 0⟩
def qpm_ (a0 : Int) (a1 : Int) (a2 : Int) (a3 : Int) (a4 : Int) (a5 : Int) (a6 : Int) (a7 : Int) (r : Int × Int × Int × Int) : Value := match r with
 | (o0, o1, o2, o3) => (Value.agg #[(Value.int .u64 o0), (Value.int .u64 o1), (Value.int .u64 o2), (Value.int .u64 o3)])
def qpn_ (a0 : Int) (a1 : Int) (a2 : Int) (a3 : Int) (a4 : Int) (a5 : Int) (a6 : Int) (a7 : Int) (r : Int × Int × Int × Int) : AH := match r with
 | (o0, o1, o2, o3) => ⟨sB [(0, (some (.cells (layT [(Value.int .u64 o0), (Value.int .u64 o1), (Value.int .u64 o2), (Value.int .u64 o3)]) 24)))], 1, 0⟩
abbrev G_classMeetq1 (a0 : Int) (a1 : Int) (a2 : Int) (a3 : Int) (a4 : Int) (a5 : Int) (a6 : Int) (a7 : Int) (r : Int × Int × Int × Int) : Prop := Gv P (.func 18) (qta_ a0 a1 a2 a3 a4 a5 a6 a7) (qtb_ a0 a1 a2 a3 a4 a5 a6 a7) (qpm_ a0 a1 a2 a3 a4 a5 a6 a7 r) (qpn_ a0 a1 a2 a3 a4 a5 a6 a7 r)
abbrev qk9_ (a0 : Int) (a1 : Int) (a2 : Int) (a3 : Int) (a4 : Int) (a5 : Int) (a6 : Int) (a7 : Int) (r : Int × Int × Int × Int) (ins outs : BL) : CallA := ⟨0, ins, qpm_ a0 a1 a2 a3 a4 a5 a6 a7 r, qpn_ a0 a1 a2 a3 a4 a5 a6 a7 r, outs⟩
def qgy_ (n : Nat) (a0 : Int) (a1 : Int) (a2 : Int) (a3 : Int) (a4 : Int) (a5 : Int) (a6 : Int) (a7 : Int) : Option (Int × Int × Int × Int) :=
 some ((bAnd .u64 a0 a4), (bAnd .u64 a1 a5), (bAnd .u64 a2 a6), (bAnd .u64 a3 a7))
theorem qil_ (n : Nat) (a0 : Int) (a1 : Int) (a2 : Int) (a3 : Int) (a4 : Int) (a5 : Int) (a6 : Int) (a7 : Int) (r : Int × Int × Int × Int) (h : qgy_ n a0 a1 a2 a3 a4 a5 a6 a7 = some r) : Gv P (.func 18) (qta_ a0 a1 a2 a3 a4 a5 a6 a7) (qtb_ a0 a1 a2 a3 a4 a5 a6 a7) (qpm_ a0 a1 a2 a3 a4 a5 a6 a7 r) (qpn_ a0 a1 a2 a3 a4 a5 a6 a7 r) := by
 unfold qgy_ at h
 obtain rfl := oI h
 exact runF2 hm ⟨[4], [(0, 2, false)], 1, 0, [], false, [], [], []⟩ (ee) (by kernel_rfl)

def qvh_ (a0 : List (Int × Int × Int × Int)) (a1 : Int) (a2 : Int) (a3 : Int) (a4 : Int) : List Value := [(sN 0 0 (a0).length 1), (Value.agg #[(Value.int .u64 a1), (Value.int .u64 a2), (Value.int .u64 a3), (Value.int .u64 a4)])]
def qvi_ (a0 : List (Int × Int × Int × Int)) (a1 : Int) (a2 : Int) (a3 : Int) (a4 : Int) : AH := ⟨sB [(0, (some (.cells (layT (rows rw_uuuu a0)) 24)))], 1, 1⟩
def qqw_ (a0 : List (Int × Int × Int × Int)) (a1 : Int) (a2 : Int) (a3 : Int) (a4 : Int) (r : List (Int × Int × Int × Int)) : Value := match r with
 | o0 => (sN 1 0 (o0).length (Nat.add big 4))
def qqx_ (a0 : List (Int × Int × Int × Int)) (a1 : Int) (a2 : Int) (a3 : Int) (a4 : Int) (r : List (Int × Int × Int × Int)) : AH := match r with
 | o0 => ⟨sB [(1, (some (.cells (layT (rows rw_uuuu o0)) 24)))], 2, 1⟩
abbrev G_classcutq1 (a0 : List (Int × Int × Int × Int)) (a1 : Int) (a2 : Int) (a3 : Int) (a4 : Int) (r : List (Int × Int × Int × Int)) : Prop := Gv P (.func 36) (qvh_ a0 a1 a2 a3 a4) (qvi_ a0 a1 a2 a3 a4) (qqw_ a0 a1 a2 a3 a4 r) (qqx_ a0 a1 a2 a3 a4 r)
abbrev C_classcutq1 (a0 : List (Int × Int × Int × Int)) (a1 : Int) (a2 : Int) (a3 : Int) (a4 : Int) (r : List (Int × Int × Int × Int)) (ins outs : BL) : CallA := ⟨1, ins, qqw_ a0 a1 a2 a3 a4 r, qqx_ a0 a1 a2 a3 a4 r, outs⟩
def qlk_ (x0 : List (Int × Int × Int × Int)) (x1 : Int) (x2 : Int) (x3 : Int) (x4 : Int) (x6 : Int) (x7 : Int) (x8 : Int) (x9 : Int) (x10 : Int) (x11 : Int) (x12 : Int) (x13 : Int) (x14 : Int) (x15 : Int) (st : List (Int × Int × Int × Int) × Int) : XSt := match st with
 | (x5, x16) => (sT 41 [(3, (pN 1 0)), (5, (sN 2 0 (x5).length (Nat.add big 4))), (14, (sN 0 0 (x0).length 1)), (15, (i6 x6)), (16, (i6 x7)), (27, (Value.agg #[(Value.int .u64 x8), (Value.int .u64 x9), (Value.int .u64 x10), (Value.int .u64 x11), (Value.int .u64 x12), (Value.int .u64 x13), (Value.int .u64 x14), (Value.int .u64 x15)])), (28, (i6 x16))], [], ⟨sB [(0, (some (.cells (layT (rows rw_uuuu x0)) 24))), (1, (some (.cells (layT [(Value.int .u64 x1), (Value.int .u64 x2), (Value.int .u64 x3), (Value.int .u64 x4)]) 24))), (2, (some (.cells (layT (rows rw_uuuu x5)) 24)))], 3, 1⟩)
def qll_ (x0 : List (Int × Int × Int × Int)) (x1 : Int) (x2 : Int) (x3 : Int) (x4 : Int) (x6 : Int) (x7 : Int) (x8 : Int) (x9 : Int) (x10 : Int) (x11 : Int) (x12 : Int) (x13 : Int) (x14 : Int) (x15 : Int) (r : List (Int × Int × Int × Int)) : Ex × XSt := match r with
 | z0 => (.exit 2, (sT 41 [(3, (pN 1 0)), (5, (sN 2 0 (z0).length (Nat.add big 4))), (14, (sN 0 0 (x0).length 1)), (15, (i6 x6)), (16, (i6 x7))], [], ⟨sB [(0, (some (.cells (layT (rows rw_uuuu x0)) 24))), (1, (some (.cells (layT [(Value.int .u64 x1), (Value.int .u64 x2), (Value.int .u64 x3), (Value.int .u64 x4)]) 24))), (2, (some (.cells (layT (rows rw_uuuu z0)) 24)))], 3, 1⟩))
abbrev Q_classcutq1_2 (rnd : Option Nat) (x0 : List (Int × Int × Int × Int)) (x1 : Int) (x2 : Int) (x3 : Int) (x4 : Int) (x6 : Int) (x7 : Int) (x8 : Int) (x9 : Int) (x10 : Int) (x11 : Int) (x12 : Int) (x13 : Int) (x14 : Int) (x15 : Int) (st : List (Int × Int × Int × Int) × Int) (c : Ex × XSt) : Prop := CG P rnd (fnN P 36) 1 (qt_ P 36 [false, false, true, true, false, false, true, true, false, false, true, false, true, true]) (qlk_ x0 x1 x2 x3 x4 x6 x7 x8 x9 x10 x11 x12 x13 x14 x15 st) c
def qmy_ (n : Nat) (x0 : List (Int × Int × Int × Int)) (x1 : Int) (x2 : Int) (x3 : Int) (x4 : Int) (x6 : Int) (x7 : Int) (x8 : Int) (x9 : Int) (x10 : Int) (x11 : Int) (x12 : Int) (x13 : Int) (x14 : Int) (x15 : Int) (st : List (Int × Int × Int × Int) × Int) : Option ((List (Int × Int × Int × Int) × Int) ⊕ (List (Int × Int × Int × Int))) := match st with
 | (x5, x16) =>
  if x16 < 2 then
   if 0 ≤ x16 ∧ x16 < ((2 : Nat) : Int) then
    if (!((([x8, x12].getD (x16).toNat 0) == 0) && ((([x9, x13].getD (x16).toNat 0) == 0) && ((([x10, x14].getD (x16).toNat 0) == 0) && ((([x11, x15].getD (x16).toNat 0) == 0) && true))))) = true then
     if ((x5).length + 1) * 32 ≤ 140737488355328 then
      some (.inl ((x5 ++ [(([x8, x12].getD (x16).toNat 0), ([x9, x13].getD (x16).toNat 0), ([x10, x14].getD (x16).toNat 0), ([x11, x15].getD (x16).toNat 0))]), (w64 (x16 + 1))))
     else none
    else
     some (.inl (x5, (w64 (x16 + 1))))
   else none
  else
   some (.inr x5)
def qry_ (n : Nat) (x0 : List (Int × Int × Int × Int)) (x1 : Int) (x2 : Int) (x3 : Int) (x4 : Int) (x6 : Int) (x7 : Int) (x8 : Int) (x9 : Int) (x10 : Int) (x11 : Int) (x12 : Int) (x13 : Int) (x14 : Int) (x15 : Int) (st : List (Int × Int × Int × Int) × Int) : Option (List (Int × Int × Int × Int)) := iterM (qmy_ n x0 x1 x2 x3 x4 x6 x7 x8 x9 x10 x11 x12 x13 x14 x15) n st
theorem qrz_ (n : Nat) {rnd : Option Nat} (x0 : List (Int × Int × Int × Int)) (x1 : Int) (x2 : Int) (x3 : Int) (x4 : Int) (x6 : Int) (x7 : Int) (x8 : Int) (x9 : Int) (x10 : Int) (x11 : Int) (x12 : Int) (x13 : Int) (x14 : Int) (x15 : Int) (st : List (Int × Int × Int × Int) × Int) (o : (List (Int × Int × Int × Int) × Int) ⊕ (List (Int × Int × Int × Int))) (h : qmy_ n x0 x1 x2 x3 x4 x6 x7 x8 x9 x10 x11 x12 x13 x14 x15 st = some o) : CG P rnd (fnN P 36) 1 (qt_ P 36 [false, false, true, true, false, false, true, true, false, false, true, false, true, true]) (qlk_ x0 x1 x2 x3 x4 x6 x7 x8 x9 x10 x11 x12 x13 x14 x15 st) (Sum.elim (fun s => (.normal, qlk_ x0 x1 x2 x3 x4 x6 x7 x8 x9 x10 x11 x12 x13 x14 x15 s)) (fun r => qll_ x0 x1 x2 x3 x4 x6 x7 x8 x9 x10 x11 x12 x13 x14 x15 r) o) := by
 obtain ⟨x5, x16⟩ := st
 unfold qmy_ at h
 dsimp only at h
 by_cases hy1 : x16 < 2
 ·rw [if_pos hy1] at h
  obtain ⟨hy2, h⟩ := gd h
  have k0 := fun {A L l} (k : PL A L l) => zz 1 (xdT hy1) <|
   yy 7 (.pur (Value.agg #[(Value.int .u64 ([x8, x12].getD (x16).toNat 0)), (Value.int .u64 ([x9, x13].getD (x16).toNat 0)), (Value.int .u64 ([x10, x14].getD (x16).toNat 0)), (Value.int .u64 ([x11, x15].getD (x16).toNat 0))])) <|
   ww (p := qnl_ P 56 (Value.agg #[(Value.int .u64 x8), (Value.int .u64 x9), (Value.int .u64 x10), (Value.int .u64 x11), (Value.int .u64 x12), (Value.int .u64 x13), (Value.int .u64 x14), (Value.int .u64 x15)]) (i6 x16) Ax.h0 = some ((Value.agg #[(Value.int .u64 ([x8, x12].getD (x16).toNat 0)), (Value.int .u64 ([x9, x13].getD (x16).toNat 0)), (Value.int .u64 ([x10, x14].getD (x16).toNat 0)), (Value.int .u64 ([x11, x15].getD (x16).toNat 0))]), Ax.h0)) (ixA2 (fun j => (Value.agg #[(Value.int .u64 ([x8, x12].getD j 0)), (Value.int .u64 ([x9, x13].getD j 0)), (Value.int .u64 ([x10, x14].getD j 0)), (Value.int .u64 ([x11, x15].getD j 0))])) hy2 (by kernel_rfl) (by kernel_rfl)) <|
   k
  by_cases hy3 : (!((([x8, x12].getD (x16).toNat 0) == 0) && ((([x9, x13].getD (x16).toNat 0) == 0) && ((([x10, x14].getD (x16).toNat 0) == 0) && ((([x11, x15].getD (x16).toNat 0) == 0) && true))))) = true
  ·rw [if_pos hy3] at h
   obtain ⟨hy4, h⟩ := gd h
   obtain rfl := oI h
   exact runC2 hm ⟨[3, 5, 14, 15, 16, 27, 28], [(0, 0, true), (1, 1, false), (2, 5, true)], 3, 1, [], false, [], [], []⟩ (k0 <|
    zz 14 (xbT hy3) <|
    yy 18 (.app ⟨none, rows rw_uuuu x5, (rows rw_uuuu (x5 ++ [(([x8, x12].getD (x16).toNat 0), ([x9, x13].getD (x16).toNat 0), ([x10, x14].getD (x16).toNat 0), ([x11, x15].getD (x16).toNat 0))])), ((x5 ++ [(([x8, x12].getD (x16).toNat 0), ([x9, x13].getD (x16).toNat 0), ([x10, x14].getD (x16).toNat 0), ([x11, x15].getD (x16).toNat 0))])).length, false⟩) <|
    ww (p := 0 < 1) ((by decide)) <|
    ww (p := rdT (layT (rows rw_uuuu x5)) (Nat.mul (x5).length 4) 0 = some (rows rw_uuuu x5)) (rows_rd rwf_uuuu _ _ rfl) <|
    ww (p := fits (Nat.add (x5).length 1) 32 = true) (fits_ok hy4 (by have := hy4; show (_ : Nat) + _ ≤ _; omega)) <|
    ww (p := qg2_ [(Value.int .u64 ([x8, x12].getD (x16).toNat 0)), (Value.int .u64 ([x9, x13].getD (x16).toNat 0)), (Value.int .u64 ([x10, x14].getD (x16).toNat 0)), (Value.int .u64 ([x11, x15].getD (x16).toNat 0))] = true) (rfl) <|
    ww (p := qg2_ (rows rw_uuuu x5) = true) (qvd_ rwf_uuuu _) <|
    ww (p := rows rw_uuuu x5 ++ [(Value.int .u64 ([x8, x12].getD (x16).toNat 0)), (Value.int .u64 ([x9, x13].getD (x16).toNat 0)), (Value.int .u64 ([x10, x14].getD (x16).toNat 0)), (Value.int .u64 ([x11, x15].getD (x16).toNat 0))] = (rows rw_uuuu (x5 ++ [(([x8, x12].getD (x16).toNat 0), ([x9, x13].getD (x16).toNat 0), ([x10, x14].getD (x16).toNat 0), ([x11, x15].getD (x16).toNat 0))]))) (rows_app rw_uuuu x5 [(([x8, x12].getD (x16).toNat 0), ([x9, x13].getD (x16).toNat 0), ([x10, x14].getD (x16).toNat 0), ([x11, x15].getD (x16).toNat 0))]) <|
    ww (p := Nat.add (x5).length 1 = ((x5 ++ [(([x8, x12].getD (x16).toNat 0), ([x9, x13].getD (x16).toNat 0), ([x10, x14].getD (x16).toNat 0), ([x11, x15].getD (x16).toNat 0))])).length) (by simp) <|
    ww (qa_ rwf_uuuu x0 24) <|
    ww (qa_ rwf_uuuu (x5 ++ [(([x8, x12].getD (x16).toNat 0), ([x9, x13].getD (x16).toNat 0), ([x10, x14].getD (x16).toNat 0), ([x11, x15].getD (x16).toNat 0))]) 24) <|
    ee) (by kernel_rfl)
  ·rw [if_neg hy3] at h
   obtain rfl := oI h
   exact runC2 hm ⟨[3, 5, 14, 15, 16, 27, 28], [(0, 0, true), (1, 1, false), (2, 2, true)], 3, 1, [], false, [], [], []⟩ (k0 <|
    zz 14 (xbF hy3) <|
    ww (qa_ rwf_uuuu x0 24) <|
    ww (qa_ rwf_uuuu x5 24) <|
    ee) (by kernel_rfl)
 ·rw [if_neg hy1] at h
  obtain rfl := oI h
  exact runC2 hm ⟨[3, 5, 14, 15, 16], [(0, 0, true), (1, 1, false), (2, 2, true)], 3, 1, [], false, [], [], []⟩ (zz 1 (xdF hy1) <|
   ww (qa_ rwf_uuuu x0 24) <|
   ww (qa_ rwf_uuuu x5 24) <|
   ee) (by kernel_rfl)
theorem qtq_ (n : Nat) {rnd : Option Nat} (x0 : List (Int × Int × Int × Int)) (x1 : Int) (x2 : Int) (x3 : Int) (x4 : Int) (x6 : Int) (x7 : Int) (x8 : Int) (x9 : Int) (x10 : Int) (x11 : Int) (x12 : Int) (x13 : Int) (x14 : Int) (x15 : Int) (st : List (Int × Int × Int × Int) × Int) (r : List (Int × Int × Int × Int)) (h : qry_ n x0 x1 x2 x3 x4 x6 x7 x8 x9 x10 x11 x12 x13 x14 x15 st = some r) : CG P rnd (fnN P 36) 1 (qt_ P 36 [false, true, true, false, false, true, true, false, false, true, false, true, true]) (qlk_ x0 x1 x2 x3 x4 x6 x7 x8 x9 x10 x11 x12 x13 x14 x15 st) (qll_ x0 x1 x2 x3 x4 x6 x7 x8 x9 x10 x11 x12 x13 x14 x15 r) :=
 CG.iter (b := qt_ P 36 [false, false, true, true, false, false, true, true, false, false, true, false, true, true]) (by kernel_rfl) (body := qmy_ n x0 x1 x2 x3 x4 x6 x7 x8 x9 x10 x11 x12 x13 x14 x15) (S := qlk_ x0 x1 x2 x3 x4 x6 x7 x8 x9 x10 x11 x12 x13 x14 x15) (X := qll_ x0 x1 x2 x3 x4 x6 x7 x8 x9 x10 x11 x12 x13 x14 x15)
  (fun s s' h => qrz_ n x0 x1 x2 x3 x4 x6 x7 x8 x9 x10 x11 x12 x13 x14 x15 s (.inl s') h)
  (fun s r h => qrz_ n x0 x1 x2 x3 x4 x6 x7 x8 x9 x10 x11 x12 x13 x14 x15 s (.inr r) h)
  (fun r => by intro hx; cases hx) h
def qlm_ (x0 : List (Int × Int × Int × Int)) (x1 : Int) (x2 : Int) (x3 : Int) (x4 : Int) (x6 : Int) (st : List (Int × Int × Int × Int) × Int) : XSt := match st with
 | (x5, x7) => (sT 41 [(3, (pN 1 0)), (5, (sN 2 0 (x5).length (Nat.add big 4))), (14, (sN 0 0 (x0).length 1)), (15, (i6 x6)), (16, (i6 x7))], [], ⟨sB [(0, (some (.cells (layT (rows rw_uuuu x0)) 24))), (1, (some (.cells (layT [(Value.int .u64 x1), (Value.int .u64 x2), (Value.int .u64 x3), (Value.int .u64 x4)]) 24))), (2, (some (.cells (layT (rows rw_uuuu x5)) 24)))], 3, 1⟩)
def qln_ (x0 : List (Int × Int × Int × Int)) (x1 : Int) (x2 : Int) (x3 : Int) (x4 : Int) (x6 : Int) (r : List (Int × Int × Int × Int)) : Ex × XSt := match r with
 | z0 => (.exit 0, (sT 41 [(5, (sN 1 0 (z0).length (Nat.add big 4)))], [], ⟨sB [(0, (some (.cells (layT (rows rw_uuuu x0)) 24))), (1, (some (.cells (layT (rows rw_uuuu z0)) 24)))], 2, 1⟩))
abbrev Q_classcutq1_1 (rnd : Option Nat) (x0 : List (Int × Int × Int × Int)) (x1 : Int) (x2 : Int) (x3 : Int) (x4 : Int) (x6 : Int) (st : List (Int × Int × Int × Int) × Int) (c : Ex × XSt) : Prop := CG P rnd (fnN P 36) 1 (qt_ P 36 [false, false, true, false, true, true]) (qlm_ x0 x1 x2 x3 x4 x6 st) c
def qmz_ (n : Nat) (x0 : List (Int × Int × Int × Int)) (x1 : Int) (x2 : Int) (x3 : Int) (x4 : Int) (x6 : Int) (st : List (Int × Int × Int × Int) × Int) : Option ((List (Int × Int × Int × Int) × Int) ⊕ (List (Int × Int × Int × Int))) := match st with
 | (x5, x7) =>
  if x7 < x6 then
   if 0 ≤ x7 ∧ x7 < (((x0).length : Nat) : Int) then
    ((some ((x0).getD (x7).toNat (0, 0, 0, 0)))).bind fun y3_ =>
    (qgy_ n (y3_.1) (y3_.2.1) (y3_.2.2.1) (y3_.2.2.2) x1 x2 x3 x4).bind fun t => match t with
    | (y4_0, y4_1, y4_2, y4_3) =>
     (qh8_ n x1 x2 x3 x4).bind fun t => match t with
     | (y5_0, y5_1, y5_2, y5_3) =>
      (qgy_ n (y3_.1) (y3_.2.1) (y3_.2.2.1) (y3_.2.2.2) y5_0 y5_1 y5_2 y5_3).bind fun t => match t with
      | (y6_0, y6_1, y6_2, y6_3) =>
       (qry_ n x0 x1 x2 x3 x4 x6 x7 y4_0 y4_1 y4_2 y4_3 y6_0 y6_1 y6_2 y6_3 (x5, 0)).bind fun y7_ =>
       some (.inl (y7_, (w64 (x7 + 1))))
   else none
  else
   some (.inr x5)
def qr0_ (n : Nat) (x0 : List (Int × Int × Int × Int)) (x1 : Int) (x2 : Int) (x3 : Int) (x4 : Int) (x6 : Int) (st : List (Int × Int × Int × Int) × Int) : Option (List (Int × Int × Int × Int)) := iterM (qmz_ n x0 x1 x2 x3 x4 x6) n st
theorem qr1_ (n : Nat) {rnd : Option Nat} (x0 : List (Int × Int × Int × Int)) (x1 : Int) (x2 : Int) (x3 : Int) (x4 : Int) (x6 : Int) (st : List (Int × Int × Int × Int) × Int) (o : (List (Int × Int × Int × Int) × Int) ⊕ (List (Int × Int × Int × Int))) (h : qmz_ n x0 x1 x2 x3 x4 x6 st = some o) : CG P rnd (fnN P 36) 1 (qt_ P 36 [false, false, true, false, true, true]) (qlm_ x0 x1 x2 x3 x4 x6 st) (Sum.elim (fun s => (.normal, qlm_ x0 x1 x2 x3 x4 x6 s)) (fun r => qln_ x0 x1 x2 x3 x4 x6 r) o) := by
 obtain ⟨x5, x7⟩ := st
 unfold qmz_ at h
 dsimp only at h
 by_cases hy1 : x7 < x6
 ·rw [if_pos hy1] at h
  obtain ⟨hy2, h⟩ := gd h
  obtain ⟨y3_, hy3, h⟩ := oB h
  obtain ⟨⟨y4_0, y4_1, y4_2, y4_3⟩, hy4, h⟩ := oB h
  dsimp only at h
  obtain ⟨⟨y5_0, y5_1, y5_2, y5_3⟩, hy5, h⟩ := oB h
  dsimp only at h
  obtain ⟨⟨y6_0, y6_1, y6_2, y6_3⟩, hy6, h⟩ := oB h
  dsimp only at h
  obtain ⟨y7_, hy7, h⟩ := oB h
  obtain rfl := oI h
  exact runC2 hm ⟨[3, 5, 14, 15, 16], [(0, 0, true), (1, 1, false), (2, 2, true)], 3, 1, [], false, [], [], []⟩ (zz 1 (xdT hy1) <|
   zz 7 (xk3 0 1 hy2) <|
   yy 8 (.ld (Value.agg #[(Value.int .u64 (y3_.1)), (Value.int .u64 (y3_.2.1)), (Value.int .u64 (y3_.2.2.1)), (Value.int .u64 (y3_.2.2.2))])) <|
   ww (p := rdT (layT (rows rw_uuuu x0)) 4 ((x7).toNat * 4) = some [(Value.int .u64 (y3_.1)), (Value.int .u64 (y3_.2.1)), (Value.int .u64 (y3_.2.2.1)), (Value.int .u64 (y3_.2.2.2))]) (qn_ rwf_uuuu (0, 0, 0, 0) (hr := hy3) (i := (x7).toNat) (j := 0) ((x7).toNat * 4) rfl (qvb_ hy2) (by decide) rfl) <|
   yy 14 (.call (qk9_ (y3_.1) (y3_.2.1) (y3_.2.2.1) (y3_.2.2.2) x1 x2 x3 x4 (y4_0, y4_1, y4_2, y4_3) [] [(4, 0, false)])) <|
   ww (qil_ n (y3_.1) (y3_.2.1) (y3_.2.2.1) (y3_.2.2.2) x1 x2 x3 x4 (y4_0, y4_1, y4_2, y4_3) hy4) <|
   yy 17 (.call (qok_ x1 x2 x3 x4 (y5_0, y5_1, y5_2, y5_3) [] [(5, 0, false)])) <|
   ww (qmj_ n x1 x2 x3 x4 (y5_0, y5_1, y5_2, y5_3) hy5) <|
   yy 18 (.call (qk9_ (y3_.1) (y3_.2.1) (y3_.2.2.1) (y3_.2.2.2) y5_0 y5_1 y5_2 y5_3 (y6_0, y6_1, y6_2, y6_3) [] [(6, 0, false)])) <|
   ww (qil_ n (y3_.1) (y3_.2.1) (y3_.2.2.1) (y3_.2.2.2) y5_0 y5_1 y5_2 y5_3 (y6_0, y6_1, y6_2, y6_3) hy6) <|
   ww (qtq_ n (rnd := rnd) x0 x1 x2 x3 x4 x6 x7 y4_0 y4_1 y4_2 y4_3 y6_0 y6_1 y6_2 y6_3 (x5, 0) y7_ hy7) <|
   ww (qa_ rwf_uuuu x0 24) <|
   ww (qa_ rwf_uuuu x5 24) <|
   ll 22 ⟨⟨[3, 5, 14, 15, 16, 27, 28], [(0, 0, true), (1, 1, false), (2, 2, true)], 3, 1, [], false, [], [], []⟩, (qll_ x0 x1 x2 x3 x4 x6 x7 y4_0 y4_1 y4_2 y4_3 y6_0 y6_1 y6_2 y6_3 y7_).1, (qll_ x0 x1 x2 x3 x4 x6 x7 y4_0 y4_1 y4_2 y4_3 y6_0 y6_1 y6_2 y6_3 y7_).2⟩ <|
   ww (qa_ rwf_uuuu x0 24) <|
   ww (qa_ rwf_uuuu y7_ 24) <|
   ee) (by kernel_rfl)
 ·rw [if_neg hy1] at h
  obtain rfl := oI h
  exact runC2 hm ⟨[5], [(0, 0, true), (1, 2, true)], 2, 1, [], false, [], [], []⟩ (zz 1 (xdF hy1) <|
   ww (qa_ rwf_uuuu x0 24) <|
   ww (qa_ rwf_uuuu x5 24) <|
   ee) (by kernel_rfl)
theorem qtr_ (n : Nat) {rnd : Option Nat} (x0 : List (Int × Int × Int × Int)) (x1 : Int) (x2 : Int) (x3 : Int) (x4 : Int) (x6 : Int) (st : List (Int × Int × Int × Int) × Int) (r : List (Int × Int × Int × Int)) (h : qr0_ n x0 x1 x2 x3 x4 x6 st = some r) : CG P rnd (fnN P 36) 1 (qt_ P 36 [false, true, false, true, true]) (qlm_ x0 x1 x2 x3 x4 x6 st) (qln_ x0 x1 x2 x3 x4 x6 r) :=
 CG.iter (b := qt_ P 36 [false, false, true, false, true, true]) (by kernel_rfl) (body := qmz_ n x0 x1 x2 x3 x4 x6) (S := qlm_ x0 x1 x2 x3 x4 x6) (X := qln_ x0 x1 x2 x3 x4 x6)
  (fun s s' h => qr1_ n x0 x1 x2 x3 x4 x6 s (.inl s') h)
  (fun s r h => qr1_ n x0 x1 x2 x3 x4 x6 s (.inr r) h)
  (fun r => by intro hx; cases hx) h
def qvj_ (n : Nat) (a0 : List (Int × Int × Int × Int)) (a1 : Int) (a2 : Int) (a3 : Int) (a4 : Int) : Option (List (Int × Int × Int × Int)) :=
 ((some (w64 ((((a0).length : Nat) : Int) + 1)))).bind fun c1_ =>
 if 0 ≤ c1_ then
  if (c1_).toNat * 32 ≤ 140737488355328 then
   (qr0_ n a0 a1 a2 a3 a4 (((a0).length : Nat) : Int) ([], 0)).bind fun c4_ =>
   some c4_
  else none
 else none
theorem m_classcutq1_ok (n : Nat) (a0 : List (Int × Int × Int × Int)) (a1 : Int) (a2 : Int) (a3 : Int) (a4 : Int) (r : List (Int × Int × Int × Int)) (h : qvj_ n a0 a1 a2 a3 a4 = some r) : Gv P (.func 36) (qvh_ a0 a1 a2 a3 a4) (qvi_ a0 a1 a2 a3 a4) (qqw_ a0 a1 a2 a3 a4 r) (qqx_ a0 a1 a2 a3 a4 r) := by
 unfold qvj_ at h
 obtain ⟨c1_, hc1, h⟩ := oB h
 obtain ⟨hc2, h⟩ := gd h
 obtain ⟨hc3, h⟩ := gd h
 obtain ⟨c4_, hc4, h⟩ := oB h
 obtain rfl := oI h
 exact runF2 hm ⟨[4], [(1, 1, true)], 2, 1, [], false, [], [], []⟩ (zz 6 (xnm hc1) <|
  yy 7 (.mk (c1_).toNat []) <|
  ww (p := natOf (i6 c1_) = some (c1_).toNat) (qwo_ hc2) <|
  ww (p := fits (c1_).toNat 32 = true) (fits_ok hc3 (by omega)) <|
  ww (qtr_ n (rnd := none) a0 a1 a2 a3 a4 (((a0).length : Nat) : Int) ([], 0) c4_ hc4) <|
  ww (qa_ rwf_uuuu a0 24) <|
  ll 15 ⟨⟨[3, 5, 14, 15, 16], [(0, 0, true), (1, 1, false), (2, 2, false)], 3, 1, [], false, [], [], []⟩, (qln_ a0 a1 a2 a3 a4 (((a0).length : Nat) : Int) c4_).1, (qln_ a0 a1 a2 a3 a4 (((a0).length : Nat) : Int) c4_).2⟩ <|
  ww (qa_ rwf_uuuu c4_ 24) <|
  ee) (by kernel_rfl)

def qvk_ (a0 : List (Int × Int × Int × Int)) (a1 : Nat) (a2 : Int) (a3 : Int) (a4 : Int) (a5 : Int) : List Value := [(sN 0 0 (a0).length a1), (Value.agg #[(Value.int .u64 a2), (Value.int .u64 a3), (Value.int .u64 a4), (Value.int .u64 a5)])]
def qvl_ (a0 : List (Int × Int × Int × Int)) (a1 : Nat) (a2 : Int) (a3 : Int) (a4 : Int) (a5 : Int) : AH := ⟨sB [(0, (some (.cells (layT (rows rw_uuuu a0)) 24)))], 1, 1⟩
def qqy_ (a0 : List (Int × Int × Int × Int)) (a1 : Nat) (a2 : Int) (a3 : Int) (a4 : Int) (a5 : Int) (r : List (Int × Int × Int × Int)) : Value := match r with
 | o0 => (sN 1 0 (o0).length (Nat.add big 4))
def qqz_ (a0 : List (Int × Int × Int × Int)) (a1 : Nat) (a2 : Int) (a3 : Int) (a4 : Int) (a5 : Int) (r : List (Int × Int × Int × Int)) : AH := match r with
 | o0 => ⟨sB [(1, (some (.cells (layT (rows rw_uuuu o0)) 24)))], 2, 1⟩
abbrev G_classcutq2 (a0 : List (Int × Int × Int × Int)) (a1 : Nat) (a2 : Int) (a3 : Int) (a4 : Int) (a5 : Int) (r : List (Int × Int × Int × Int)) : Prop := Gv P (.func 36) (qvk_ a0 a1 a2 a3 a4 a5) (qvl_ a0 a1 a2 a3 a4 a5) (qqy_ a0 a1 a2 a3 a4 a5 r) (qqz_ a0 a1 a2 a3 a4 a5 r)
abbrev C_classcutq2 (a0 : List (Int × Int × Int × Int)) (a1 : Nat) (a2 : Int) (a3 : Int) (a4 : Int) (a5 : Int) (r : List (Int × Int × Int × Int)) (ins outs : BL) : CallA := ⟨1, ins, qqy_ a0 a1 a2 a3 a4 a5 r, qqz_ a0 a1 a2 a3 a4 a5 r, outs⟩
def qlo_ (x0 : List (Int × Int × Int × Int)) (x1 : Int) (x2 : Int) (x3 : Int) (x4 : Int) (x6 : Nat) (x7 : Int) (x8 : Int) (x9 : Int) (x10 : Int) (x11 : Int) (x12 : Int) (x13 : Int) (x14 : Int) (x15 : Int) (x16 : Int) (st : List (Int × Int × Int × Int) × Int) : XSt := match st with
 | (x5, x17) => (sT 41 [(3, (pN 1 0)), (5, (sN 2 0 (x5).length (Nat.add big 4))), (14, (sN 0 0 (x0).length x6)), (15, (i6 x7)), (16, (i6 x8)), (27, (Value.agg #[(Value.int .u64 x9), (Value.int .u64 x10), (Value.int .u64 x11), (Value.int .u64 x12), (Value.int .u64 x13), (Value.int .u64 x14), (Value.int .u64 x15), (Value.int .u64 x16)])), (28, (i6 x17))], [], ⟨sB [(0, (some (.cells (layT (rows rw_uuuu x0)) 24))), (1, (some (.cells (layT [(Value.int .u64 x1), (Value.int .u64 x2), (Value.int .u64 x3), (Value.int .u64 x4)]) 24))), (2, (some (.cells (layT (rows rw_uuuu x5)) 24)))], 3, 1⟩)
def qlp_ (x0 : List (Int × Int × Int × Int)) (x1 : Int) (x2 : Int) (x3 : Int) (x4 : Int) (x6 : Nat) (x7 : Int) (x8 : Int) (x9 : Int) (x10 : Int) (x11 : Int) (x12 : Int) (x13 : Int) (x14 : Int) (x15 : Int) (x16 : Int) (r : List (Int × Int × Int × Int)) : Ex × XSt := match r with
 | z0 => (.exit 2, (sT 41 [(3, (pN 1 0)), (5, (sN 2 0 (z0).length (Nat.add big 4))), (14, (sN 0 0 (x0).length x6)), (15, (i6 x7)), (16, (i6 x8))], [], ⟨sB [(0, (some (.cells (layT (rows rw_uuuu x0)) 24))), (1, (some (.cells (layT [(Value.int .u64 x1), (Value.int .u64 x2), (Value.int .u64 x3), (Value.int .u64 x4)]) 24))), (2, (some (.cells (layT (rows rw_uuuu z0)) 24)))], 3, 1⟩))
abbrev Q_classcutq2_2 (rnd : Option Nat) (x0 : List (Int × Int × Int × Int)) (x1 : Int) (x2 : Int) (x3 : Int) (x4 : Int) (x6 : Nat) (x7 : Int) (x8 : Int) (x9 : Int) (x10 : Int) (x11 : Int) (x12 : Int) (x13 : Int) (x14 : Int) (x15 : Int) (x16 : Int) (st : List (Int × Int × Int × Int) × Int) (c : Ex × XSt) : Prop := CG P rnd (fnN P 36) 1 (qt_ P 36 [false, false, true, true, false, false, true, true, false, false, true, false, true, true]) (qlo_ x0 x1 x2 x3 x4 x6 x7 x8 x9 x10 x11 x12 x13 x14 x15 x16 st) c
def qhr_ (n : Nat) (x0 : List (Int × Int × Int × Int)) (x1 : Int) (x2 : Int) (x3 : Int) (x4 : Int) (x6 : Nat) (x7 : Int) (x8 : Int) (x9 : Int) (x10 : Int) (x11 : Int) (x12 : Int) (x13 : Int) (x14 : Int) (x15 : Int) (x16 : Int) (st : List (Int × Int × Int × Int) × Int) : Option ((List (Int × Int × Int × Int) × Int) ⊕ (List (Int × Int × Int × Int))) := match st with
 | (x5, x17) =>
  if x17 < 2 then
   if 0 ≤ x17 ∧ x17 < ((2 : Nat) : Int) then
    if (!((([x9, x13].getD (x17).toNat 0) == 0) && ((([x10, x14].getD (x17).toNat 0) == 0) && ((([x11, x15].getD (x17).toNat 0) == 0) && ((([x12, x16].getD (x17).toNat 0) == 0) && true))))) = true then
     if ((x5).length + 1) * 32 ≤ 140737488355328 then
      some (.inl ((x5 ++ [(([x9, x13].getD (x17).toNat 0), ([x10, x14].getD (x17).toNat 0), ([x11, x15].getD (x17).toNat 0), ([x12, x16].getD (x17).toNat 0))]), (w64 (x17 + 1))))
     else none
    else
     some (.inl (x5, (w64 (x17 + 1))))
   else none
  else
   some (.inr x5)
def qm0_ (n : Nat) (x0 : List (Int × Int × Int × Int)) (x1 : Int) (x2 : Int) (x3 : Int) (x4 : Int) (x6 : Nat) (x7 : Int) (x8 : Int) (x9 : Int) (x10 : Int) (x11 : Int) (x12 : Int) (x13 : Int) (x14 : Int) (x15 : Int) (x16 : Int) (st : List (Int × Int × Int × Int) × Int) : Option (List (Int × Int × Int × Int)) := iterM (qhr_ n x0 x1 x2 x3 x4 x6 x7 x8 x9 x10 x11 x12 x13 x14 x15 x16) n st
theorem qr2_ (n : Nat) {rnd : Option Nat} (x0 : List (Int × Int × Int × Int)) (x1 : Int) (x2 : Int) (x3 : Int) (x4 : Int) (x6 : Nat) (x7 : Int) (x8 : Int) (x9 : Int) (x10 : Int) (x11 : Int) (x12 : Int) (x13 : Int) (x14 : Int) (x15 : Int) (x16 : Int) (st : List (Int × Int × Int × Int) × Int) (o : (List (Int × Int × Int × Int) × Int) ⊕ (List (Int × Int × Int × Int))) (h : qhr_ n x0 x1 x2 x3 x4 x6 x7 x8 x9 x10 x11 x12 x13 x14 x15 x16 st = some o) : CG P rnd (fnN P 36) 1 (qt_ P 36 [false, false, true, true, false, false, true, true, false, false, true, false, true, true]) (qlo_ x0 x1 x2 x3 x4 x6 x7 x8 x9 x10 x11 x12 x13 x14 x15 x16 st) (Sum.elim (fun s => (.normal, qlo_ x0 x1 x2 x3 x4 x6 x7 x8 x9 x10 x11 x12 x13 x14 x15 x16 s)) (fun r => qlp_ x0 x1 x2 x3 x4 x6 x7 x8 x9 x10 x11 x12 x13 x14 x15 x16 r) o) := by
 obtain ⟨x5, x17⟩ := st
 unfold qhr_ at h
 dsimp only at h
 by_cases hy1 : x17 < 2
 ·rw [if_pos hy1] at h
  obtain ⟨hy2, h⟩ := gd h
  have k0 := fun {A L l} (k : PL A L l) => zz 1 (xdT hy1) <|
   yy 7 (.pur (Value.agg #[(Value.int .u64 ([x9, x13].getD (x17).toNat 0)), (Value.int .u64 ([x10, x14].getD (x17).toNat 0)), (Value.int .u64 ([x11, x15].getD (x17).toNat 0)), (Value.int .u64 ([x12, x16].getD (x17).toNat 0))])) <|
   ww (p := qnl_ P 56 (Value.agg #[(Value.int .u64 x9), (Value.int .u64 x10), (Value.int .u64 x11), (Value.int .u64 x12), (Value.int .u64 x13), (Value.int .u64 x14), (Value.int .u64 x15), (Value.int .u64 x16)]) (i6 x17) Ax.h0 = some ((Value.agg #[(Value.int .u64 ([x9, x13].getD (x17).toNat 0)), (Value.int .u64 ([x10, x14].getD (x17).toNat 0)), (Value.int .u64 ([x11, x15].getD (x17).toNat 0)), (Value.int .u64 ([x12, x16].getD (x17).toNat 0))]), Ax.h0)) (ixA2 (fun j => (Value.agg #[(Value.int .u64 ([x9, x13].getD j 0)), (Value.int .u64 ([x10, x14].getD j 0)), (Value.int .u64 ([x11, x15].getD j 0)), (Value.int .u64 ([x12, x16].getD j 0))])) hy2 (by kernel_rfl) (by kernel_rfl)) <|
   k
  by_cases hy3 : (!((([x9, x13].getD (x17).toNat 0) == 0) && ((([x10, x14].getD (x17).toNat 0) == 0) && ((([x11, x15].getD (x17).toNat 0) == 0) && ((([x12, x16].getD (x17).toNat 0) == 0) && true))))) = true
  ·rw [if_pos hy3] at h
   obtain ⟨hy4, h⟩ := gd h
   obtain rfl := oI h
   exact runC2 hm ⟨[3, 5, 14, 15, 16, 27, 28], [(0, 0, true), (1, 1, false), (2, 5, true)], 3, 1, [], false, [], [], []⟩ (k0 <|
    zz 14 (xbT hy3) <|
    yy 18 (.app ⟨none, rows rw_uuuu x5, (rows rw_uuuu (x5 ++ [(([x9, x13].getD (x17).toNat 0), ([x10, x14].getD (x17).toNat 0), ([x11, x15].getD (x17).toNat 0), ([x12, x16].getD (x17).toNat 0))])), ((x5 ++ [(([x9, x13].getD (x17).toNat 0), ([x10, x14].getD (x17).toNat 0), ([x11, x15].getD (x17).toNat 0), ([x12, x16].getD (x17).toNat 0))])).length, false⟩) <|
    ww (p := 0 < 1) ((by decide)) <|
    ww (p := rdT (layT (rows rw_uuuu x5)) (Nat.mul (x5).length 4) 0 = some (rows rw_uuuu x5)) (rows_rd rwf_uuuu _ _ rfl) <|
    ww (p := fits (Nat.add (x5).length 1) 32 = true) (fits_ok hy4 (by have := hy4; show (_ : Nat) + _ ≤ _; omega)) <|
    ww (p := qg2_ [(Value.int .u64 ([x9, x13].getD (x17).toNat 0)), (Value.int .u64 ([x10, x14].getD (x17).toNat 0)), (Value.int .u64 ([x11, x15].getD (x17).toNat 0)), (Value.int .u64 ([x12, x16].getD (x17).toNat 0))] = true) (rfl) <|
    ww (p := qg2_ (rows rw_uuuu x5) = true) (qvd_ rwf_uuuu _) <|
    ww (p := rows rw_uuuu x5 ++ [(Value.int .u64 ([x9, x13].getD (x17).toNat 0)), (Value.int .u64 ([x10, x14].getD (x17).toNat 0)), (Value.int .u64 ([x11, x15].getD (x17).toNat 0)), (Value.int .u64 ([x12, x16].getD (x17).toNat 0))] = (rows rw_uuuu (x5 ++ [(([x9, x13].getD (x17).toNat 0), ([x10, x14].getD (x17).toNat 0), ([x11, x15].getD (x17).toNat 0), ([x12, x16].getD (x17).toNat 0))]))) (rows_app rw_uuuu x5 [(([x9, x13].getD (x17).toNat 0), ([x10, x14].getD (x17).toNat 0), ([x11, x15].getD (x17).toNat 0), ([x12, x16].getD (x17).toNat 0))]) <|
    ww (p := Nat.add (x5).length 1 = ((x5 ++ [(([x9, x13].getD (x17).toNat 0), ([x10, x14].getD (x17).toNat 0), ([x11, x15].getD (x17).toNat 0), ([x12, x16].getD (x17).toNat 0))])).length) (by simp) <|
    ww (qa_ rwf_uuuu x0 24) <|
    ww (qa_ rwf_uuuu (x5 ++ [(([x9, x13].getD (x17).toNat 0), ([x10, x14].getD (x17).toNat 0), ([x11, x15].getD (x17).toNat 0), ([x12, x16].getD (x17).toNat 0))]) 24) <|
    ee) (by kernel_rfl)
  ·rw [if_neg hy3] at h
   obtain rfl := oI h
   exact runC2 hm ⟨[3, 5, 14, 15, 16, 27, 28], [(0, 0, true), (1, 1, false), (2, 2, true)], 3, 1, [], false, [], [], []⟩ (k0 <|
    zz 14 (xbF hy3) <|
    ww (qa_ rwf_uuuu x0 24) <|
    ww (qa_ rwf_uuuu x5 24) <|
    ee) (by kernel_rfl)
 ·rw [if_neg hy1] at h
  obtain rfl := oI h
  exact runC2 hm ⟨[3, 5, 14, 15, 16], [(0, 0, true), (1, 1, false), (2, 2, true)], 3, 1, [], false, [], [], []⟩ (zz 1 (xdF hy1) <|
   ww (qa_ rwf_uuuu x0 24) <|
   ww (qa_ rwf_uuuu x5 24) <|
   ee) (by kernel_rfl)
theorem qts_ (n : Nat) {rnd : Option Nat} (x0 : List (Int × Int × Int × Int)) (x1 : Int) (x2 : Int) (x3 : Int) (x4 : Int) (x6 : Nat) (x7 : Int) (x8 : Int) (x9 : Int) (x10 : Int) (x11 : Int) (x12 : Int) (x13 : Int) (x14 : Int) (x15 : Int) (x16 : Int) (st : List (Int × Int × Int × Int) × Int) (r : List (Int × Int × Int × Int)) (h : qm0_ n x0 x1 x2 x3 x4 x6 x7 x8 x9 x10 x11 x12 x13 x14 x15 x16 st = some r) : CG P rnd (fnN P 36) 1 (qt_ P 36 [false, true, true, false, false, true, true, false, false, true, false, true, true]) (qlo_ x0 x1 x2 x3 x4 x6 x7 x8 x9 x10 x11 x12 x13 x14 x15 x16 st) (qlp_ x0 x1 x2 x3 x4 x6 x7 x8 x9 x10 x11 x12 x13 x14 x15 x16 r) :=
 CG.iter (b := qt_ P 36 [false, false, true, true, false, false, true, true, false, false, true, false, true, true]) (by kernel_rfl) (body := qhr_ n x0 x1 x2 x3 x4 x6 x7 x8 x9 x10 x11 x12 x13 x14 x15 x16) (S := qlo_ x0 x1 x2 x3 x4 x6 x7 x8 x9 x10 x11 x12 x13 x14 x15 x16) (X := qlp_ x0 x1 x2 x3 x4 x6 x7 x8 x9 x10 x11 x12 x13 x14 x15 x16)
  (fun s s' h => qr2_ n x0 x1 x2 x3 x4 x6 x7 x8 x9 x10 x11 x12 x13 x14 x15 x16 s (.inl s') h)
  (fun s r h => qr2_ n x0 x1 x2 x3 x4 x6 x7 x8 x9 x10 x11 x12 x13 x14 x15 x16 s (.inr r) h)
  (fun r => by intro hx; cases hx) h
def qlq_ (x0 : List (Int × Int × Int × Int)) (x1 : Int) (x2 : Int) (x3 : Int) (x4 : Int) (x6 : Nat) (x7 : Int) (st : List (Int × Int × Int × Int) × Int) : XSt := match st with
 | (x5, x8) => (sT 41 [(3, (pN 1 0)), (5, (sN 2 0 (x5).length (Nat.add big 4))), (14, (sN 0 0 (x0).length x6)), (15, (i6 x7)), (16, (i6 x8))], [], ⟨sB [(0, (some (.cells (layT (rows rw_uuuu x0)) 24))), (1, (some (.cells (layT [(Value.int .u64 x1), (Value.int .u64 x2), (Value.int .u64 x3), (Value.int .u64 x4)]) 24))), (2, (some (.cells (layT (rows rw_uuuu x5)) 24)))], 3, 1⟩)
def qlr_ (x0 : List (Int × Int × Int × Int)) (x1 : Int) (x2 : Int) (x3 : Int) (x4 : Int) (x6 : Nat) (x7 : Int) (r : List (Int × Int × Int × Int)) : Ex × XSt := match r with
 | z0 => (.exit 0, (sT 41 [(5, (sN 1 0 (z0).length (Nat.add big 4)))], [], ⟨sB [(0, (some (.cells (layT (rows rw_uuuu x0)) 24))), (1, (some (.cells (layT (rows rw_uuuu z0)) 24)))], 2, 1⟩))
abbrev Q_classcutq2_1 (rnd : Option Nat) (x0 : List (Int × Int × Int × Int)) (x1 : Int) (x2 : Int) (x3 : Int) (x4 : Int) (x6 : Nat) (x7 : Int) (st : List (Int × Int × Int × Int) × Int) (c : Ex × XSt) : Prop := CG P rnd (fnN P 36) 1 (qt_ P 36 [false, false, true, false, true, true]) (qlq_ x0 x1 x2 x3 x4 x6 x7 st) c
def qhs_ (n : Nat) (x0 : List (Int × Int × Int × Int)) (x1 : Int) (x2 : Int) (x3 : Int) (x4 : Int) (x6 : Nat) (x7 : Int) (st : List (Int × Int × Int × Int) × Int) : Option ((List (Int × Int × Int × Int) × Int) ⊕ (List (Int × Int × Int × Int))) := match st with
 | (x5, x8) =>
  if x8 < x7 then
   if 0 ≤ x8 ∧ x8 < (((x0).length : Nat) : Int) then
    ((some ((x0).getD (x8).toNat (0, 0, 0, 0)))).bind fun y3_ =>
    (qgy_ n (y3_.1) (y3_.2.1) (y3_.2.2.1) (y3_.2.2.2) x1 x2 x3 x4).bind fun t => match t with
    | (y4_0, y4_1, y4_2, y4_3) =>
     (qh8_ n x1 x2 x3 x4).bind fun t => match t with
     | (y5_0, y5_1, y5_2, y5_3) =>
      (qgy_ n (y3_.1) (y3_.2.1) (y3_.2.2.1) (y3_.2.2.2) y5_0 y5_1 y5_2 y5_3).bind fun t => match t with
      | (y6_0, y6_1, y6_2, y6_3) =>
       (qm0_ n x0 x1 x2 x3 x4 x6 x7 x8 y4_0 y4_1 y4_2 y4_3 y6_0 y6_1 y6_2 y6_3 (x5, 0)).bind fun y7_ =>
       some (.inl (y7_, (w64 (x8 + 1))))
   else none
  else
   some (.inr x5)
def qol_ (n : Nat) (x0 : List (Int × Int × Int × Int)) (x1 : Int) (x2 : Int) (x3 : Int) (x4 : Int) (x6 : Nat) (x7 : Int) (st : List (Int × Int × Int × Int) × Int) : Option (List (Int × Int × Int × Int)) := iterM (qhs_ n x0 x1 x2 x3 x4 x6 x7) n st
theorem qr3_ (n : Nat) {rnd : Option Nat} (x0 : List (Int × Int × Int × Int)) (x1 : Int) (x2 : Int) (x3 : Int) (x4 : Int) (x6 : Nat) (x7 : Int) (st : List (Int × Int × Int × Int) × Int) (o : (List (Int × Int × Int × Int) × Int) ⊕ (List (Int × Int × Int × Int))) (h : qhs_ n x0 x1 x2 x3 x4 x6 x7 st = some o) : CG P rnd (fnN P 36) 1 (qt_ P 36 [false, false, true, false, true, true]) (qlq_ x0 x1 x2 x3 x4 x6 x7 st) (Sum.elim (fun s => (.normal, qlq_ x0 x1 x2 x3 x4 x6 x7 s)) (fun r => qlr_ x0 x1 x2 x3 x4 x6 x7 r) o) := by
 obtain ⟨x5, x8⟩ := st
 unfold qhs_ at h
 dsimp only at h
 by_cases hy1 : x8 < x7
 ·rw [if_pos hy1] at h
  obtain ⟨hy2, h⟩ := gd h
  obtain ⟨y3_, hy3, h⟩ := oB h
  obtain ⟨⟨y4_0, y4_1, y4_2, y4_3⟩, hy4, h⟩ := oB h
  dsimp only at h
  obtain ⟨⟨y5_0, y5_1, y5_2, y5_3⟩, hy5, h⟩ := oB h
  dsimp only at h
  obtain ⟨⟨y6_0, y6_1, y6_2, y6_3⟩, hy6, h⟩ := oB h
  dsimp only at h
  obtain ⟨y7_, hy7, h⟩ := oB h
  obtain rfl := oI h
  exact runC2 hm ⟨[3, 5, 14, 15, 16], [(0, 0, true), (1, 1, false), (2, 2, true)], 3, 1, [], false, [], [], []⟩ (zz 1 (xdT hy1) <|
   zz 7 (xk3 0 x6 hy2) <|
   yy 8 (.ld (Value.agg #[(Value.int .u64 (y3_.1)), (Value.int .u64 (y3_.2.1)), (Value.int .u64 (y3_.2.2.1)), (Value.int .u64 (y3_.2.2.2))])) <|
   ww (p := rdT (layT (rows rw_uuuu x0)) 4 ((x8).toNat * 4) = some [(Value.int .u64 (y3_.1)), (Value.int .u64 (y3_.2.1)), (Value.int .u64 (y3_.2.2.1)), (Value.int .u64 (y3_.2.2.2))]) (qn_ rwf_uuuu (0, 0, 0, 0) (hr := hy3) (i := (x8).toNat) (j := 0) ((x8).toNat * 4) rfl (qvb_ hy2) (by decide) rfl) <|
   yy 14 (.call (qk9_ (y3_.1) (y3_.2.1) (y3_.2.2.1) (y3_.2.2.2) x1 x2 x3 x4 (y4_0, y4_1, y4_2, y4_3) [] [(4, 0, false)])) <|
   ww (qil_ n (y3_.1) (y3_.2.1) (y3_.2.2.1) (y3_.2.2.2) x1 x2 x3 x4 (y4_0, y4_1, y4_2, y4_3) hy4) <|
   yy 17 (.call (qok_ x1 x2 x3 x4 (y5_0, y5_1, y5_2, y5_3) [] [(5, 0, false)])) <|
   ww (qmj_ n x1 x2 x3 x4 (y5_0, y5_1, y5_2, y5_3) hy5) <|
   yy 18 (.call (qk9_ (y3_.1) (y3_.2.1) (y3_.2.2.1) (y3_.2.2.2) y5_0 y5_1 y5_2 y5_3 (y6_0, y6_1, y6_2, y6_3) [] [(6, 0, false)])) <|
   ww (qil_ n (y3_.1) (y3_.2.1) (y3_.2.2.1) (y3_.2.2.2) y5_0 y5_1 y5_2 y5_3 (y6_0, y6_1, y6_2, y6_3) hy6) <|
   ww (qts_ n (rnd := rnd) x0 x1 x2 x3 x4 x6 x7 x8 y4_0 y4_1 y4_2 y4_3 y6_0 y6_1 y6_2 y6_3 (x5, 0) y7_ hy7) <|
   ww (qa_ rwf_uuuu x0 24) <|
   ww (qa_ rwf_uuuu x5 24) <|
   ll 22 ⟨⟨[3, 5, 14, 15, 16, 27, 28], [(0, 0, true), (1, 1, false), (2, 2, true)], 3, 1, [], false, [], [], []⟩, (qlp_ x0 x1 x2 x3 x4 x6 x7 x8 y4_0 y4_1 y4_2 y4_3 y6_0 y6_1 y6_2 y6_3 y7_).1, (qlp_ x0 x1 x2 x3 x4 x6 x7 x8 y4_0 y4_1 y4_2 y4_3 y6_0 y6_1 y6_2 y6_3 y7_).2⟩ <|
   ww (qa_ rwf_uuuu x0 24) <|
   ww (qa_ rwf_uuuu y7_ 24) <|
   ee) (by kernel_rfl)
 ·rw [if_neg hy1] at h
  obtain rfl := oI h
  exact runC2 hm ⟨[5], [(0, 0, true), (1, 2, true)], 2, 1, [], false, [], [], []⟩ (zz 1 (xdF hy1) <|
   ww (qa_ rwf_uuuu x0 24) <|
   ww (qa_ rwf_uuuu x5 24) <|
   ee) (by kernel_rfl)
theorem qtt_ (n : Nat) {rnd : Option Nat} (x0 : List (Int × Int × Int × Int)) (x1 : Int) (x2 : Int) (x3 : Int) (x4 : Int) (x6 : Nat) (x7 : Int) (st : List (Int × Int × Int × Int) × Int) (r : List (Int × Int × Int × Int)) (h : qol_ n x0 x1 x2 x3 x4 x6 x7 st = some r) : CG P rnd (fnN P 36) 1 (qt_ P 36 [false, true, false, true, true]) (qlq_ x0 x1 x2 x3 x4 x6 x7 st) (qlr_ x0 x1 x2 x3 x4 x6 x7 r) :=
 CG.iter (b := qt_ P 36 [false, false, true, false, true, true]) (by kernel_rfl) (body := qhs_ n x0 x1 x2 x3 x4 x6 x7) (S := qlq_ x0 x1 x2 x3 x4 x6 x7) (X := qlr_ x0 x1 x2 x3 x4 x6 x7)
  (fun s s' h => qr3_ n x0 x1 x2 x3 x4 x6 x7 s (.inl s') h)
  (fun s r h => qr3_ n x0 x1 x2 x3 x4 x6 x7 s (.inr r) h)
  (fun r => by intro hx; cases hx) h
def qmd_ (n : Nat) (a0 : List (Int × Int × Int × Int)) (a1 : Nat) (a2 : Int) (a3 : Int) (a4 : Int) (a5 : Int) : Option (List (Int × Int × Int × Int)) :=
 ((some (w64 ((((a0).length : Nat) : Int) + 1)))).bind fun c1_ =>
 if 0 ≤ c1_ then
  if (c1_).toNat * 32 ≤ 140737488355328 then
   (qol_ n a0 a2 a3 a4 a5 a1 (((a0).length : Nat) : Int) ([], 0)).bind fun c4_ =>
   some c4_
  else none
 else none
theorem qv0_ (n : Nat) (a0 : List (Int × Int × Int × Int)) (a1 : Nat) (a2 : Int) (a3 : Int) (a4 : Int) (a5 : Int) (r : List (Int × Int × Int × Int)) (h : qmd_ n a0 a1 a2 a3 a4 a5 = some r) : Gv P (.func 36) (qvk_ a0 a1 a2 a3 a4 a5) (qvl_ a0 a1 a2 a3 a4 a5) (qqy_ a0 a1 a2 a3 a4 a5 r) (qqz_ a0 a1 a2 a3 a4 a5 r) := by
 unfold qmd_ at h
 obtain ⟨c1_, hc1, h⟩ := oB h
 obtain ⟨hc2, h⟩ := gd h
 obtain ⟨hc3, h⟩ := gd h
 obtain ⟨c4_, hc4, h⟩ := oB h
 obtain rfl := oI h
 exact runF2 hm ⟨[4], [(1, 1, true)], 2, 1, [], false, [], [], []⟩ (zz 6 (xnm hc1) <|
  yy 7 (.mk (c1_).toNat []) <|
  ww (p := natOf (i6 c1_) = some (c1_).toNat) (qwo_ hc2) <|
  ww (p := fits (c1_).toNat 32 = true) (fits_ok hc3 (by omega)) <|
  ww (qtt_ n (rnd := none) a0 a2 a3 a4 a5 a1 (((a0).length : Nat) : Int) ([], 0) c4_ hc4) <|
  ww (qa_ rwf_uuuu a0 24) <|
  ll 15 ⟨⟨[3, 5, 14, 15, 16], [(0, 0, true), (1, 1, false), (2, 2, false)], 3, 1, [], false, [], [], []⟩, (qlr_ a0 a2 a3 a4 a5 a1 (((a0).length : Nat) : Int) c4_).1, (qlr_ a0 a2 a3 a4 a5 a1 (((a0).length : Nat) : Int) c4_).2⟩ <|
  ww (qa_ rwf_uuuu c4_ 24) <|
  ee) (by kernel_rfl)

def qtc_ (a0 : Int) : List Value := [(Value.int .u64 a0)]
def qtd_ (a0 : Int) : AH := ⟨sB [], 0, 0⟩
def qpo_ (a0 : Int) (r : Int) : Value := match r with
 | o0 => (i6 o0)
def qpp_ (a0 : Int) (r : Int) : AH := match r with
 | o0 => ⟨sB [], 0, 0⟩
abbrev G_bitsLen64q1 (a0 : Int) (r : Int) : Prop := Gv P (.func 55) (qtc_ a0) (qtd_ a0) (qpo_ a0 r) (qpp_ a0 r)
abbrev C_bitsLen64q1 (a0 : Int) (r : Int) (ins outs : BL) : CallA := ⟨0, ins, qpo_ a0 r, qpp_ a0 r, outs⟩
def qv1_ (x0 : Int) (x1 : Int) (st : Unit) : XSt := (sT 25 [(0, (Value.int .u64 x0)), (2, (i6 x1))], [], ⟨sB [], 0, 0⟩)
def qkq_ (x0 : Int) (x1 : Int) (r : Int) : Ex × XSt := match r with
 | z0 => (.ret, (sT 25 [(2, (i6 z0))], [], ⟨sB [], 0, 0⟩))
def qmk_ (n : Nat) (x0 : Int) (x1 : Int) (st : Unit) : Option (Int) :=
 if x0 ≥ 256 then
  if 0 ≤ (IntKind.u8.wrap (Int.fdiv x0 256)) ∧ (IntKind.u8.wrap (Int.fdiv x0 256)) < ((((ByteArray.mk #[0, 1, 2, 2, 3, 3, 3, 3, 4, 4, 4, 4, 4, 4, 4, 4, 5, 5, 5, 5, 5, 5, 5, 5, 5, 5, 5, 5, 5, 5, 5, 5, 6, 6, 6, 6, 6, 6, 6, 6, 6, 6, 6, 6, 6, 6, 6, 6, 6, 6, 6, 6, 6, 6, 6, 6, 6, 6, 6, 6, 6, 6, 6, 6, 7, 7, 7, 7, 7, 7, 7, 7, 7, 7, 7, 7, 7, 7, 7, 7, 7, 7, 7, 7, 7, 7, 7, 7, 7, 7, 7, 7, 7, 7, 7, 7, 7, 7, 7, 7, 7, 7, 7, 7, 7, 7, 7, 7, 7, 7, 7, 7, 7, 7, 7, 7, 7, 7, 7, 7, 7, 7, 7, 7, 7, 7, 7, 7, 8, 8, 8, 8, 8, 8, 8, 8, 8, 8, 8, 8, 8, 8, 8, 8, 8, 8, 8, 8, 8, 8, 8, 8, 8, 8, 8, 8, 8, 8, 8, 8, 8, 8, 8, 8, 8, 8, 8, 8, 8, 8, 8, 8, 8, 8, 8, 8, 8, 8, 8, 8, 8, 8, 8, 8, 8, 8, 8, 8, 8, 8, 8, 8, 8, 8, 8, 8, 8, 8, 8, 8, 8, 8, 8, 8, 8, 8, 8, 8, 8, 8, 8, 8, 8, 8, 8, 8, 8, 8, 8, 8, 8, 8, 8, 8, 8, 8, 8, 8, 8, 8, 8, 8, 8, 8, 8, 8, 8, 8, 8, 8, 8, 8, 8, 8, 8, 8, 8, 8, 8, 8, 8, 8, 8, 8, 8, 8])).size : Nat) : Int) then
   ((some (w64 ((w64 (x1 + 8)) + (IntKind.i64.wrap (byteAt (ByteArray.mk #[0, 1, 2, 2, 3, 3, 3, 3, 4, 4, 4, 4, 4, 4, 4, 4, 5, 5, 5, 5, 5, 5, 5, 5, 5, 5, 5, 5, 5, 5, 5, 5, 6, 6, 6, 6, 6, 6, 6, 6, 6, 6, 6, 6, 6, 6, 6, 6, 6, 6, 6, 6, 6, 6, 6, 6, 6, 6, 6, 6, 6, 6, 6, 6, 7, 7, 7, 7, 7, 7, 7, 7, 7, 7, 7, 7, 7, 7, 7, 7, 7, 7, 7, 7, 7, 7, 7, 7, 7, 7, 7, 7, 7, 7, 7, 7, 7, 7, 7, 7, 7, 7, 7, 7, 7, 7, 7, 7, 7, 7, 7, 7, 7, 7, 7, 7, 7, 7, 7, 7, 7, 7, 7, 7, 7, 7, 7, 7, 8, 8, 8, 8, 8, 8, 8, 8, 8, 8, 8, 8, 8, 8, 8, 8, 8, 8, 8, 8, 8, 8, 8, 8, 8, 8, 8, 8, 8, 8, 8, 8, 8, 8, 8, 8, 8, 8, 8, 8, 8, 8, 8, 8, 8, 8, 8, 8, 8, 8, 8, 8, 8, 8, 8, 8, 8, 8, 8, 8, 8, 8, 8, 8, 8, 8, 8, 8, 8, 8, 8, 8, 8, 8, 8, 8, 8, 8, 8, 8, 8, 8, 8, 8, 8, 8, 8, 8, 8, 8, 8, 8, 8, 8, 8, 8, 8, 8, 8, 8, 8, 8, 8, 8, 8, 8, 8, 8, 8, 8, 8, 8, 8, 8, 8, 8, 8, 8, 8, 8, 8, 8, 8, 8, 8, 8, 8, 8]) ((IntKind.u8.wrap (Int.fdiv x0 256))).toNat)))))).bind fun y3_ =>
   some y3_
  else none
 else
  if 0 ≤ (IntKind.u8.wrap x0) ∧ (IntKind.u8.wrap x0) < ((((ByteArray.mk #[0, 1, 2, 2, 3, 3, 3, 3, 4, 4, 4, 4, 4, 4, 4, 4, 5, 5, 5, 5, 5, 5, 5, 5, 5, 5, 5, 5, 5, 5, 5, 5, 6, 6, 6, 6, 6, 6, 6, 6, 6, 6, 6, 6, 6, 6, 6, 6, 6, 6, 6, 6, 6, 6, 6, 6, 6, 6, 6, 6, 6, 6, 6, 6, 7, 7, 7, 7, 7, 7, 7, 7, 7, 7, 7, 7, 7, 7, 7, 7, 7, 7, 7, 7, 7, 7, 7, 7, 7, 7, 7, 7, 7, 7, 7, 7, 7, 7, 7, 7, 7, 7, 7, 7, 7, 7, 7, 7, 7, 7, 7, 7, 7, 7, 7, 7, 7, 7, 7, 7, 7, 7, 7, 7, 7, 7, 7, 7, 8, 8, 8, 8, 8, 8, 8, 8, 8, 8, 8, 8, 8, 8, 8, 8, 8, 8, 8, 8, 8, 8, 8, 8, 8, 8, 8, 8, 8, 8, 8, 8, 8, 8, 8, 8, 8, 8, 8, 8, 8, 8, 8, 8, 8, 8, 8, 8, 8, 8, 8, 8, 8, 8, 8, 8, 8, 8, 8, 8, 8, 8, 8, 8, 8, 8, 8, 8, 8, 8, 8, 8, 8, 8, 8, 8, 8, 8, 8, 8, 8, 8, 8, 8, 8, 8, 8, 8, 8, 8, 8, 8, 8, 8, 8, 8, 8, 8, 8, 8, 8, 8, 8, 8, 8, 8, 8, 8, 8, 8, 8, 8, 8, 8, 8, 8, 8, 8, 8, 8, 8, 8, 8, 8, 8, 8, 8, 8])).size : Nat) : Int) then
   ((some (w64 (x1 + (IntKind.i64.wrap (byteAt (ByteArray.mk #[0, 1, 2, 2, 3, 3, 3, 3, 4, 4, 4, 4, 4, 4, 4, 4, 5, 5, 5, 5, 5, 5, 5, 5, 5, 5, 5, 5, 5, 5, 5, 5, 6, 6, 6, 6, 6, 6, 6, 6, 6, 6, 6, 6, 6, 6, 6, 6, 6, 6, 6, 6, 6, 6, 6, 6, 6, 6, 6, 6, 6, 6, 6, 6, 7, 7, 7, 7, 7, 7, 7, 7, 7, 7, 7, 7, 7, 7, 7, 7, 7, 7, 7, 7, 7, 7, 7, 7, 7, 7, 7, 7, 7, 7, 7, 7, 7, 7, 7, 7, 7, 7, 7, 7, 7, 7, 7, 7, 7, 7, 7, 7, 7, 7, 7, 7, 7, 7, 7, 7, 7, 7, 7, 7, 7, 7, 7, 7, 8, 8, 8, 8, 8, 8, 8, 8, 8, 8, 8, 8, 8, 8, 8, 8, 8, 8, 8, 8, 8, 8, 8, 8, 8, 8, 8, 8, 8, 8, 8, 8, 8, 8, 8, 8, 8, 8, 8, 8, 8, 8, 8, 8, 8, 8, 8, 8, 8, 8, 8, 8, 8, 8, 8, 8, 8, 8, 8, 8, 8, 8, 8, 8, 8, 8, 8, 8, 8, 8, 8, 8, 8, 8, 8, 8, 8, 8, 8, 8, 8, 8, 8, 8, 8, 8, 8, 8, 8, 8, 8, 8, 8, 8, 8, 8, 8, 8, 8, 8, 8, 8, 8, 8, 8, 8, 8, 8, 8, 8, 8, 8, 8, 8, 8, 8, 8, 8, 8, 8, 8, 8, 8, 8, 8, 8, 8, 8]) ((IntKind.u8.wrap x0)).toNat)))))).bind fun y3_ =>
   some y3_
  else none
theorem qn8_ (n : Nat) {rnd : Option Nat} (x0 : Int) (x1 : Int) (st : Unit) (r : Int) (h : qmk_ n x0 x1 st = some r) : CG P rnd (fnN P 55) 0 (qt_ P 55 [true, true, true]) (qv1_ x0 x1 st) (qkq_ x0 x1 r) := by
 unfold qmk_ at h
 by_cases hy1 : x0 ≥ 256
 ·rw [if_pos hy1] at h
  obtain ⟨hy2, h⟩ := gd h
  obtain ⟨y3_, hy3, h⟩ := oB h
  obtain rfl := oI h
  exact runC2 hm ⟨[2], [], 0, 0, [], false, [], [], []⟩ (zz 3 (xdT hy1) <|
   yy 16 (.pur (Value.int .u8 (byteAt (ByteArray.mk #[0, 1, 2, 2, 3, 3, 3, 3, 4, 4, 4, 4, 4, 4, 4, 4, 5, 5, 5, 5, 5, 5, 5, 5, 5, 5, 5, 5, 5, 5, 5, 5, 6, 6, 6, 6, 6, 6, 6, 6, 6, 6, 6, 6, 6, 6, 6, 6, 6, 6, 6, 6, 6, 6, 6, 6, 6, 6, 6, 6, 6, 6, 6, 6, 7, 7, 7, 7, 7, 7, 7, 7, 7, 7, 7, 7, 7, 7, 7, 7, 7, 7, 7, 7, 7, 7, 7, 7, 7, 7, 7, 7, 7, 7, 7, 7, 7, 7, 7, 7, 7, 7, 7, 7, 7, 7, 7, 7, 7, 7, 7, 7, 7, 7, 7, 7, 7, 7, 7, 7, 7, 7, 7, 7, 7, 7, 7, 7, 8, 8, 8, 8, 8, 8, 8, 8, 8, 8, 8, 8, 8, 8, 8, 8, 8, 8, 8, 8, 8, 8, 8, 8, 8, 8, 8, 8, 8, 8, 8, 8, 8, 8, 8, 8, 8, 8, 8, 8, 8, 8, 8, 8, 8, 8, 8, 8, 8, 8, 8, 8, 8, 8, 8, 8, 8, 8, 8, 8, 8, 8, 8, 8, 8, 8, 8, 8, 8, 8, 8, 8, 8, 8, 8, 8, 8, 8, 8, 8, 8, 8, 8, 8, 8, 8, 8, 8, 8, 8, 8, 8, 8, 8, 8, 8, 8, 8, 8, 8, 8, 8, 8, 8, 8, 8, 8, 8, 8, 8, 8, 8, 8, 8, 8, 8, 8, 8, 8, 8, 8, 8, 8, 8, 8, 8, 8, 8]) ((IntKind.u8.wrap (Int.fdiv x0 256))).toNat))) <|
   ww (p := qnl_ P 9 (Value.string (ByteArray.mk #[0, 1, 2, 2, 3, 3, 3, 3, 4, 4, 4, 4, 4, 4, 4, 4, 5, 5, 5, 5, 5, 5, 5, 5, 5, 5, 5, 5, 5, 5, 5, 5, 6, 6, 6, 6, 6, 6, 6, 6, 6, 6, 6, 6, 6, 6, 6, 6, 6, 6, 6, 6, 6, 6, 6, 6, 6, 6, 6, 6, 6, 6, 6, 6, 7, 7, 7, 7, 7, 7, 7, 7, 7, 7, 7, 7, 7, 7, 7, 7, 7, 7, 7, 7, 7, 7, 7, 7, 7, 7, 7, 7, 7, 7, 7, 7, 7, 7, 7, 7, 7, 7, 7, 7, 7, 7, 7, 7, 7, 7, 7, 7, 7, 7, 7, 7, 7, 7, 7, 7, 7, 7, 7, 7, 7, 7, 7, 7, 8, 8, 8, 8, 8, 8, 8, 8, 8, 8, 8, 8, 8, 8, 8, 8, 8, 8, 8, 8, 8, 8, 8, 8, 8, 8, 8, 8, 8, 8, 8, 8, 8, 8, 8, 8, 8, 8, 8, 8, 8, 8, 8, 8, 8, 8, 8, 8, 8, 8, 8, 8, 8, 8, 8, 8, 8, 8, 8, 8, 8, 8, 8, 8, 8, 8, 8, 8, 8, 8, 8, 8, 8, 8, 8, 8, 8, 8, 8, 8, 8, 8, 8, 8, 8, 8, 8, 8, 8, 8, 8, 8, 8, 8, 8, 8, 8, 8, 8, 8, 8, 8, 8, 8, 8, 8, 8, 8, 8, 8, 8, 8, 8, 8, 8, 8, 8, 8, 8, 8, 8, 8, 8, 8, 8, 8, 8, 8])) (Value.int .u8 (IntKind.u8.wrap (Int.fdiv x0 256))) Ax.h0 = some ((Value.int .u8 (byteAt (ByteArray.mk #[0, 1, 2, 2, 3, 3, 3, 3, 4, 4, 4, 4, 4, 4, 4, 4, 5, 5, 5, 5, 5, 5, 5, 5, 5, 5, 5, 5, 5, 5, 5, 5, 6, 6, 6, 6, 6, 6, 6, 6, 6, 6, 6, 6, 6, 6, 6, 6, 6, 6, 6, 6, 6, 6, 6, 6, 6, 6, 6, 6, 6, 6, 6, 6, 7, 7, 7, 7, 7, 7, 7, 7, 7, 7, 7, 7, 7, 7, 7, 7, 7, 7, 7, 7, 7, 7, 7, 7, 7, 7, 7, 7, 7, 7, 7, 7, 7, 7, 7, 7, 7, 7, 7, 7, 7, 7, 7, 7, 7, 7, 7, 7, 7, 7, 7, 7, 7, 7, 7, 7, 7, 7, 7, 7, 7, 7, 7, 7, 8, 8, 8, 8, 8, 8, 8, 8, 8, 8, 8, 8, 8, 8, 8, 8, 8, 8, 8, 8, 8, 8, 8, 8, 8, 8, 8, 8, 8, 8, 8, 8, 8, 8, 8, 8, 8, 8, 8, 8, 8, 8, 8, 8, 8, 8, 8, 8, 8, 8, 8, 8, 8, 8, 8, 8, 8, 8, 8, 8, 8, 8, 8, 8, 8, 8, 8, 8, 8, 8, 8, 8, 8, 8, 8, 8, 8, 8, 8, 8, 8, 8, 8, 8, 8, 8, 8, 8, 8, 8, 8, 8, 8, 8, 8, 8, 8, 8, 8, 8, 8, 8, 8, 8, 8, 8, 8, 8, 8, 8, 8, 8, 8, 8, 8, 8, 8, 8, 8, 8, 8, 8, 8, 8, 8, 8, 8, 8]) ((IntKind.u8.wrap (Int.fdiv x0 256))).toNat)), Ax.h0)) (ixStr (by kernel_rfl) hy2) <|
   zz 18 (xnm hy3) <|
   ee) (by kernel_rfl)
 ·rw [if_neg hy1] at h
  obtain ⟨hy2, h⟩ := gd h
  obtain ⟨y3_, hy3, h⟩ := oB h
  obtain rfl := oI h
  exact runC2 hm ⟨[2], [], 0, 0, [], false, [], [], []⟩ (zz 3 (xdF hy1) <|
   yy 9 (.pur (Value.int .u8 (byteAt (ByteArray.mk #[0, 1, 2, 2, 3, 3, 3, 3, 4, 4, 4, 4, 4, 4, 4, 4, 5, 5, 5, 5, 5, 5, 5, 5, 5, 5, 5, 5, 5, 5, 5, 5, 6, 6, 6, 6, 6, 6, 6, 6, 6, 6, 6, 6, 6, 6, 6, 6, 6, 6, 6, 6, 6, 6, 6, 6, 6, 6, 6, 6, 6, 6, 6, 6, 7, 7, 7, 7, 7, 7, 7, 7, 7, 7, 7, 7, 7, 7, 7, 7, 7, 7, 7, 7, 7, 7, 7, 7, 7, 7, 7, 7, 7, 7, 7, 7, 7, 7, 7, 7, 7, 7, 7, 7, 7, 7, 7, 7, 7, 7, 7, 7, 7, 7, 7, 7, 7, 7, 7, 7, 7, 7, 7, 7, 7, 7, 7, 7, 8, 8, 8, 8, 8, 8, 8, 8, 8, 8, 8, 8, 8, 8, 8, 8, 8, 8, 8, 8, 8, 8, 8, 8, 8, 8, 8, 8, 8, 8, 8, 8, 8, 8, 8, 8, 8, 8, 8, 8, 8, 8, 8, 8, 8, 8, 8, 8, 8, 8, 8, 8, 8, 8, 8, 8, 8, 8, 8, 8, 8, 8, 8, 8, 8, 8, 8, 8, 8, 8, 8, 8, 8, 8, 8, 8, 8, 8, 8, 8, 8, 8, 8, 8, 8, 8, 8, 8, 8, 8, 8, 8, 8, 8, 8, 8, 8, 8, 8, 8, 8, 8, 8, 8, 8, 8, 8, 8, 8, 8, 8, 8, 8, 8, 8, 8, 8, 8, 8, 8, 8, 8, 8, 8, 8, 8, 8, 8]) ((IntKind.u8.wrap x0)).toNat))) <|
   ww (p := qnl_ P 9 (Value.string (ByteArray.mk #[0, 1, 2, 2, 3, 3, 3, 3, 4, 4, 4, 4, 4, 4, 4, 4, 5, 5, 5, 5, 5, 5, 5, 5, 5, 5, 5, 5, 5, 5, 5, 5, 6, 6, 6, 6, 6, 6, 6, 6, 6, 6, 6, 6, 6, 6, 6, 6, 6, 6, 6, 6, 6, 6, 6, 6, 6, 6, 6, 6, 6, 6, 6, 6, 7, 7, 7, 7, 7, 7, 7, 7, 7, 7, 7, 7, 7, 7, 7, 7, 7, 7, 7, 7, 7, 7, 7, 7, 7, 7, 7, 7, 7, 7, 7, 7, 7, 7, 7, 7, 7, 7, 7, 7, 7, 7, 7, 7, 7, 7, 7, 7, 7, 7, 7, 7, 7, 7, 7, 7, 7, 7, 7, 7, 7, 7, 7, 7, 8, 8, 8, 8, 8, 8, 8, 8, 8, 8, 8, 8, 8, 8, 8, 8, 8, 8, 8, 8, 8, 8, 8, 8, 8, 8, 8, 8, 8, 8, 8, 8, 8, 8, 8, 8, 8, 8, 8, 8, 8, 8, 8, 8, 8, 8, 8, 8, 8, 8, 8, 8, 8, 8, 8, 8, 8, 8, 8, 8, 8, 8, 8, 8, 8, 8, 8, 8, 8, 8, 8, 8, 8, 8, 8, 8, 8, 8, 8, 8, 8, 8, 8, 8, 8, 8, 8, 8, 8, 8, 8, 8, 8, 8, 8, 8, 8, 8, 8, 8, 8, 8, 8, 8, 8, 8, 8, 8, 8, 8, 8, 8, 8, 8, 8, 8, 8, 8, 8, 8, 8, 8, 8, 8, 8, 8, 8, 8])) (Value.int .u8 (IntKind.u8.wrap x0)) Ax.h0 = some ((Value.int .u8 (byteAt (ByteArray.mk #[0, 1, 2, 2, 3, 3, 3, 3, 4, 4, 4, 4, 4, 4, 4, 4, 5, 5, 5, 5, 5, 5, 5, 5, 5, 5, 5, 5, 5, 5, 5, 5, 6, 6, 6, 6, 6, 6, 6, 6, 6, 6, 6, 6, 6, 6, 6, 6, 6, 6, 6, 6, 6, 6, 6, 6, 6, 6, 6, 6, 6, 6, 6, 6, 7, 7, 7, 7, 7, 7, 7, 7, 7, 7, 7, 7, 7, 7, 7, 7, 7, 7, 7, 7, 7, 7, 7, 7, 7, 7, 7, 7, 7, 7, 7, 7, 7, 7, 7, 7, 7, 7, 7, 7, 7, 7, 7, 7, 7, 7, 7, 7, 7, 7, 7, 7, 7, 7, 7, 7, 7, 7, 7, 7, 7, 7, 7, 7, 8, 8, 8, 8, 8, 8, 8, 8, 8, 8, 8, 8, 8, 8, 8, 8, 8, 8, 8, 8, 8, 8, 8, 8, 8, 8, 8, 8, 8, 8, 8, 8, 8, 8, 8, 8, 8, 8, 8, 8, 8, 8, 8, 8, 8, 8, 8, 8, 8, 8, 8, 8, 8, 8, 8, 8, 8, 8, 8, 8, 8, 8, 8, 8, 8, 8, 8, 8, 8, 8, 8, 8, 8, 8, 8, 8, 8, 8, 8, 8, 8, 8, 8, 8, 8, 8, 8, 8, 8, 8, 8, 8, 8, 8, 8, 8, 8, 8, 8, 8, 8, 8, 8, 8, 8, 8, 8, 8, 8, 8, 8, 8, 8, 8, 8, 8, 8, 8, 8, 8, 8, 8, 8, 8, 8, 8, 8, 8]) ((IntKind.u8.wrap x0)).toNat)), Ax.h0)) (ixStr (by kernel_rfl) hy2) <|
   zz 11 (xnm hy3) <|
   ee) (by kernel_rfl)
def qv2_ (x0 : Int) (x1 : Int) (st : Unit) : XSt := (sT 25 [(0, (Value.int .u64 x0)), (2, (i6 x1))], [], ⟨sB [], 0, 0⟩)
def qkr_ (x0 : Int) (x1 : Int) (r : Int) : Ex × XSt := match r with
 | z0 => (.ret, (sT 25 [(2, (i6 z0))], [], ⟨sB [], 0, 0⟩))
def qml_ (n : Nat) (x0 : Int) (x1 : Int) (st : Unit) : Option (Int) :=
 if x0 ≥ 65536 then
  (qmk_ n (Int.fdiv x0 65536) (w64 (x1 + 16)) ()).bind fun y2_ =>
  some y2_
 else
  (qmk_ n x0 x1 ()).bind fun y2_ =>
  some y2_
theorem qn9_ (n : Nat) {rnd : Option Nat} (x0 : Int) (x1 : Int) (st : Unit) (r : Int) (h : qml_ n x0 x1 st = some r) : CG P rnd (fnN P 55) 0 (qt_ P 55 [true, true]) (qv2_ x0 x1 st) (qkr_ x0 x1 r) := by
 unfold qml_ at h
 by_cases hy1 : x0 ≥ 65536
 ·rw [if_pos hy1] at h
  obtain ⟨y2_, hy2, h⟩ := oB h
  obtain rfl := oI h
  exact runC2 hm ⟨[2], [], 0, 0, [], false, [], [], []⟩ (zz 3 (xdT hy1) <|
   ww (qn8_ n (rnd := rnd) (Int.fdiv x0 65536) (w64 (x1 + 16)) () y2_ hy2) <|
   ll 12 ⟨⟨[0, 2], [], 0, 0, [], false, [], [], []⟩, (qkq_ (Int.fdiv x0 65536) (w64 (x1 + 16)) y2_).1, (qkq_ (Int.fdiv x0 65536) (w64 (x1 + 16)) y2_).2⟩ <|
   ee) (by kernel_rfl)
 ·rw [if_neg hy1] at h
  obtain ⟨y2_, hy2, h⟩ := oB h
  obtain rfl := oI h
  exact runC2 hm ⟨[2], [], 0, 0, [], false, [], [], []⟩ (zz 3 (xdF hy1) <|
   ww (qn8_ n (rnd := rnd) x0 x1 () y2_ hy2) <|
   ll 5 ⟨⟨[0, 2], [], 0, 0, [], false, [], [], []⟩, (qkq_ x0 x1 y2_).1, (qkq_ x0 x1 y2_).2⟩ <|
   ee) (by kernel_rfl)
def qpq_ (n : Nat) (a0 : Int) : Option (Int) :=
 if a0 ≥ 4294967296 then
  (qml_ n (Int.fdiv a0 4294967296) 32 ()).bind fun c2_ =>
  some c2_
 else
  (qml_ n a0 0 ()).bind fun c2_ =>
  some c2_
theorem qvm_ (n : Nat) (a0 : Int) (r : Int) (h : qpq_ n a0 = some r) : Gv P (.func 55) (qtc_ a0) (qtd_ a0) (qpo_ a0 r) (qpp_ a0 r) := by
 unfold qpq_ at h
 by_cases hc1 : a0 ≥ 4294967296
 ·rw [if_pos hc1] at h
  obtain ⟨c2_, hc2, h⟩ := oB h
  obtain rfl := oI h
  exact runF2 hm ⟨[2], [], 0, 0, [], false, [], [], []⟩ (zz 5 (xdT hc1) <|
   ww (qn9_ n (rnd := none) (Int.fdiv a0 4294967296) 32 () c2_ hc2) <|
   ll 12 ⟨⟨[0, 2], [], 0, 0, [], false, [], [], []⟩, (qkr_ (Int.fdiv a0 4294967296) 32 c2_).1, (qkr_ (Int.fdiv a0 4294967296) 32 c2_).2⟩ <|
   ee) (by kernel_rfl)
 ·rw [if_neg hc1] at h
  obtain ⟨c2_, hc2, h⟩ := oB h
  obtain rfl := oI h
  exact runF2 hm ⟨[2], [], 0, 0, [], false, [], [], []⟩ (zz 5 (xdF hc1) <|
   ww (qn9_ n (rnd := none) a0 0 () c2_ hc2) <|
   ll 7 ⟨⟨[0, 2], [], 0, 0, [], false, [], [], []⟩, (qkr_ a0 0 c2_).1, (qkr_ a0 0 c2_).2⟩ <|
   ee) (by kernel_rfl)

def qwr_ (a0 : Int) : List Value := [(Value.int .u64 a0)]
def qws_ (a0 : Int) : AH := ⟨sB [], 0, 0⟩
def qsw_ (a0 : Int) (r : Int) : Value := match r with
 | o0 => (i6 o0)
def qsx_ (a0 : Int) (r : Int) : AH := match r with
 | o0 => ⟨sB [], 0, 0⟩
abbrev G_bitsLenq1 (a0 : Int) (r : Int) : Prop := Gv P (.func 44) (qwr_ a0) (qws_ a0) (qsw_ a0 r) (qsx_ a0 r)
abbrev qwt_ (a0 : Int) (r : Int) (ins outs : BL) : CallA := ⟨0, ins, qsw_ a0 r, qsx_ a0 r, outs⟩
def qj5_ (n : Nat) (a0 : Int) : Option (Int) :=
 (qpq_ n a0).bind fun c1_ =>
 some c1_
theorem qr4_ (n : Nat) (a0 : Int) (r : Int) (h : qj5_ n a0 = some r) : Gv P (.func 44) (qwr_ a0) (qws_ a0) (qsw_ a0 r) (qsx_ a0 r) := by
 unfold qj5_ at h
 obtain ⟨c1_, hc1, h⟩ := oB h
 obtain rfl := oI h
 exact runF2 hm ⟨[2], [], 0, 0, [], false, [], [], []⟩ (yy 6 (.call (C_bitsLen64q1 a0 c1_ [] [])) <|
  ww (qvm_ n a0 c1_ hc1) <|
  ee) (by kernel_rfl)

def qte_ (a0 : Int) (a1 : Int) (a2 : Int) (a3 : Int) : List Value := [(Value.agg #[(Value.int .u64 a0), (Value.int .u64 a1), (Value.int .u64 a2), (Value.int .u64 a3)])]
def qtf_ (a0 : Int) (a1 : Int) (a2 : Int) (a3 : Int) : AH := ⟨sB [], 0, 0⟩
def qpr_ (a0 : Int) (a1 : Int) (a2 : Int) (a3 : Int) (r : Unit) : Value := match r with
 | _ => (Value.func (.func 40) #[] #[(pN 0 0)])
def qps_ (a0 : Int) (a1 : Int) (a2 : Int) (a3 : Int) (r : Unit) : AH := match r with
 | _ => ⟨sB [(0, (some (.cells (layT [(Value.int .u64 a0), (Value.int .u64 a1), (Value.int .u64 a2), (Value.int .u64 a3)]) 24)))], 1, 0⟩
abbrev G_classEachq1 (a0 : Int) (a1 : Int) (a2 : Int) (a3 : Int) (r : Unit) : Prop := Gv P (.func 31) (qte_ a0 a1 a2 a3) (qtf_ a0 a1 a2 a3) (qpr_ a0 a1 a2 a3 r) (qps_ a0 a1 a2 a3 r)
abbrev C_classEachq1 (a0 : Int) (a1 : Int) (a2 : Int) (a3 : Int) (r : Unit) (ins outs : BL) : CallA := ⟨0, ins, qpr_ a0 a1 a2 a3 r, qps_ a0 a1 a2 a3 r, outs⟩
def qla_ (n : Nat) (a0 : Int) (a1 : Int) (a2 : Int) (a3 : Int) : Option (Unit) :=
 some ()
theorem qvn_ (n : Nat) (a0 : Int) (a1 : Int) (a2 : Int) (a3 : Int) (r : Unit) (h : qla_ n a0 a1 a2 a3 = some r) : Gv P (.func 31) (qte_ a0 a1 a2 a3) (qtf_ a0 a1 a2 a3) (qpr_ a0 a1 a2 a3 r) (qps_ a0 a1 a2 a3 r) := by
 unfold qla_ at h
 obtain rfl := oI h
 exact runF2 hm ⟨[2], [(0, 0, false)], 1, 0, [], false, [], [], []⟩ (ee) (by kernel_rfl)

def qma_ (a0 : Int) : List Value := [(Value.int .u64 a0)]
def qmb_ (a0 : Int) : AH := ⟨sB [], 0, 0⟩
def qjf_ (a0 : Int) (r : Int) : Value := match r with
 | o0 => (i6 o0)
def qjg_ (a0 : Int) (r : Int) : AH := match r with
 | o0 => ⟨sB [], 0, 0⟩
abbrev G_bitsTrailingZeros64q1 (a0 : Int) (r : Int) : Prop := Gv P (.func 41) (qma_ a0) (qmb_ a0) (qjf_ a0 r) (qjg_ a0 r)
abbrev qo1_ (a0 : Int) (r : Int) (ins outs : BL) : CallA := ⟨0, ins, qjf_ a0 r, qjg_ a0 r, outs⟩
def qb7_ (n : Nat) (a0 : Int) : Option (Int) :=
 if a0 = 0 then
  some 64
 else
  ((some (IntKind.u64.wrap ((bAnd .u64 a0 (IntKind.u64.wrap ((0 : Int) - a0))) * 285870213051353865)))).bind fun c2_ =>
  if 0 ≤ (Int.fdiv c2_ 288230376151711744) ∧ (Int.fdiv c2_ 288230376151711744) < ((64 : Nat) : Int) then
   some (IntKind.i64.wrap ((tb_deBruijn64tab).getD ((Int.fdiv c2_ 288230376151711744)).toNat 0))
  else none
theorem qny_ (n : Nat) (a0 : Int) (r : Int) (h : qb7_ n a0 = some r) : Gv P (.func 41) (qma_ a0) (qmb_ a0) (qjf_ a0 r) (qjg_ a0 r) := by
 unfold qb7_ at h
 by_cases hc1 : a0 = 0
 ·rw [if_pos hc1] at h
  obtain rfl := oI h
  exact runF2 hm ⟨[2], [], 0, 0, [], false, [], [], []⟩ (zz 5 (xeT hc1) <|
   ee) (by kernel_rfl)
 ·rw [if_neg hc1] at h
  obtain ⟨c2_, hc2, h⟩ := oB h
  obtain ⟨hc3, h⟩ := gd h
  obtain rfl := oI h
  exact runF2 hm ⟨[2], [], 0, 0, [], false, [], [], []⟩ (zz 5 (xeF hc1) <|
   zz 12 (xnmK (k := .u64) hc2) <|
   yy 14 (.pur (Value.pointer (some ⟨0, ((Int.fdiv c2_ 288230376151711744)).toNat, some 0⟩))) <|
   ww (p := qfv_ P 60 (Value.pointer (some ⟨0, 0, some 0⟩)) (Value.int .u64 (Int.fdiv c2_ 288230376151711744)) Ax.h0 = some ((Value.pointer (some ⟨0, ((Int.fdiv c2_ 288230376151711744)).toNat, some 0⟩)), Ax.h0)) (ixTab (e := 5) (m := 64) (by kernel_rfl) (by kernel_rfl) hc3) <|
   yy 15 (.ld (Value.int .u8 ((tb_deBruijn64tab).getD ((Int.fdiv c2_ 288230376151711744)).toNat 0))) <|
   ww (p := Lg P 5 (Value.pointer (some ⟨0, ((Int.fdiv c2_ 288230376151711744)).toNat, some 0⟩)) (Value.int .u8 ((tb_deBruijn64tab).getD ((Int.fdiv c2_ 288230376151711744)).toNat 0))) (ldTab (g := 0) (L := tb_deBruijn64tab) rfl (by kernel_rfl) (qvb_ hc3)) <|
   ee) (by kernel_rfl)

def qno_ (a0 : Int) (a1 : Bool) (a2 : Int) (a3 : Int) (a4 : Int) (a5 : Int) (a6 : Int) : List Value := [(Value.int .u8 a6)]
def qnp_ (a0 : Int) (a1 : Bool) (a2 : Int) (a3 : Int) (a4 : Int) (a5 : Int) (a6 : Int) : AH := ⟨sB [(0, (some (rblk P 6 [false, true, false, true] .ready none [(2, (pN 2 0)), (3, (pN 3 0)), (6, (Value.func (.func 40) #[] #[(pN 4 0)]))] 1))), (1, (some (.marks true))), (2, (some (.cells (layT [(Value.int .u8 a0)]) 5))), (3, (some (.cells (layT [(bO a1)]) 4))), (4, (some (.cells (layT [(Value.int .u64 a2), (Value.int .u64 a3), (Value.int .u64 a4), (Value.int .u64 a5)]) 24)))], 5, 5⟩
def qls_ (a0 : Int) (a1 : Bool) (a2 : Int) (a3 : Int) (a4 : Int) (a5 : Int) (a6 : Int) (r : Unit) : Value := match r with
 | _ => (bO false)
def qlt_ (a0 : Int) (a1 : Bool) (a2 : Int) (a3 : Int) (a4 : Int) (a5 : Int) (a6 : Int) (r : Unit) : AH := match r with
 | _ => ⟨sB [(0, (some (rblk P 6 [false, true, false, true] .done (some .ret) [(2, (pN 2 0)), (3, (pN 3 0)), (6, (Value.func (.func 40) #[] #[(pN 4 0)]))] 1))), (1, (some (.marks true))), (2, (some (.cells (layT [(Value.int .u8 a6)]) 5))), (3, (some (.cells (layT [(bO true)]) 4))), (4, (some (.cells (layT [(Value.int .u64 a2), (Value.int .u64 a3), (Value.int .u64 a4), (Value.int .u64 a5)]) 24)))], 5, 0⟩
abbrev G_classLeast_1010y1 (a0 : Int) (a1 : Bool) (a2 : Int) (a3 : Int) (a4 : Int) (a5 : Int) (a6 : Int) (r : Unit) : Prop := Gv P (.yield 0) (qno_ a0 a1 a2 a3 a4 a5 a6) (qnp_ a0 a1 a2 a3 a4 a5 a6) (qls_ a0 a1 a2 a3 a4 a5 a6 r) (qlt_ a0 a1 a2 a3 a4 a5 a6 r)
abbrev qr5_ (a0 : Int) (a1 : Bool) (a2 : Int) (a3 : Int) (a4 : Int) (a5 : Int) (a6 : Int) (r : Unit) (ins outs : BL) : CallA := ⟨5, ins, qls_ a0 a1 a2 a3 a4 a5 a6 r, qlt_ a0 a1 a2 a3 a4 a5 a6 r, outs⟩
def qlu_ (n : Nat) (a0 : Int) (a1 : Bool) (a2 : Int) (a3 : Int) (a4 : Int) (a5 : Int) (a6 : Int) : Option (Unit) :=
 some ()
theorem qpt_ (n : Nat) (a0 : Int) (a1 : Bool) (a2 : Int) (a3 : Int) (a4 : Int) (a5 : Int) (a6 : Int) (r : Unit) (h : qlu_ n a0 a1 a2 a3 a4 a5 a6 = some r) : Gv P (.yield 0) (qno_ a0 a1 a2 a3 a4 a5 a6) (qnp_ a0 a1 a2 a3 a4 a5 a6) (qls_ a0 a1 a2 a3 a4 a5 a6 r) (qlt_ a0 a1 a2 a3 a4 a5 a6 r) := by
 unfold qlu_ at h
 obtain rfl := oI h
 exact runY2 hm ⟨[], [(0, 0, false), (1, 1, false), (2, 2, false), (3, 3, false), (4, 4, false)], 5, 0, [], false, [], [], []⟩ (ee) (ee) (by kernel_rfl)

def qr6_ (a0 : Int) (a1 : Bool) (a2 : Int) (a3 : Int) (a4 : Int) (a5 : Int) : List Value := [(Value.func (.yield 0) #[] #[]), (pN 4 0)]
def qr7_ (a0 : Int) (a1 : Bool) (a2 : Int) (a3 : Int) (a4 : Int) (a5 : Int) : AH := ⟨sB [(0, (some (rblk P 6 [false, true, false, true] .ready none [(2, (pN 2 0)), (3, (pN 3 0)), (6, (Value.func (.func 40) #[] #[(pN 4 0)]))] 1))), (1, (some (.marks true))), (2, (some (.cells (layT [(Value.int .u8 a0)]) 5))), (3, (some (.cells (layT [(bO a1)]) 4))), (4, (some (.cells (layT [(Value.int .u64 a2), (Value.int .u64 a3), (Value.int .u64 a4), (Value.int .u64 a5)]) 24)))], 5, 5⟩
def qom_ (a0 : Int) (a1 : Bool) (a2 : Int) (a3 : Int) (a4 : Int) (a5 : Int) (r : (Unit) ⊕ (Int)) : Value := match r with
 | .inl _ => (Value.tuple #[])
 | .inr o0 => (Value.tuple #[])
def qon_ (a0 : Int) (a1 : Bool) (a2 : Int) (a3 : Int) (a4 : Int) (a5 : Int) (r : (Unit) ⊕ (Int)) : AH := match r with
 | .inl _ => ⟨sB [(0, (some (rblk P 6 [false, true, false, true] .ready none [(2, (pN 2 0)), (3, (pN 3 0)), (6, (Value.func (.func 40) #[] #[(pN 4 0)]))] 1))), (1, (some (.marks true))), (2, (some (.cells (layT [(Value.int .u8 a0)]) 5))), (3, (some (.cells (layT [(bO a1)]) 4))), (4, (some (.cells (layT [(Value.int .u64 a2), (Value.int .u64 a3), (Value.int .u64 a4), (Value.int .u64 a5)]) 24)))], 5, 5⟩
 | .inr o0 => ⟨sB [(0, (some (rblk P 6 [false, true, false, true] .done (some .ret) [(2, (pN 2 0)), (3, (pN 3 0)), (6, (Value.func (.func 40) #[] #[(pN 4 0)]))] 1))), (1, (some (.marks true))), (2, (some (.cells (layT [(Value.int .u8 o0)]) 5))), (3, (some (.cells (layT [(bO true)]) 4))), (4, (some (.cells (layT [(Value.int .u64 a2), (Value.int .u64 a3), (Value.int .u64 a4), (Value.int .u64 a5)]) 24)))], 5, 0⟩
abbrev G_classEach1q1 (a0 : Int) (a1 : Bool) (a2 : Int) (a3 : Int) (a4 : Int) (a5 : Int) (r : (Unit) ⊕ (Int)) : Prop := Gv P (.func 40) (qr6_ a0 a1 a2 a3 a4 a5) (qr7_ a0 a1 a2 a3 a4 a5) (qom_ a0 a1 a2 a3 a4 a5 r) (qon_ a0 a1 a2 a3 a4 a5 r)
abbrev qr8_ (a0 : Int) (a1 : Bool) (a2 : Int) (a3 : Int) (a4 : Int) (a5 : Int) (r : (Unit) ⊕ (Int)) (ins outs : BL) : CallA := ⟨5, ins, qom_ a0 a1 a2 a3 a4 a5 r, qon_ a0 a1 a2 a3 a4 a5 r, outs⟩
def qjt_ (x0 : Int) (x1 : Bool) (x2 : Int) (x3 : Int) (x4 : Int) (x5 : Int) (x6 : Int) (x7 : Int) (st : Unit) : XSt := match st with
 | _ => (sT 26 [(0, (Value.func (.yield 0) #[] #[])), (3, (i6 x6)), (4, (Value.int .u64 x7)), (5, (Value.agg #[(Value.int .u64 x2), (Value.int .u64 x3), (Value.int .u64 x4), (Value.int .u64 x5)])), (6, (i6 x6))], [], ⟨sB [(0, (some (rblk P 6 [false, true, false, true] .ready none [(2, (pN 2 0)), (3, (pN 3 0)), (6, (Value.func (.func 40) #[] #[(pN 4 0)]))] 1))), (1, (some (.marks true))), (2, (some (.cells (layT [(Value.int .u8 x0)]) 5))), (3, (some (.cells (layT [(bO x1)]) 4))), (4, (some (.cells (layT [(Value.int .u64 x2), (Value.int .u64 x3), (Value.int .u64 x4), (Value.int .u64 x5)]) 24)))], 5, 5⟩)
def qce_ (x0 : Int) (x1 : Bool) (x2 : Int) (x3 : Int) (x4 : Int) (x5 : Int) (x6 : Int) (x7 : Int) (r : (Unit) ⊕ (Int)) : Ex × XSt := match r with
 | .inl _ => (.exit 2, (sT 26 [(0, (Value.func (.yield 0) #[] #[])), (5, (Value.agg #[(Value.int .u64 x2), (Value.int .u64 x3), (Value.int .u64 x4), (Value.int .u64 x5)])), (6, (i6 x6))], [], ⟨sB [(0, (some (rblk P 6 [false, true, false, true] .ready none [(2, (pN 2 0)), (3, (pN 3 0)), (6, (Value.func (.func 40) #[] #[(pN 4 0)]))] 1))), (1, (some (.marks true))), (2, (some (.cells (layT [(Value.int .u8 x0)]) 5))), (3, (some (.cells (layT [(bO x1)]) 4))), (4, (some (.cells (layT [(Value.int .u64 x2), (Value.int .u64 x3), (Value.int .u64 x4), (Value.int .u64 x5)]) 24)))], 5, 5⟩))
 | .inr z0 => (.ret, (sT 26 [], [], ⟨sB [(0, (some (rblk P 6 [false, true, false, true] .done (some .ret) [(2, (pN 2 0)), (3, (pN 3 0)), (6, (Value.func (.func 40) #[] #[(pN 4 0)]))] 1))), (1, (some (.marks true))), (2, (some (.cells (layT [(Value.int .u8 z0)]) 5))), (3, (some (.cells (layT [(bO true)]) 4))), (4, (some (.cells (layT [(Value.int .u64 x2), (Value.int .u64 x3), (Value.int .u64 x4), (Value.int .u64 x5)]) 24)))], 5, 0⟩))
abbrev Q_classEach1q1_1 (rnd : Option Nat) (x0 : Int) (x1 : Bool) (x2 : Int) (x3 : Int) (x4 : Int) (x5 : Int) (x6 : Int) (x7 : Int) (st : Unit) (c : Ex × XSt) : Prop := CG P rnd (fnN P 40) 5 (qt_ P 40 [false, false, true, false, false, true, true, false, false, true]) (qjt_ x0 x1 x2 x3 x4 x5 x6 x7 st) c
def qju_ (n : Nat) (x0 : Int) (x1 : Bool) (x2 : Int) (x3 : Int) (x4 : Int) (x5 : Int) (x6 : Int) (x7 : Int) (st : Unit) : Option ((Unit) ⊕ ((Unit) ⊕ (Int))) := match st with
 | _ =>
  if x7 = 0 then
   some (.inr (.inl ()))
  else
   (qb7_ n x7).bind fun y2_ =>
   ((some (w64 ((w64 (x6 * 64)) + y2_)))).bind fun y3_ =>
   (qlu_ n x0 x1 x2 x3 x4 x5 (IntKind.u8.wrap y3_)).bind fun _ =>
   some (.inr (.inr (IntKind.u8.wrap y3_)))
def qd1_ (n : Nat) (x0 : Int) (x1 : Bool) (x2 : Int) (x3 : Int) (x4 : Int) (x5 : Int) (x6 : Int) (x7 : Int) (st : Unit) : Option ((Unit) ⊕ (Int)) := iterM (qju_ n x0 x1 x2 x3 x4 x5 x6 x7) n st
theorem qpu_ (n : Nat) {rnd : Option Nat} (x0 : Int) (x1 : Bool) (x2 : Int) (x3 : Int) (x4 : Int) (x5 : Int) (x6 : Int) (x7 : Int) (st : Unit) (o : (Unit) ⊕ ((Unit) ⊕ (Int))) (h : qju_ n x0 x1 x2 x3 x4 x5 x6 x7 st = some o) : CG P rnd (fnN P 40) 5 (qt_ P 40 [false, false, true, false, false, true, true, false, false, true]) (qjt_ x0 x1 x2 x3 x4 x5 x6 x7 st) (Sum.elim (fun s => (.normal, qjt_ x0 x1 x2 x3 x4 x5 x6 x7 s)) (fun r => qce_ x0 x1 x2 x3 x4 x5 x6 x7 r) o) := by
 unfold qju_ at h
 dsimp only at h
 by_cases hy1 : x7 = 0
 ·rw [if_pos hy1] at h
  obtain rfl := oI h
  exact runC2 hm ⟨[0, 5, 6], [(0, 0, false), (1, 1, false), (2, 2, false), (3, 3, false), (4, 4, false)], 5, 5, [], false, [], [], []⟩ (zz 3 (xnF hy1) <|
   ee) (by kernel_rfl)
 ·rw [if_neg hy1] at h
  obtain ⟨y2_, hy2, h⟩ := oB h
  obtain ⟨y3_, hy3, h⟩ := oB h
  obtain ⟨_, hy4, h⟩ := oB h
  obtain rfl := oI h
  exact runC2 hm ⟨[], [(0, 0, false), (1, 1, false), (2, 2, false), (3, 3, false), (4, 4, false)], 5, 0, [], false, [], [], []⟩ (zz 3 (xnT hy1) <|
   yy 12 (.call (qo1_ x7 y2_ [] [])) <|
   ww (qny_ n x7 y2_ hy2) <|
   zz 13 (xnm hy3) <|
   yy 15 (.call (qr5_ x0 x1 x2 x3 x4 x5 (IntKind.u8.wrap y3_) () [(0, 0, false), (1, 1, false), (2, 2, false), (3, 3, false), (4, 4, false)] [(0, 0, false), (1, 1, false), (2, 2, false), (3, 3, false), (4, 4, false)])) <|
   ww (qpt_ n x0 x1 x2 x3 x4 x5 (IntKind.u8.wrap y3_) () hy4) <|
   ee) (by kernel_rfl)
theorem qez_ (n : Nat) {rnd : Option Nat} (x0 : Int) (x1 : Bool) (x2 : Int) (x3 : Int) (x4 : Int) (x5 : Int) (x6 : Int) (x7 : Int) (st : Unit) (r : (Unit) ⊕ (Int)) (h : qd1_ n x0 x1 x2 x3 x4 x5 x6 x7 st = some r) : CG P rnd (fnN P 40) 5 (qt_ P 40 [false, true, false, false, true, true, false, false, true]) (qjt_ x0 x1 x2 x3 x4 x5 x6 x7 st) (qce_ x0 x1 x2 x3 x4 x5 x6 x7 r) :=
 CG.iter (b := qt_ P 40 [false, false, true, false, false, true, true, false, false, true]) (by kernel_rfl) (body := qju_ n x0 x1 x2 x3 x4 x5 x6 x7) (S := qjt_ x0 x1 x2 x3 x4 x5 x6 x7) (X := qce_ x0 x1 x2 x3 x4 x5 x6 x7)
  (fun s s' h => qpu_ n x0 x1 x2 x3 x4 x5 x6 x7 s (.inl s') h)
  (fun s r h => qpu_ n x0 x1 x2 x3 x4 x5 x6 x7 s (.inr r) h)
  (fun r => by intro hx; rcases r with _ | _ <;> cases hx) h
def qi3_ (n : Nat) (a0 : Int) (a1 : Bool) (a2 : Int) (a3 : Int) (a4 : Int) (a5 : Int) : Option ((Unit) ⊕ (Int)) :=
 match qd1_ n a0 a1 a2 a3 a4 a5 0 a2 () with
 | none => none
 | some (.inl _) =>
  match qd1_ n a0 a1 a2 a3 a4 a5 1 a3 () with
  | none => none
  | some (.inl _) =>
   match qd1_ n a0 a1 a2 a3 a4 a5 2 a4 () with
   | none => none
   | some (.inl _) =>
    match qd1_ n a0 a1 a2 a3 a4 a5 3 a5 () with
    | none => none
    | some (.inl _) =>
     some (.inl ())
    | some (.inr c4_) =>
     some (.inr c4_)
   | some (.inr c3_) =>
    some (.inr c3_)
  | some (.inr c2_) =>
   some (.inr c2_)
 | some (.inr c1_) =>
  some (.inr c1_)
theorem qoy_ (n : Nat) (a0 : Int) (a1 : Bool) (a2 : Int) (a3 : Int) (a4 : Int) (a5 : Int) (r : (Unit) ⊕ (Int)) (h : qi3_ n a0 a1 a2 a3 a4 a5 = some r) : Gv P (.func 40) (qr6_ a0 a1 a2 a3 a4 a5) (qr7_ a0 a1 a2 a3 a4 a5) (qom_ a0 a1 a2 a3 a4 a5 r) (qon_ a0 a1 a2 a3 a4 a5 r) := by
 unfold qi3_ at h
 rcases hc1 : qd1_ n a0 a1 a2 a3 a4 a5 0 a2 () with _ | (⟨⟩ | c1_)
 ·rw [hc1] at h; cases h
 ·rw [hc1] at h
  dsimp only at h
  have k0 := fun {A L l} (k : PL A L l) => ww (qez_ n (rnd := none) a0 a1 a2 a3 a4 a5 0 a2 () (.inl ()) hc1) <|
   ll 17 ⟨⟨[0, 3, 4, 5, 6], [(0, 0, false), (1, 1, false), (2, 2, false), (3, 3, false), (4, 4, false)], 5, 5, [], false, [], [], []⟩, (qce_ a0 a1 a2 a3 a4 a5 0 a2 (.inl ())).1, (qce_ a0 a1 a2 a3 a4 a5 0 a2 (.inl ())).2⟩ <|
   k
  rcases hc2 : qd1_ n a0 a1 a2 a3 a4 a5 1 a3 () with _ | (⟨⟩ | c2_)
  ·rw [hc2] at h; cases h
  ·rw [hc2] at h
   dsimp only at h
   have k2 := fun {A L l} (k : PL A L l) => ww (qez_ n (rnd := none) a0 a1 a2 a3 a4 a5 1 a3 () (.inl ()) hc2) <|
    ll 33 ⟨⟨[0, 3, 4, 5, 6], [(0, 0, false), (1, 1, false), (2, 2, false), (3, 3, false), (4, 4, false)], 5, 5, [], false, [], [], []⟩, (qce_ a0 a1 a2 a3 a4 a5 1 a3 (.inl ())).1, (qce_ a0 a1 a2 a3 a4 a5 1 a3 (.inl ())).2⟩ <|
    k
   rcases hc3 : qd1_ n a0 a1 a2 a3 a4 a5 2 a4 () with _ | (⟨⟩ | c3_)
   ·rw [hc3] at h; cases h
   ·rw [hc3] at h
    dsimp only at h
    have k4 := fun {A L l} (k : PL A L l) => ww (qez_ n (rnd := none) a0 a1 a2 a3 a4 a5 2 a4 () (.inl ()) hc3) <|
     ll 49 ⟨⟨[0, 3, 4, 5, 6], [(0, 0, false), (1, 1, false), (2, 2, false), (3, 3, false), (4, 4, false)], 5, 5, [], false, [], [], []⟩, (qce_ a0 a1 a2 a3 a4 a5 2 a4 (.inl ())).1, (qce_ a0 a1 a2 a3 a4 a5 2 a4 (.inl ())).2⟩ <|
     k
    rcases hc4 : qd1_ n a0 a1 a2 a3 a4 a5 3 a5 () with _ | (⟨⟩ | c4_)
    ·rw [hc4] at h; cases h
    ·rw [hc4] at h
     dsimp only at h
     obtain rfl := oI h
     exact runF2 hm ⟨[], [(0, 0, false), (1, 1, false), (2, 2, false), (3, 3, false), (4, 4, false)], 5, 5, [], false, [], [], []⟩ (k0 <|
      k2 <|
      k4 <|
      ww (qez_ n (rnd := none) a0 a1 a2 a3 a4 a5 3 a5 () (.inl ()) hc4) <|
      ll 65 ⟨⟨[0, 3, 4, 5, 6], [(0, 0, false), (1, 1, false), (2, 2, false), (3, 3, false), (4, 4, false)], 5, 5, [], false, [], [], []⟩, (qce_ a0 a1 a2 a3 a4 a5 3 a5 (.inl ())).1, (qce_ a0 a1 a2 a3 a4 a5 3 a5 (.inl ())).2⟩ <|
      ee) (by kernel_rfl)
    ·rw [hc4] at h
     dsimp only at h
     obtain rfl := oI h
     exact runF2 hm ⟨[], [(0, 0, false), (1, 1, false), (2, 2, false), (3, 3, false), (4, 4, false)], 5, 0, [], false, [], [], []⟩ (k0 <|
      k2 <|
      k4 <|
      ww (qez_ n (rnd := none) a0 a1 a2 a3 a4 a5 3 a5 () (.inr c4_) hc4) <|
      ll 65 ⟨⟨[0, 3, 4, 5, 6], [(0, 0, false), (1, 1, false), (2, 2, false), (3, 3, false), (4, 4, false)], 5, 5, [], false, [], [], []⟩, (qce_ a0 a1 a2 a3 a4 a5 3 a5 (.inr c4_)).1, (qce_ a0 a1 a2 a3 a4 a5 3 a5 (.inr c4_)).2⟩ <|
      ee) (by kernel_rfl)
   ·rw [hc3] at h
    dsimp only at h
    obtain rfl := oI h
    exact runF2 hm ⟨[], [(0, 0, false), (1, 1, false), (2, 2, false), (3, 3, false), (4, 4, false)], 5, 0, [], false, [], [], []⟩ (k0 <|
     k2 <|
     ww (qez_ n (rnd := none) a0 a1 a2 a3 a4 a5 2 a4 () (.inr c3_) hc3) <|
     ll 49 ⟨⟨[0, 3, 4, 5, 6], [(0, 0, false), (1, 1, false), (2, 2, false), (3, 3, false), (4, 4, false)], 5, 5, [], false, [], [], []⟩, (qce_ a0 a1 a2 a3 a4 a5 2 a4 (.inr c3_)).1, (qce_ a0 a1 a2 a3 a4 a5 2 a4 (.inr c3_)).2⟩ <|
     ee) (by kernel_rfl)
  ·rw [hc2] at h
   dsimp only at h
   obtain rfl := oI h
   exact runF2 hm ⟨[], [(0, 0, false), (1, 1, false), (2, 2, false), (3, 3, false), (4, 4, false)], 5, 0, [], false, [], [], []⟩ (k0 <|
    ww (qez_ n (rnd := none) a0 a1 a2 a3 a4 a5 1 a3 () (.inr c2_) hc2) <|
    ll 33 ⟨⟨[0, 3, 4, 5, 6], [(0, 0, false), (1, 1, false), (2, 2, false), (3, 3, false), (4, 4, false)], 5, 5, [], false, [], [], []⟩, (qce_ a0 a1 a2 a3 a4 a5 1 a3 (.inr c2_)).1, (qce_ a0 a1 a2 a3 a4 a5 1 a3 (.inr c2_)).2⟩ <|
    ee) (by kernel_rfl)
 ·rw [hc1] at h
  dsimp only at h
  obtain rfl := oI h
  exact runF2 hm ⟨[], [(0, 0, false), (1, 1, false), (2, 2, false), (3, 3, false), (4, 4, false)], 5, 0, [], false, [], [], []⟩ (ww (qez_ n (rnd := none) a0 a1 a2 a3 a4 a5 0 a2 () (.inr c1_) hc1) <|
   ll 17 ⟨⟨[0, 3, 4, 5, 6], [(0, 0, false), (1, 1, false), (2, 2, false), (3, 3, false), (4, 4, false)], 5, 5, [], false, [], [], []⟩, (qce_ a0 a1 a2 a3 a4 a5 0 a2 (.inr c1_)).1, (qce_ a0 a1 a2 a3 a4 a5 0 a2 (.inr c1_)).2⟩ <|
   ee) (by kernel_rfl)

def qr9_ (a0 : Int) (a1 : Int) (a2 : Int) (a3 : Int) : List Value := [(Value.agg #[(Value.int .u64 a0), (Value.int .u64 a1), (Value.int .u64 a2), (Value.int .u64 a3)])]
def qsa_ (a0 : Int) (a1 : Int) (a2 : Int) (a3 : Int) : AH := ⟨sB [], 0, 0⟩
def qoo_ (a0 : Int) (a1 : Int) (a2 : Int) (a3 : Int) (r : Int × Bool) : Value := match r with
 | (o0, o1) => (Value.tuple #[(Value.int .u8 o0), (bO o1)])
def qop_ (a0 : Int) (a1 : Int) (a2 : Int) (a3 : Int) (r : Int × Bool) : AH := match r with
 | (o0, o1) => ⟨sB [(0, (some (.marks false))), (1, (some (.cells (layT [(Value.int .u8 o0)]) 5))), (2, (some (.cells (layT [(bO o1)]) 4)))], 3, 0⟩
abbrev G_classLeastq1 (a0 : Int) (a1 : Int) (a2 : Int) (a3 : Int) (r : Int × Bool) : Prop := Gv P (.func 6) (qr9_ a0 a1 a2 a3) (qsa_ a0 a1 a2 a3) (qoo_ a0 a1 a2 a3 r) (qop_ a0 a1 a2 a3 r)
abbrev qm1_ (a0 : Int) (a1 : Int) (a2 : Int) (a3 : Int) (r : Int × Bool) (ins outs : BL) : CallA := ⟨0, ins, qoo_ a0 a1 a2 a3 r, qop_ a0 a1 a2 a3 r, outs⟩
def qd0_ (n : Nat) (a0 : Int) (a1 : Int) (a2 : Int) (a3 : Int) : Option (Int × Bool) :=
 (qla_ n a0 a1 a2 a3).bind fun _ =>
 match qi3_ n 0 false a0 a1 a2 a3 with
 | none => none
 | some (.inl _) =>
  some (0, false)
 | some (.inr c2_) =>
  some (c2_, true)
theorem qky_ (n : Nat) (a0 : Int) (a1 : Int) (a2 : Int) (a3 : Int) (r : Int × Bool) (h : qd0_ n a0 a1 a2 a3 = some r) : Gv P (.func 6) (qr9_ a0 a1 a2 a3) (qsa_ a0 a1 a2 a3) (qoo_ a0 a1 a2 a3 r) (qop_ a0 a1 a2 a3 r) := by
 unfold qd0_ at h
 obtain ⟨_, hc1, h⟩ := oB h
 have k0 := fun {A L l} (k : PL A L l) => yy 7 (.call (C_classEachq1 a0 a1 a2 a3 () [] [(3, 0, false)])) <|
  ww (qvn_ n a0 a1 a2 a3 () hc1) <|
  k
 rcases hc2 : qi3_ n 0 false a0 a1 a2 a3 with _ | (⟨⟩ | c2_)
 ·rw [hc2] at h; cases h
 ·rw [hc2] at h
  dsimp only at h
  obtain rfl := oI h
  exact runF2 hm ⟨[2, 3], [(0, 4, false), (1, 1, false), (2, 2, false)], 3, 0, [], false, [], [], []⟩ (k0 <|
   yy 9 (.rng (qr8_ 0 false a0 a1 a2 a3 (.inl ()) [(0, 5, false), (1, 4, false), (2, 1, false), (3, 2, false), (4, 3, false)] [(5, 0, false), (4, 1, false), (1, 2, false), (2, 3, false), (3, 4, false)]) [2, 3, 6]) <|
   ww (qoy_ n 0 false a0 a1 a2 a3 (.inl ()) hc2) <|
   ee) (by kernel_rfl)
 ·rw [hc2] at h
  dsimp only at h
  obtain rfl := oI h
  exact runF2 hm ⟨[2, 3], [(0, 4, false), (1, 1, false), (2, 2, false)], 3, 0, [], false, [], [], []⟩ (k0 <|
   yy 9 (.rng (qr8_ 0 false a0 a1 a2 a3 (.inr c2_) [(0, 5, false), (1, 4, false), (2, 1, false), (3, 2, false), (4, 3, false)] [(5, 0, false), (4, 1, false), (1, 2, false), (2, 3, false), (3, 4, false)]) [2, 3, 6]) <|
   ww (qoy_ n 0 false a0 a1 a2 a3 (.inr c2_) hc2) <|
   ee) (by kernel_rfl)

def qpv_ (a0 : Int) : List Value := [(Value.int .u8 a0)]
def qpw_ (a0 : Int) : AH := ⟨sB [], 0, 0⟩
def qnd_ (a0 : Int) (r : Unit) : Value := match r with
 | _ => (bO false)
def qne_ (a0 : Int) (r : Unit) : AH := match r with
 | _ => ⟨sB [], 0, 0⟩
abbrev G_cmpisNaNbyteq1 (a0 : Int) (r : Unit) : Prop := Gv P (.func 56) (qpv_ a0) (qpw_ a0) (qnd_ a0 r) (qne_ a0 r)
abbrev qpx_ (a0 : Int) (r : Unit) (ins outs : BL) : CallA := ⟨0, ins, qnd_ a0 r, qne_ a0 r, outs⟩
def qjv_ (n : Nat) (a0 : Int) : Option (Unit) :=
 some ()
theorem qnq_ (n : Nat) (a0 : Int) (r : Unit) (h : qjv_ n a0 = some r) : Gv P (.func 56) (qpv_ a0) (qpw_ a0) (qnd_ a0 r) (qne_ a0 r) := by
 unfold qjv_ at h
 obtain rfl := oI h
 exact runF2 hm ⟨[2], [], 0, 0, [], false, [], [], []⟩ (zz 5 (xnF (a := a0) rfl) <|
  ee) (by kernel_rfl)

def qoa_ (a0 : Int) (a1 : Int) : List Value := [(Value.int .u8 a0), (Value.int .u8 a1)]
def qob_ (a0 : Int) (a1 : Int) : AH := ⟨sB [], 0, 0⟩
def qme_ (a0 : Int) (a1 : Int) (r : Int) : Value := match r with
 | o0 => (i6 o0)
def qmf_ (a0 : Int) (a1 : Int) (r : Int) : AH := match r with
 | o0 => ⟨sB [], 0, 0⟩
abbrev G_cmpComparebyteq1 (a0 : Int) (a1 : Int) (r : Int) : Prop := Gv P (.func 45) (qoa_ a0 a1) (qob_ a0 a1) (qme_ a0 a1 r) (qmf_ a0 a1 r)
abbrev qsy_ (a0 : Int) (a1 : Int) (r : Int) (ins outs : BL) : CallA := ⟨0, ins, qme_ a0 a1 r, qmf_ a0 a1 r, outs⟩
def qj6_ (n : Nat) (a0 : Int) (a1 : Int) : Option (Int) :=
 (qjv_ n a0).bind fun _ =>
 (qjv_ n a1).bind fun _ =>
 if a0 < a1 then
  some (-1)
 else
  if a0 > a1 then
   some 1
  else
   some 0
theorem qqe_ (n : Nat) (a0 : Int) (a1 : Int) (r : Int) (h : qj6_ n a0 a1 = some r) : Gv P (.func 45) (qoa_ a0 a1) (qob_ a0 a1) (qme_ a0 a1 r) (qmf_ a0 a1 r) := by
 unfold qj6_ at h
 obtain ⟨_, hc1, h⟩ := oB h
 obtain ⟨_, hc2, h⟩ := oB h
 have k0 := fun {A L l} (k : PL A L l) => yy 4 (.call (qpx_ a0 () [] [])) <|
  ww (qnq_ n a0 () hc1) <|
  yy 8 (.call (qpx_ a1 () [] [])) <|
  ww (qnq_ n a1 () hc2) <|
  k
 by_cases hc3 : a0 < a1
 ·rw [if_pos hc3] at h
  obtain rfl := oI h
  exact runF2 hm ⟨[4], [], 0, 0, [], false, [], [], []⟩ (k0 <|
   zz 22 (xdT hc3) <|
   ee) (by kernel_rfl)
 ·rw [if_neg hc3] at h
  have k4 := fun {A L l} (k : PL A L l) => zz 22 (xdF hc3) <|
   k
  by_cases hc4 : a0 > a1
  ·rw [if_pos hc4] at h
   obtain rfl := oI h
   exact runF2 hm ⟨[4], [], 0, 0, [], false, [], [], []⟩ (k0 <|
    k4 <|
    zz 28 (xdT hc4) <|
    ee) (by kernel_rfl)
  ·rw [if_neg hc4] at h
   obtain rfl := oI h
   exact runF2 hm ⟨[4], [], 0, 0, [], false, [], [], []⟩ (k0 <|
    k4 <|
    zz 28 (xdF hc4) <|
    ee) (by kernel_rfl)

def qnr_ (a0 : Int) (a1 : Int) (a2 : Int) (a3 : Int) (a4 : Int) (a5 : Int) (a6 : Int) (a7 : Int) : List Value := [(Value.agg #[(Value.int .u64 a0), (Value.int .u64 a1), (Value.int .u64 a2), (Value.int .u64 a3)]), (Value.agg #[(Value.int .u64 a4), (Value.int .u64 a5), (Value.int .u64 a6), (Value.int .u64 a7)])]
def qns_ (a0 : Int) (a1 : Int) (a2 : Int) (a3 : Int) (a4 : Int) (a5 : Int) (a6 : Int) (a7 : Int) : AH := ⟨sB [], 0, 0⟩
def qlv_ (a0 : Int) (a1 : Int) (a2 : Int) (a3 : Int) (a4 : Int) (a5 : Int) (a6 : Int) (a7 : Int) (r : Int) : Value := match r with
 | o0 => (i6 o0)
def qlw_ (a0 : Int) (a1 : Int) (a2 : Int) (a3 : Int) (a4 : Int) (a5 : Int) (a6 : Int) (a7 : Int) (r : Int) : AH := match r with
 | o0 => ⟨sB [], 0, 0⟩
abbrev G_classbySmallestq1 (a0 : Int) (a1 : Int) (a2 : Int) (a3 : Int) (a4 : Int) (a5 : Int) (a6 : Int) (a7 : Int) (r : Int) : Prop := Gv P (.func 38) (qnr_ a0 a1 a2 a3 a4 a5 a6 a7) (qns_ a0 a1 a2 a3 a4 a5 a6 a7) (qlv_ a0 a1 a2 a3 a4 a5 a6 a7 r) (qlw_ a0 a1 a2 a3 a4 a5 a6 a7 r)
abbrev qbg_ (a0 : Int) (a1 : Int) (a2 : Int) (a3 : Int) (a4 : Int) (a5 : Int) (a6 : Int) (a7 : Int) (r : Int) (ins outs : BL) : CallA := ⟨0, ins, qlv_ a0 a1 a2 a3 a4 a5 a6 a7 r, qlw_ a0 a1 a2 a3 a4 a5 a6 a7 r, outs⟩
def qd_ (n : Nat) (a0 : Int) (a1 : Int) (a2 : Int) (a3 : Int) (a4 : Int) (a5 : Int) (a6 : Int) (a7 : Int) : Option (Int) :=
 (qd0_ n a0 a1 a2 a3).bind fun t => match t with
 | (c1_0, c1_1) =>
  (qd0_ n a4 a5 a6 a7).bind fun t => match t with
  | (c2_0, c2_1) =>
   (qj6_ n c1_0 c2_0).bind fun c3_ =>
   some c3_
theorem qw_ (n : Nat) (a0 : Int) (a1 : Int) (a2 : Int) (a3 : Int) (a4 : Int) (a5 : Int) (a6 : Int) (a7 : Int) (r : Int) (h : qd_ n a0 a1 a2 a3 a4 a5 a6 a7 = some r) : Gv P (.func 38) (qnr_ a0 a1 a2 a3 a4 a5 a6 a7) (qns_ a0 a1 a2 a3 a4 a5 a6 a7) (qlv_ a0 a1 a2 a3 a4 a5 a6 a7 r) (qlw_ a0 a1 a2 a3 a4 a5 a6 a7 r) := by
 unfold qd_ at h
 obtain ⟨⟨c1_0, c1_1⟩, hc1, h⟩ := oB h
 dsimp only at h
 obtain ⟨⟨c2_0, c2_1⟩, hc2, h⟩ := oB h
 dsimp only at h
 obtain ⟨c3_, hc3, h⟩ := oB h
 obtain rfl := oI h
 exact runF2 hm ⟨[4], [], 0, 0, [], false, [], [], []⟩ (yy 6 (.call (qm1_ a0 a1 a2 a3 (c1_0, c1_1) [] [(3, 1, false), (4, 2, false)])) <|
  ww (qky_ n a0 a1 a2 a3 (c1_0, c1_1) hc1) <|
  yy 14 (.call (qm1_ a4 a5 a6 a7 (c2_0, c2_1) [] [(6, 1, false), (7, 2, false)])) <|
  ww (qky_ n a4 a5 a6 a7 (c2_0, c2_1) hc2) <|
  yy 23 (.call (qsy_ c1_0 c2_0 c3_ [] [])) <|
  ww (qqe_ n c1_0 c2_0 c3_ hc3) <|
  ee) (by kernel_rfl)

def qgt_ (a0 : List (Int × Int × Int × Int)) (a1 : Nat) (a2 : Nat) (a3 : Int) (a4 : Int) : List Value := [(sN 0 0 a1 a2), (i6 a3), (i6 a4), (Value.func (.func 38) #[] #[])]
def qgu_ (a0 : List (Int × Int × Int × Int)) (a1 : Nat) (a2 : Nat) (a3 : Int) (a4 : Int) : AH := ⟨sB [(0, (some (.cells (layT (rows rw_uuuu a0)) 24)))], 1, 1⟩
def qeu_ (a0 : List (Int × Int × Int × Int)) (a1 : Nat) (a2 : Nat) (a3 : Int) (a4 : Int) (r : List (Int × Int × Int × Int)) : Value := match r with
 | o0 => (Value.tuple #[])
def qev_ (a0 : List (Int × Int × Int × Int)) (a1 : Nat) (a2 : Nat) (a3 : Int) (a4 : Int) (r : List (Int × Int × Int × Int)) : AH := match r with
 | o0 => ⟨sB [(0, (some (.cells (layT (rows rw_uuuu o0)) 24)))], 1, 0⟩
abbrev qqf_ (a0 : List (Int × Int × Int × Int)) (a1 : Nat) (a2 : Nat) (a3 : Int) (a4 : Int) (r : List (Int × Int × Int × Int)) : Prop := Gv P (.func 46) (qgt_ a0 a1 a2 a3 a4) (qgu_ a0 a1 a2 a3 a4) (qeu_ a0 a1 a2 a3 a4 r) (qev_ a0 a1 a2 a3 a4 r)
abbrev qkk_ (a0 : List (Int × Int × Int × Int)) (a1 : Nat) (a2 : Nat) (a3 : Int) (a4 : Int) (r : List (Int × Int × Int × Int)) (ins outs : BL) : CallA := ⟨1, ins, qeu_ a0 a1 a2 a3 a4 r, qev_ a0 a1 a2 a3 a4 r, outs⟩
def qbx_ (x1 : Nat) (x2 : Nat) (x3 : Int) (x4 : Int) (x5 : Int) (st : List (Int × Int × Int × Int) × Int) : XSt := match st with
 | (x0, x6) => (sT 53 [(0, (sN 0 0 x1 x2)), (1, (i6 x3)), (2, (i6 x4)), (3, (Value.func (.func 38) #[] #[])), (8, (i6 x5)), (9, (i6 x6))], [], ⟨sB [(0, (some (.cells (layT (rows rw_uuuu x0)) 24)))], 1, 0⟩)
def qby_ (x1 : Nat) (x2 : Nat) (x3 : Int) (x4 : Int) (x5 : Int) (r : List (Int × Int × Int × Int)) : Ex × XSt := match r with
 | z0 => (.exit 2, (sT 53 [(0, (sN 0 0 x1 x2)), (1, (i6 x3)), (2, (i6 x4)), (3, (Value.func (.func 38) #[] #[])), (8, (i6 x5))], [], ⟨sB [(0, (some (.cells (layT (rows rw_uuuu z0)) 24)))], 1, 0⟩))
abbrev qpy_ (rnd : Option Nat) (x1 : Nat) (x2 : Nat) (x3 : Int) (x4 : Int) (x5 : Int) (st : List (Int × Int × Int × Int) × Int) (c : Ex × XSt) : Prop := CG P rnd (fnN P 46) 1 (qt_ P 46 [false, false, true, false, false, true, false, false, true]) (qbx_ x1 x2 x3 x4 x5 st) c
abbrev qjw_ (rd : Option Nat) (x1 : Nat) (x2 : Nat) (x3 : Int) (x4 : Int) (x5 : Int) (st : List (Int × Int × Int × Int) × Int) (r : List (Int × Int × Int × Int)) : Prop := CG P rd (fnN P 46) 1 (qt_ P 46 [false, true, false, false, true, false, false, true]) (qbx_ x1 x2 x3 x4 x5 st) (qby_ x1 x2 x3 x4 x5 r)
def q9_ (n : Nat) (x1 : Nat) (x2 : Nat) (x3 : Int) (x4 : Int) (x5 : Int) (st : List (Int × Int × Int × Int) × Int) : Option ((List (Int × Int × Int × Int) × Int) ⊕ (List (Int × Int × Int × Int))) := match st with
 | (x0, x6) =>
  if x6 > x3 then
   if 0 ≤ x6 ∧ x6 < ((x1 : Nat) : Int) then
    if (x6).toNat < (x0).length then
     ((some ((x0).getD (x6).toNat (0, 0, 0, 0)))).bind fun y4_ =>
     if 0 ≤ (w64 (x6 - 1)) ∧ (w64 (x6 - 1)) < ((x1 : Nat) : Int) then
      if ((w64 (x6 - 1))).toNat < (x0).length then
       ((some ((x0).getD ((w64 (x6 - 1))).toNat (0, 0, 0, 0)))).bind fun y7_ =>
       (qd_ n (y4_.1) (y4_.2.1) (y4_.2.2.1) (y4_.2.2.2) (y7_.1) (y7_.2.1) (y7_.2.2.1) (y7_.2.2.2)).bind fun y8_ =>
       if y8_ < 0 then
        if ((w64 (x6 - 1))).toNat < (((x0).set (x6).toNat y7_)).length then
         some (.inl (((((x0).set (x6).toNat y7_)).set ((w64 (x6 - 1))).toNat y4_), (w64 (x6 - 1))))
        else none
       else
        some (.inr x0)
      else none
     else none
    else none
   else none
  else
   some (.inr x0)
def qea_ (n : Nat) (x1 : Nat) (x2 : Nat) (x3 : Int) (x4 : Int) (x5 : Int) (st : List (Int × Int × Int × Int) × Int) : Option (List (Int × Int × Int × Int)) := iterM (q9_ n x1 x2 x3 x4 x5) n st
theorem qf7_ (n : Nat) {rnd : Option Nat} (x1 : Nat) (x2 : Nat) (x3 : Int) (x4 : Int) (x5 : Int) (st : List (Int × Int × Int × Int) × Int) (o : (List (Int × Int × Int × Int) × Int) ⊕ (List (Int × Int × Int × Int))) (h : q9_ n x1 x2 x3 x4 x5 st = some o) : CG P rnd (fnN P 46) 1 (qt_ P 46 [false, false, true, false, false, true, false, false, true]) (qbx_ x1 x2 x3 x4 x5 st) (Sum.elim (fun s => (.normal, qbx_ x1 x2 x3 x4 x5 s)) (fun r => qby_ x1 x2 x3 x4 x5 r) o) := by
 obtain ⟨x0, x6⟩ := st
 unfold q9_ at h
 dsimp only at h
 by_cases hy1 : x6 > x3
 ·rw [if_pos hy1] at h
  obtain ⟨hy2, h⟩ := gd h
  obtain ⟨hy3, h⟩ := gd h
  obtain ⟨y4_, hy4, h⟩ := oB h
  obtain ⟨hy5, h⟩ := gd h
  obtain ⟨hy6, h⟩ := gd h
  obtain ⟨y7_, hy7, h⟩ := oB h
  obtain ⟨y8_, hy8, h⟩ := oB h
  have k0 := fun {A L l} (k : PL A L l) => zz 4 (xdT hy1) <|
   zz 9 (xk3 0 x2 hy2) <|
   yy 10 (.ld (Value.agg #[(Value.int .u64 (y4_.1)), (Value.int .u64 (y4_.2.1)), (Value.int .u64 (y4_.2.2.1)), (Value.int .u64 (y4_.2.2.2))])) <|
   ww (p := rdT (layT (rows rw_uuuu x0)) 4 ((x6).toNat * 4) = some [(Value.int .u64 (y4_.1)), (Value.int .u64 (y4_.2.1)), (Value.int .u64 (y4_.2.2.1)), (Value.int .u64 (y4_.2.2.2))]) (qn_ rwf_uuuu (0, 0, 0, 0) (hr := hy4) (i := (x6).toNat) (j := 0) ((x6).toNat * 4) rfl (hy3) (by decide) rfl) <|
   zz 14 (xk3 0 x2 hy5) <|
   yy 15 (.ld (Value.agg #[(Value.int .u64 (y7_.1)), (Value.int .u64 (y7_.2.1)), (Value.int .u64 (y7_.2.2.1)), (Value.int .u64 (y7_.2.2.2))])) <|
   ww (p := rdT (layT (rows rw_uuuu x0)) 4 (((w64 (x6 - 1))).toNat * 4) = some [(Value.int .u64 (y7_.1)), (Value.int .u64 (y7_.2.1)), (Value.int .u64 (y7_.2.2.1)), (Value.int .u64 (y7_.2.2.2))]) (qn_ rwf_uuuu (0, 0, 0, 0) (hr := hy7) (i := ((w64 (x6 - 1))).toNat) (j := 0) (((w64 (x6 - 1))).toNat * 4) rfl (hy6) (by decide) rfl) <|
   yy 16 (.call (qbg_ (y4_.1) (y4_.2.1) (y4_.2.2.1) (y4_.2.2.2) (y7_.1) (y7_.2.1) (y7_.2.2.1) (y7_.2.2.2) y8_ [] [])) <|
   ww (qw_ n (y4_.1) (y4_.2.1) (y4_.2.2.1) (y4_.2.2.2) (y7_.1) (y7_.2.1) (y7_.2.2.1) (y7_.2.2.2) y8_ hy8) <|
   k
  by_cases hy9 : y8_ < 0
  ·rw [if_pos hy9] at h
   obtain ⟨hy10, h⟩ := gd h
   obtain rfl := oI h
   exact runC2 hm ⟨[0, 1, 2, 3, 8, 9], [(0, 0, true)], 1, 0, [], false, [], [], []⟩ (k0 <|
    zz 17 (xdT hy9) <|
    zz 30 (xk3 0 x2 hy5) <|
    yy 31 (.ld (Value.agg #[(Value.int .u64 (y7_.1)), (Value.int .u64 (y7_.2.1)), (Value.int .u64 (y7_.2.2.1)), (Value.int .u64 (y7_.2.2.2))])) <|
    ww (p := rdT (layT (rows rw_uuuu x0)) 4 (((w64 (x6 - 1))).toNat * 4) = some [(Value.int .u64 (y7_.1)), (Value.int .u64 (y7_.2.1)), (Value.int .u64 (y7_.2.2.1)), (Value.int .u64 (y7_.2.2.2))]) (qn_ rwf_uuuu (0, 0, 0, 0) (hr := hy7) (i := ((w64 (x6 - 1))).toNat) (j := 0) (((w64 (x6 - 1))).toNat * 4) rfl (hy6) (by decide) rfl) <|
    zz 34 (xk3 0 x2 hy2) <|
    yy 35 (.ld (Value.agg #[(Value.int .u64 (y4_.1)), (Value.int .u64 (y4_.2.1)), (Value.int .u64 (y4_.2.2.1)), (Value.int .u64 (y4_.2.2.2))])) <|
    ww (p := rdT (layT (rows rw_uuuu x0)) 4 ((x6).toNat * 4) = some [(Value.int .u64 (y4_.1)), (Value.int .u64 (y4_.2.1)), (Value.int .u64 (y4_.2.2.1)), (Value.int .u64 (y4_.2.2.2))]) (qn_ rwf_uuuu (0, 0, 0, 0) (hr := hy4) (i := (x6).toNat) (j := 0) ((x6).toNat * 4) rfl (hy3) (by decide) rfl) <|
    zz 36 (xk3 0 x2 hy2) <|
    yy 37 (.sto (layT (rows rw_uuuu ((x0).set (x6).toNat y7_)))) <|
    ww (p := ∃ old, rdT (layT (rows rw_uuuu x0)) 4 ((x6).toNat * 4) = some old) (Exists.elim (qcx_ rwf_uuuu (0, 0, 0, 0) (i := (x6).toNat) (j := 0) (l := [(Value.int .u64 (y7_.1)), (Value.int .u64 (y7_.2.1)), (Value.int .u64 (y7_.2.2.1)), (Value.int .u64 (y7_.2.2.2))]) y7_ ((x6).toNat * 4) rfl (hy3) (Nat.le_of_ble_eq_true rfl) rfl) fun o h => ⟨o, h.1⟩) <|
    ww (p := layL [(Value.int .u64 (y7_.1)), (Value.int .u64 (y7_.2.1)), (Value.int .u64 (y7_.2.2.1)), (Value.int .u64 (y7_.2.2.2))] ((x6).toNat * 4) (layT (rows rw_uuuu x0)) = layT (rows rw_uuuu ((x0).set (x6).toNat y7_))) (Exists.elim (qcx_ rwf_uuuu (0, 0, 0, 0) (i := (x6).toNat) (j := 0) (l := [(Value.int .u64 (y7_.1)), (Value.int .u64 (y7_.2.1)), (Value.int .u64 (y7_.2.2.1)), (Value.int .u64 (y7_.2.2.2))]) y7_ ((x6).toNat * 4) rfl (hy3) (Nat.le_of_ble_eq_true rfl) rfl) fun o h => h.2) <|
    zz 38 (xk3 0 x2 hy5) <|
    yy 39 (.sto (layT (rows rw_uuuu ((((x0).set (x6).toNat y7_)).set ((w64 (x6 - 1))).toNat y4_)))) <|
    ww (p := ∃ old, rdT (layT (rows rw_uuuu ((x0).set (x6).toNat y7_))) 4 (((w64 (x6 - 1))).toNat * 4) = some old) (Exists.elim (qcx_ rwf_uuuu (0, 0, 0, 0) (i := ((w64 (x6 - 1))).toNat) (j := 0) (l := [(Value.int .u64 (y4_.1)), (Value.int .u64 (y4_.2.1)), (Value.int .u64 (y4_.2.2.1)), (Value.int .u64 (y4_.2.2.2))]) y4_ (((w64 (x6 - 1))).toNat * 4) rfl (hy10) (Nat.le_of_ble_eq_true rfl) rfl) fun o h => ⟨o, h.1⟩) <|
    ww (p := layL [(Value.int .u64 (y4_.1)), (Value.int .u64 (y4_.2.1)), (Value.int .u64 (y4_.2.2.1)), (Value.int .u64 (y4_.2.2.2))] (((w64 (x6 - 1))).toNat * 4) (layT (rows rw_uuuu ((x0).set (x6).toNat y7_))) = layT (rows rw_uuuu ((((x0).set (x6).toNat y7_)).set ((w64 (x6 - 1))).toNat y4_))) (Exists.elim (qcx_ rwf_uuuu (0, 0, 0, 0) (i := ((w64 (x6 - 1))).toNat) (j := 0) (l := [(Value.int .u64 (y4_.1)), (Value.int .u64 (y4_.2.1)), (Value.int .u64 (y4_.2.2.1)), (Value.int .u64 (y4_.2.2.2))]) y4_ (((w64 (x6 - 1))).toNat * 4) rfl (hy10) (Nat.le_of_ble_eq_true rfl) rfl) fun o h => h.2) <|
    ww (qa_ rwf_uuuu ((((x0).set (x6).toNat y7_)).set ((w64 (x6 - 1))).toNat y4_) 24) <|
    ee) (by kernel_rfl)
  ·rw [if_neg hy9] at h
   obtain rfl := oI h
   exact runC2 hm ⟨[0, 1, 2, 3, 8], [(0, 0, true)], 1, 0, [], false, [], [], []⟩ (k0 <|
    zz 17 (xdF hy9) <|
    ww (qa_ rwf_uuuu x0 24) <|
    ee) (by kernel_rfl)
 ·rw [if_neg hy1] at h
  obtain rfl := oI h
  exact runC2 hm ⟨[0, 1, 2, 3, 8], [(0, 0, true)], 1, 0, [], false, [], [], []⟩ (zz 4 (xdF hy1) <|
   ww (qa_ rwf_uuuu x0 24) <|
   ee) (by kernel_rfl)
theorem qja_ (n : Nat) {rnd : Option Nat} (x1 : Nat) (x2 : Nat) (x3 : Int) (x4 : Int) (x5 : Int) (st : List (Int × Int × Int × Int) × Int) (r : List (Int × Int × Int × Int)) (h : qea_ n x1 x2 x3 x4 x5 st = some r) : CG P rnd (fnN P 46) 1 (qt_ P 46 [false, true, false, false, true, false, false, true]) (qbx_ x1 x2 x3 x4 x5 st) (qby_ x1 x2 x3 x4 x5 r) :=
 CG.iter (b := qt_ P 46 [false, false, true, false, false, true, false, false, true]) (by kernel_rfl) (body := q9_ n x1 x2 x3 x4 x5) (S := qbx_ x1 x2 x3 x4 x5) (X := qby_ x1 x2 x3 x4 x5)
  (fun s s' h => qf7_ n x1 x2 x3 x4 x5 s (.inl s') h)
  (fun s r h => qf7_ n x1 x2 x3 x4 x5 s (.inr r) h)
  (fun r => by intro hx; cases hx) h
def qbz_ (x1 : Nat) (x2 : Nat) (x3 : Int) (x4 : Int) (st : List (Int × Int × Int × Int) × Int) : XSt := match st with
 | (x0, x5) => (sT 53 [(0, (sN 0 0 x1 x2)), (1, (i6 x3)), (2, (i6 x4)), (3, (Value.func (.func 38) #[] #[])), (8, (i6 x5))], [], ⟨sB [(0, (some (.cells (layT (rows rw_uuuu x0)) 24)))], 1, 0⟩)
def qb0_ (x1 : Nat) (x2 : Nat) (x3 : Int) (x4 : Int) (r : List (Int × Int × Int × Int)) : Ex × XSt := match r with
 | z0 => (.exit 0, (sT 53 [], [], ⟨sB [(0, (some (.cells (layT (rows rw_uuuu z0)) 24)))], 1, 0⟩))
abbrev qpz_ (rnd : Option Nat) (x1 : Nat) (x2 : Nat) (x3 : Int) (x4 : Int) (st : List (Int × Int × Int × Int) × Int) (c : Ex × XSt) : Prop := CG P rnd (fnN P 46) 1 (qt_ P 46 [false, false, true]) (qbz_ x1 x2 x3 x4 st) c
abbrev qjx_ (rd : Option Nat) (x1 : Nat) (x2 : Nat) (x3 : Int) (x4 : Int) (st : List (Int × Int × Int × Int) × Int) (r : List (Int × Int × Int × Int)) : Prop := CG P rd (fnN P 46) 1 (qt_ P 46 [false, true]) (qbz_ x1 x2 x3 x4 st) (qb0_ x1 x2 x3 x4 r)
def qb1_ (n : Nat) (x1 : Nat) (x2 : Nat) (x3 : Int) (x4 : Int) (st : List (Int × Int × Int × Int) × Int) : Option ((List (Int × Int × Int × Int) × Int) ⊕ (List (Int × Int × Int × Int))) := match st with
 | (x0, x5) =>
  if x5 < x4 then
   (qea_ n x1 x2 x3 x4 x5 (x0, x5)).bind fun y2_ =>
   some (.inl (y2_, (w64 (x5 + 1))))
  else
   some (.inr x0)
def qeb_ (n : Nat) (x1 : Nat) (x2 : Nat) (x3 : Int) (x4 : Int) (st : List (Int × Int × Int × Int) × Int) : Option (List (Int × Int × Int × Int)) := iterM (qb1_ n x1 x2 x3 x4) n st
theorem qf8_ (n : Nat) {rnd : Option Nat} (x1 : Nat) (x2 : Nat) (x3 : Int) (x4 : Int) (st : List (Int × Int × Int × Int) × Int) (o : (List (Int × Int × Int × Int) × Int) ⊕ (List (Int × Int × Int × Int))) (h : qb1_ n x1 x2 x3 x4 st = some o) : CG P rnd (fnN P 46) 1 (qt_ P 46 [false, false, true]) (qbz_ x1 x2 x3 x4 st) (Sum.elim (fun s => (.normal, qbz_ x1 x2 x3 x4 s)) (fun r => qb0_ x1 x2 x3 x4 r) o) := by
 obtain ⟨x0, x5⟩ := st
 unfold qb1_ at h
 dsimp only at h
 by_cases hy1 : x5 < x4
 ·rw [if_pos hy1] at h
  obtain ⟨y2_, hy2, h⟩ := oB h
  obtain rfl := oI h
  exact runC2 hm ⟨[0, 1, 2, 3, 8], [(0, 0, true)], 1, 0, [], false, [], [], []⟩ (zz 4 (xdT hy1) <|
   ww (p := qjw_ rnd x1 x2 x3 x4 x5 (x0, x5) y2_) (qja_ n x1 x2 x3 x4 x5 (x0, x5) y2_ hy2) <|
   ww (qa_ rwf_uuuu x0 24) <|
   ll 12 ⟨⟨[0, 1, 2, 3, 8, 9], [(0, 0, true)], 1, 0, [], false, [], [], []⟩, (qby_ x1 x2 x3 x4 x5 y2_).1, (qby_ x1 x2 x3 x4 x5 y2_).2⟩ <|
   ww (qa_ rwf_uuuu y2_ 24) <|
   ee) (by kernel_rfl)
 ·rw [if_neg hy1] at h
  obtain rfl := oI h
  exact runC2 hm ⟨[], [(0, 0, true)], 1, 0, [], false, [], [], []⟩ (zz 4 (xdF hy1) <|
   ww (qa_ rwf_uuuu x0 24) <|
   ee) (by kernel_rfl)
theorem qjb_ (n : Nat) {rnd : Option Nat} (x1 : Nat) (x2 : Nat) (x3 : Int) (x4 : Int) (st : List (Int × Int × Int × Int) × Int) (r : List (Int × Int × Int × Int)) (h : qeb_ n x1 x2 x3 x4 st = some r) : CG P rnd (fnN P 46) 1 (qt_ P 46 [false, true]) (qbz_ x1 x2 x3 x4 st) (qb0_ x1 x2 x3 x4 r) :=
 CG.iter (b := qt_ P 46 [false, false, true]) (by kernel_rfl) (body := qb1_ n x1 x2 x3 x4) (S := qbz_ x1 x2 x3 x4) (X := qb0_ x1 x2 x3 x4)
  (fun s s' h => qf8_ n x1 x2 x3 x4 s (.inl s') h)
  (fun s r h => qf8_ n x1 x2 x3 x4 s (.inr r) h)
  (fun r => by intro hx; cases hx) h
def qdh_ (n : Nat) (a0 : List (Int × Int × Int × Int)) (a1 : Nat) (a2 : Nat) (a3 : Int) (a4 : Int) : Option (List (Int × Int × Int × Int)) :=
 (qeb_ n a1 a2 a3 a4 (a0, (w64 (a3 + 1)))).bind fun c1_ =>
 some c1_
theorem qjm_ (n : Nat) (a0 : List (Int × Int × Int × Int)) (a1 : Nat) (a2 : Nat) (a3 : Int) (a4 : Int) (r : List (Int × Int × Int × Int)) (h : qdh_ n a0 a1 a2 a3 a4 = some r) : Gv P (.func 46) (qgt_ a0 a1 a2 a3 a4) (qgu_ a0 a1 a2 a3 a4) (qeu_ a0 a1 a2 a3 a4 r) (qev_ a0 a1 a2 a3 a4 r) := by
 unfold qdh_ at h
 obtain ⟨c1_, hc1, h⟩ := oB h
 obtain rfl := oI h
 exact runF2 hm ⟨[], [(0, 0, true)], 1, 0, [], false, [], [], []⟩ (ww (p := qjx_ none a1 a2 a3 a4 (a0, (w64 (a3 + 1))) c1_) (qjb_ n a1 a2 a3 a4 (a0, (w64 (a3 + 1))) c1_ hc1) <|
  ww (qa_ rwf_uuuu a0 24) <|
  ll 5 ⟨⟨[0, 1, 2, 3, 8], [(0, 0, true)], 1, 0, [], false, [], [], []⟩, (qb0_ a1 a2 a3 a4 c1_).1, (qb0_ a1 a2 a3 a4 c1_).2⟩ <|
  ww (qa_ rwf_uuuu c1_ 24) <|
  ee) (by kernel_rfl)

def qid_ (a0 : List (Int × Int × Int × Int)) (a1 : Nat) (a2 : Nat) (a3 : Int) (a4 : Int) (a5 : Int) : List Value := [(sN 0 0 a1 a2), (i6 a3), (i6 a4), (i6 a5), (Value.func (.func 38) #[] #[])]
def qie_ (a0 : List (Int × Int × Int × Int)) (a1 : Nat) (a2 : Nat) (a3 : Int) (a4 : Int) (a5 : Int) : AH := ⟨sB [(0, (some (.cells (layT (rows rw_uuuu a0)) 24)))], 1, 1⟩
def qfw_ (a0 : List (Int × Int × Int × Int)) (a1 : Nat) (a2 : Nat) (a3 : Int) (a4 : Int) (a5 : Int) (r : List (Int × Int × Int × Int)) : Value := match r with
 | o0 => (Value.tuple #[])
def qfx_ (a0 : List (Int × Int × Int × Int)) (a1 : Nat) (a2 : Nat) (a3 : Int) (a4 : Int) (a5 : Int) (r : List (Int × Int × Int × Int)) : AH := match r with
 | o0 => ⟨sB [(0, (some (.cells (layT (rows rw_uuuu o0)) 24)))], 1, 0⟩
abbrev qsi_ (a0 : List (Int × Int × Int × Int)) (a1 : Nat) (a2 : Nat) (a3 : Int) (a4 : Int) (a5 : Int) (r : List (Int × Int × Int × Int)) : Prop := Gv P (.func 57) (qid_ a0 a1 a2 a3 a4 a5) (qie_ a0 a1 a2 a3 a4 a5) (qfw_ a0 a1 a2 a3 a4 a5 r) (qfx_ a0 a1 a2 a3 a4 a5 r)
abbrev qif_ (a0 : List (Int × Int × Int × Int)) (a1 : Nat) (a2 : Nat) (a3 : Int) (a4 : Int) (a5 : Int) (r : List (Int × Int × Int × Int)) (ins outs : BL) : CallA := ⟨1, ins, qfw_ a0 a1 a2 a3 a4 a5 r, qfx_ a0 a1 a2 a3 a4 a5 r, outs⟩
def qcy_ (x1 : Nat) (x2 : Nat) (x3 : Int) (x4 : Int) (st : List (Int × Int × Int × Int) × Int) : XSt := match st with
 | (x0, x5) => (sT 82 [(0, (sN 0 0 x1 x2)), (2, (i6 x3)), (3, (i6 x4)), (4, (Value.func (.func 38) #[] #[])), (10, (i6 x5))], [], ⟨sB [(0, (some (.cells (layT (rows rw_uuuu x0)) 24)))], 1, 0⟩)
def qbe_ (x1 : Nat) (x2 : Nat) (x3 : Int) (x4 : Int) (r : (List (Int × Int × Int × Int)) ⊕ (List (Int × Int × Int × Int))) : Ex × XSt := match r with
 | .inl z0 => (.exit 0, (sT 82 [], [], ⟨sB [(0, (some (.cells (layT (rows rw_uuuu z0)) 24)))], 1, 0⟩))
 | .inr z0 => (.ret, (sT 82 [], [], ⟨sB [(0, (some (.cells (layT (rows rw_uuuu z0)) 24)))], 1, 0⟩))
abbrev qra_ (rnd : Option Nat) (x1 : Nat) (x2 : Nat) (x3 : Int) (x4 : Int) (st : List (Int × Int × Int × Int) × Int) (c : Ex × XSt) : Prop := CG P rnd (fnN P 57) 1 (qt_ P 57 [false, false, true]) (qcy_ x1 x2 x3 x4 st) c
abbrev qhb_ (rd : Option Nat) (x1 : Nat) (x2 : Nat) (x3 : Int) (x4 : Int) (st : List (Int × Int × Int × Int) × Int) (r : (List (Int × Int × Int × Int)) ⊕ (List (Int × Int × Int × Int))) : Prop := CG P rd (fnN P 57) 1 (qt_ P 57 [false, true]) (qcy_ x1 x2 x3 x4 st) (qbe_ x1 x2 x3 x4 r)
def qy_ (n : Nat) (x1 : Nat) (x2 : Nat) (x3 : Int) (x4 : Int) (st : List (Int × Int × Int × Int) × Int) : Option ((List (Int × Int × Int × Int) × Int) ⊕ ((List (Int × Int × Int × Int)) ⊕ (List (Int × Int × Int × Int)))) := match st with
 | (x0, x5) =>
  ((some (w64 ((w64 ((2 : Int) * x5)) + 1)))).bind fun y1_ =>
  if y1_ ≥ x3 then
   some (.inr (.inl x0))
  else
   if (w64 (y1_ + 1)) < x3 then
    if 0 ≤ (w64 (x4 + y1_)) ∧ (w64 (x4 + y1_)) < ((x1 : Nat) : Int) then
     if ((w64 (x4 + y1_))).toNat < (x0).length then
      ((some ((x0).getD ((w64 (x4 + y1_))).toNat (0, 0, 0, 0)))).bind fun y6_ =>
      ((some (w64 ((w64 (x4 + y1_)) + 1)))).bind fun y7_ =>
      if 0 ≤ y7_ ∧ y7_ < ((x1 : Nat) : Int) then
       if (y7_).toNat < (x0).length then
        ((some ((x0).getD (y7_).toNat (0, 0, 0, 0)))).bind fun y10_ =>
        (qd_ n (y6_.1) (y6_.2.1) (y6_.2.2.1) (y6_.2.2.2) (y10_.1) (y10_.2.1) (y10_.2.2.1) (y10_.2.2.2)).bind fun y11_ =>
        if y11_ < 0 then
         if 0 ≤ (w64 (x4 + x5)) ∧ (w64 (x4 + x5)) < ((x1 : Nat) : Int) then
          if ((w64 (x4 + x5))).toNat < (x0).length then
           ((some ((x0).getD ((w64 (x4 + x5))).toNat (0, 0, 0, 0)))).bind fun y15_ =>
           ((some (w64 (x4 + (w64 (y1_ + 1)))))).bind fun y16_ =>
           if 0 ≤ y16_ ∧ y16_ < ((x1 : Nat) : Int) then
            if (y16_).toNat < (x0).length then
             ((some ((x0).getD (y16_).toNat (0, 0, 0, 0)))).bind fun y19_ =>
             (qd_ n (y15_.1) (y15_.2.1) (y15_.2.2.1) (y15_.2.2.2) (y19_.1) (y19_.2.1) (y19_.2.2.1) (y19_.2.2.2)).bind fun y20_ =>
             if y20_ < 0 then
              if (y16_).toNat < (((x0).set ((w64 (x4 + x5))).toNat y19_)).length then
               some (.inl (((((x0).set ((w64 (x4 + x5))).toNat y19_)).set (y16_).toNat y15_), (w64 (y1_ + 1))))
              else none
             else
              some (.inr (.inr x0))
            else none
           else none
          else none
         else none
        else
         if 0 ≤ (w64 (x4 + x5)) ∧ (w64 (x4 + x5)) < ((x1 : Nat) : Int) then
          if ((w64 (x4 + x5))).toNat < (x0).length then
           ((some ((x0).getD ((w64 (x4 + x5))).toNat (0, 0, 0, 0)))).bind fun y15_ =>
           (qd_ n (y15_.1) (y15_.2.1) (y15_.2.2.1) (y15_.2.2.2) (y6_.1) (y6_.2.1) (y6_.2.2.1) (y6_.2.2.2)).bind fun y16_ =>
           if y16_ < 0 then
            if ((w64 (x4 + y1_))).toNat < (((x0).set ((w64 (x4 + x5))).toNat y6_)).length then
             some (.inl (((((x0).set ((w64 (x4 + x5))).toNat y6_)).set ((w64 (x4 + y1_))).toNat y15_), y1_))
            else none
           else
            some (.inr (.inr x0))
          else none
         else none
       else none
      else none
     else none
    else none
   else
    if 0 ≤ (w64 (x4 + x5)) ∧ (w64 (x4 + x5)) < ((x1 : Nat) : Int) then
     if ((w64 (x4 + x5))).toNat < (x0).length then
      ((some ((x0).getD ((w64 (x4 + x5))).toNat (0, 0, 0, 0)))).bind fun y6_ =>
      if 0 ≤ (w64 (x4 + y1_)) ∧ (w64 (x4 + y1_)) < ((x1 : Nat) : Int) then
       if ((w64 (x4 + y1_))).toNat < (x0).length then
        ((some ((x0).getD ((w64 (x4 + y1_))).toNat (0, 0, 0, 0)))).bind fun y9_ =>
        (qd_ n (y6_.1) (y6_.2.1) (y6_.2.2.1) (y6_.2.2.2) (y9_.1) (y9_.2.1) (y9_.2.2.1) (y9_.2.2.2)).bind fun y10_ =>
        if y10_ < 0 then
         if ((w64 (x4 + y1_))).toNat < (((x0).set ((w64 (x4 + x5))).toNat y9_)).length then
          some (.inl (((((x0).set ((w64 (x4 + x5))).toNat y9_)).set ((w64 (x4 + y1_))).toNat y6_), y1_))
         else none
        else
         some (.inr (.inr x0))
       else none
      else none
     else none
    else none
def qdm_ (n : Nat) (x1 : Nat) (x2 : Nat) (x3 : Int) (x4 : Int) (st : List (Int × Int × Int × Int) × Int) : Option ((List (Int × Int × Int × Int)) ⊕ (List (Int × Int × Int × Int))) := iterM (qy_ n x1 x2 x3 x4) n st
theorem qhc_ (n : Nat) {rnd : Option Nat} (x1 : Nat) (x2 : Nat) (x3 : Int) (x4 : Int) (st : List (Int × Int × Int × Int) × Int) (o : (List (Int × Int × Int × Int) × Int) ⊕ ((List (Int × Int × Int × Int)) ⊕ (List (Int × Int × Int × Int)))) (h : qy_ n x1 x2 x3 x4 st = some o) : CG P rnd (fnN P 57) 1 (qt_ P 57 [false, false, true]) (qcy_ x1 x2 x3 x4 st) (Sum.elim (fun s => (.normal, qcy_ x1 x2 x3 x4 s)) (fun r => qbe_ x1 x2 x3 x4 r) o) := by
 obtain ⟨x0, x5⟩ := st
 unfold qy_ at h
 dsimp only at h
 obtain ⟨y1_, hy1, h⟩ := oB h
 have k0 := fun {A L l} (k : PL A L l) => zz 4 (xnm hy1) <|
  k
 by_cases hy2 : y1_ ≥ x3
 ·rw [if_pos hy2] at h
  obtain rfl := oI h
  exact runC2 hm ⟨[], [(0, 0, true)], 1, 0, [], false, [], [], []⟩ (k0 <|
   zz 10 (xdT hy2) <|
   ww (qa_ rwf_uuuu x0 24) <|
   ee) (by kernel_rfl)
 ·rw [if_neg hy2] at h
  have k1 := fun {A L l} (k : PL A L l) => zz 10 (xdF hy2) <|
   k
  by_cases hy3 : (w64 (y1_ + 1)) < x3
  ·rw [if_pos hy3] at h
   obtain ⟨hy4, h⟩ := gd h
   obtain ⟨hy5, h⟩ := gd h
   obtain ⟨y6_, hy6, h⟩ := oB h
   obtain ⟨y7_, hy7, h⟩ := oB h
   obtain ⟨hy8, h⟩ := gd h
   obtain ⟨hy9, h⟩ := gd h
   obtain ⟨y10_, hy10, h⟩ := oB h
   obtain ⟨y11_, hy11, h⟩ := oB h
   have k2 := fun {A L l} (k : PL A L l) => zz 17 (xdT hy3) <|
    zz 24 (xk3 0 x2 hy4) <|
    yy 25 (.ld (Value.agg #[(Value.int .u64 (y6_.1)), (Value.int .u64 (y6_.2.1)), (Value.int .u64 (y6_.2.2.1)), (Value.int .u64 (y6_.2.2.2))])) <|
    ww (p := rdT (layT (rows rw_uuuu x0)) 4 (((w64 (x4 + y1_))).toNat * 4) = some [(Value.int .u64 (y6_.1)), (Value.int .u64 (y6_.2.1)), (Value.int .u64 (y6_.2.2.1)), (Value.int .u64 (y6_.2.2.2))]) (qn_ rwf_uuuu (0, 0, 0, 0) (hr := hy6) (i := ((w64 (x4 + y1_))).toNat) (j := 0) (((w64 (x4 + y1_))).toNat * 4) rfl (hy5) (by decide) rfl) <|
    zz 30 (xnm hy7) <|
    zz 31 (xk3 0 x2 hy8) <|
    yy 32 (.ld (Value.agg #[(Value.int .u64 (y10_.1)), (Value.int .u64 (y10_.2.1)), (Value.int .u64 (y10_.2.2.1)), (Value.int .u64 (y10_.2.2.2))])) <|
    ww (p := rdT (layT (rows rw_uuuu x0)) 4 ((y7_).toNat * 4) = some [(Value.int .u64 (y10_.1)), (Value.int .u64 (y10_.2.1)), (Value.int .u64 (y10_.2.2.1)), (Value.int .u64 (y10_.2.2.2))]) (qn_ rwf_uuuu (0, 0, 0, 0) (hr := hy10) (i := (y7_).toNat) (j := 0) ((y7_).toNat * 4) rfl (hy9) (by decide) rfl) <|
    yy 33 (.call (qbg_ (y6_.1) (y6_.2.1) (y6_.2.2.1) (y6_.2.2.2) (y10_.1) (y10_.2.1) (y10_.2.2.1) (y10_.2.2.2) y11_ [] [])) <|
    ww (qw_ n (y6_.1) (y6_.2.1) (y6_.2.2.1) (y6_.2.2.2) (y10_.1) (y10_.2.1) (y10_.2.2.1) (y10_.2.2.2) y11_ hy11) <|
    k
   by_cases hy12 : y11_ < 0
   ·rw [if_pos hy12] at h
    obtain ⟨hy13, h⟩ := gd h
    obtain ⟨hy14, h⟩ := gd h
    obtain ⟨y15_, hy15, h⟩ := oB h
    obtain ⟨y16_, hy16, h⟩ := oB h
    obtain ⟨hy17, h⟩ := gd h
    obtain ⟨hy18, h⟩ := gd h
    obtain ⟨y19_, hy19, h⟩ := oB h
    obtain ⟨y20_, hy20, h⟩ := oB h
    have k12 := fun {A L l} (k : PL A L l) => zz 34 (xdT hy12) <|
     zz 47 (xk3 0 x2 hy13) <|
     yy 48 (.ld (Value.agg #[(Value.int .u64 (y15_.1)), (Value.int .u64 (y15_.2.1)), (Value.int .u64 (y15_.2.2.1)), (Value.int .u64 (y15_.2.2.2))])) <|
     ww (p := rdT (layT (rows rw_uuuu x0)) 4 (((w64 (x4 + x5))).toNat * 4) = some [(Value.int .u64 (y15_.1)), (Value.int .u64 (y15_.2.1)), (Value.int .u64 (y15_.2.2.1)), (Value.int .u64 (y15_.2.2.2))]) (qn_ rwf_uuuu (0, 0, 0, 0) (hr := hy15) (i := ((w64 (x4 + x5))).toNat) (j := 0) (((w64 (x4 + x5))).toNat * 4) rfl (hy14) (by decide) rfl) <|
     zz 52 (xnm hy16) <|
     zz 53 (xk3 0 x2 hy17) <|
     yy 54 (.ld (Value.agg #[(Value.int .u64 (y19_.1)), (Value.int .u64 (y19_.2.1)), (Value.int .u64 (y19_.2.2.1)), (Value.int .u64 (y19_.2.2.2))])) <|
     ww (p := rdT (layT (rows rw_uuuu x0)) 4 ((y16_).toNat * 4) = some [(Value.int .u64 (y19_.1)), (Value.int .u64 (y19_.2.1)), (Value.int .u64 (y19_.2.2.1)), (Value.int .u64 (y19_.2.2.2))]) (qn_ rwf_uuuu (0, 0, 0, 0) (hr := hy19) (i := (y16_).toNat) (j := 0) ((y16_).toNat * 4) rfl (hy18) (by decide) rfl) <|
     yy 55 (.call (qbg_ (y15_.1) (y15_.2.1) (y15_.2.2.1) (y15_.2.2.2) (y19_.1) (y19_.2.1) (y19_.2.2.1) (y19_.2.2.2) y20_ [] [])) <|
     ww (qw_ n (y15_.1) (y15_.2.1) (y15_.2.2.1) (y15_.2.2.2) (y19_.1) (y19_.2.1) (y19_.2.2.1) (y19_.2.2.2) y20_ hy20) <|
     k
    by_cases hy21 : y20_ < 0
    ·rw [if_pos hy21] at h
     obtain ⟨hy22, h⟩ := gd h
     obtain rfl := oI h
     exact runC2 hm ⟨[0, 2, 3, 4, 10], [(0, 0, true)], 1, 0, [], false, [], [], []⟩ (k0 <|
      k1 <|
      k2 <|
      k12 <|
      zz 56 (xdT hy21) <|
      zz 67 (xnm hy16) <|
      zz 71 (xnm hy16) <|
      zz 72 (xk3 0 x2 hy17) <|
      yy 73 (.ld (Value.agg #[(Value.int .u64 (y19_.1)), (Value.int .u64 (y19_.2.1)), (Value.int .u64 (y19_.2.2.1)), (Value.int .u64 (y19_.2.2.2))])) <|
      ww (p := rdT (layT (rows rw_uuuu x0)) 4 ((y16_).toNat * 4) = some [(Value.int .u64 (y19_.1)), (Value.int .u64 (y19_.2.1)), (Value.int .u64 (y19_.2.2.1)), (Value.int .u64 (y19_.2.2.2))]) (qn_ rwf_uuuu (0, 0, 0, 0) (hr := hy19) (i := (y16_).toNat) (j := 0) ((y16_).toNat * 4) rfl (hy18) (by decide) rfl) <|
      zz 78 (xk3 0 x2 hy13) <|
      yy 79 (.ld (Value.agg #[(Value.int .u64 (y15_.1)), (Value.int .u64 (y15_.2.1)), (Value.int .u64 (y15_.2.2.1)), (Value.int .u64 (y15_.2.2.2))])) <|
      ww (p := rdT (layT (rows rw_uuuu x0)) 4 (((w64 (x4 + x5))).toNat * 4) = some [(Value.int .u64 (y15_.1)), (Value.int .u64 (y15_.2.1)), (Value.int .u64 (y15_.2.2.1)), (Value.int .u64 (y15_.2.2.2))]) (qn_ rwf_uuuu (0, 0, 0, 0) (hr := hy15) (i := ((w64 (x4 + x5))).toNat) (j := 0) (((w64 (x4 + x5))).toNat * 4) rfl (hy14) (by decide) rfl) <|
      zz 80 (xk3 0 x2 hy13) <|
      yy 81 (.sto (layT (rows rw_uuuu ((x0).set ((w64 (x4 + x5))).toNat y19_)))) <|
      ww (p := ∃ old, rdT (layT (rows rw_uuuu x0)) 4 (((w64 (x4 + x5))).toNat * 4) = some old) (Exists.elim (qcx_ rwf_uuuu (0, 0, 0, 0) (i := ((w64 (x4 + x5))).toNat) (j := 0) (l := [(Value.int .u64 (y19_.1)), (Value.int .u64 (y19_.2.1)), (Value.int .u64 (y19_.2.2.1)), (Value.int .u64 (y19_.2.2.2))]) y19_ (((w64 (x4 + x5))).toNat * 4) rfl (hy14) (Nat.le_of_ble_eq_true rfl) rfl) fun o h => ⟨o, h.1⟩) <|
      ww (p := layL [(Value.int .u64 (y19_.1)), (Value.int .u64 (y19_.2.1)), (Value.int .u64 (y19_.2.2.1)), (Value.int .u64 (y19_.2.2.2))] (((w64 (x4 + x5))).toNat * 4) (layT (rows rw_uuuu x0)) = layT (rows rw_uuuu ((x0).set ((w64 (x4 + x5))).toNat y19_))) (Exists.elim (qcx_ rwf_uuuu (0, 0, 0, 0) (i := ((w64 (x4 + x5))).toNat) (j := 0) (l := [(Value.int .u64 (y19_.1)), (Value.int .u64 (y19_.2.1)), (Value.int .u64 (y19_.2.2.1)), (Value.int .u64 (y19_.2.2.2))]) y19_ (((w64 (x4 + x5))).toNat * 4) rfl (hy14) (Nat.le_of_ble_eq_true rfl) rfl) fun o h => h.2) <|
      zz 82 (xk3 0 x2 hy17) <|
      yy 83 (.sto (layT (rows rw_uuuu ((((x0).set ((w64 (x4 + x5))).toNat y19_)).set (y16_).toNat y15_)))) <|
      ww (p := ∃ old, rdT (layT (rows rw_uuuu ((x0).set ((w64 (x4 + x5))).toNat y19_))) 4 ((y16_).toNat * 4) = some old) (Exists.elim (qcx_ rwf_uuuu (0, 0, 0, 0) (i := (y16_).toNat) (j := 0) (l := [(Value.int .u64 (y15_.1)), (Value.int .u64 (y15_.2.1)), (Value.int .u64 (y15_.2.2.1)), (Value.int .u64 (y15_.2.2.2))]) y15_ ((y16_).toNat * 4) rfl (hy22) (Nat.le_of_ble_eq_true rfl) rfl) fun o h => ⟨o, h.1⟩) <|
      ww (p := layL [(Value.int .u64 (y15_.1)), (Value.int .u64 (y15_.2.1)), (Value.int .u64 (y15_.2.2.1)), (Value.int .u64 (y15_.2.2.2))] ((y16_).toNat * 4) (layT (rows rw_uuuu ((x0).set ((w64 (x4 + x5))).toNat y19_))) = layT (rows rw_uuuu ((((x0).set ((w64 (x4 + x5))).toNat y19_)).set (y16_).toNat y15_))) (Exists.elim (qcx_ rwf_uuuu (0, 0, 0, 0) (i := (y16_).toNat) (j := 0) (l := [(Value.int .u64 (y15_.1)), (Value.int .u64 (y15_.2.1)), (Value.int .u64 (y15_.2.2.1)), (Value.int .u64 (y15_.2.2.2))]) y15_ ((y16_).toNat * 4) rfl (hy22) (Nat.le_of_ble_eq_true rfl) rfl) fun o h => h.2) <|
      ww (qa_ rwf_uuuu ((((x0).set ((w64 (x4 + x5))).toNat y19_)).set (y16_).toNat y15_) 24) <|
      ee) (by kernel_rfl)
    ·rw [if_neg hy21] at h
     obtain rfl := oI h
     exact runC2 hm ⟨[], [(0, 0, true)], 1, 0, [], false, [], [], []⟩ (k0 <|
      k1 <|
      k2 <|
      k12 <|
      zz 56 (xdF hy21) <|
      ww (qa_ rwf_uuuu x0 24) <|
      ee) (by kernel_rfl)
   ·rw [if_neg hy12] at h
    obtain ⟨hy13, h⟩ := gd h
    obtain ⟨hy14, h⟩ := gd h
    obtain ⟨y15_, hy15, h⟩ := oB h
    obtain ⟨y16_, hy16, h⟩ := oB h
    have k12 := fun {A L l} (k : PL A L l) => zz 34 (xdF hy12) <|
     zz 44 (xk3 0 x2 hy13) <|
     yy 45 (.ld (Value.agg #[(Value.int .u64 (y15_.1)), (Value.int .u64 (y15_.2.1)), (Value.int .u64 (y15_.2.2.1)), (Value.int .u64 (y15_.2.2.2))])) <|
     ww (p := rdT (layT (rows rw_uuuu x0)) 4 (((w64 (x4 + x5))).toNat * 4) = some [(Value.int .u64 (y15_.1)), (Value.int .u64 (y15_.2.1)), (Value.int .u64 (y15_.2.2.1)), (Value.int .u64 (y15_.2.2.2))]) (qn_ rwf_uuuu (0, 0, 0, 0) (hr := hy15) (i := ((w64 (x4 + x5))).toNat) (j := 0) (((w64 (x4 + x5))).toNat * 4) rfl (hy14) (by decide) rfl) <|
     zz 50 (xk3 0 x2 hy4) <|
     yy 51 (.ld (Value.agg #[(Value.int .u64 (y6_.1)), (Value.int .u64 (y6_.2.1)), (Value.int .u64 (y6_.2.2.1)), (Value.int .u64 (y6_.2.2.2))])) <|
     ww (p := rdT (layT (rows rw_uuuu x0)) 4 (((w64 (x4 + y1_))).toNat * 4) = some [(Value.int .u64 (y6_.1)), (Value.int .u64 (y6_.2.1)), (Value.int .u64 (y6_.2.2.1)), (Value.int .u64 (y6_.2.2.2))]) (qn_ rwf_uuuu (0, 0, 0, 0) (hr := hy6) (i := ((w64 (x4 + y1_))).toNat) (j := 0) (((w64 (x4 + y1_))).toNat * 4) rfl (hy5) (by decide) rfl) <|
     yy 52 (.call (qbg_ (y15_.1) (y15_.2.1) (y15_.2.2.1) (y15_.2.2.2) (y6_.1) (y6_.2.1) (y6_.2.2.1) (y6_.2.2.2) y16_ [] [])) <|
     ww (qw_ n (y15_.1) (y15_.2.1) (y15_.2.2.1) (y15_.2.2.2) (y6_.1) (y6_.2.1) (y6_.2.2.1) (y6_.2.2.2) y16_ hy16) <|
     k
    by_cases hy17 : y16_ < 0
    ·rw [if_pos hy17] at h
     obtain ⟨hy18, h⟩ := gd h
     obtain rfl := oI h
     exact runC2 hm ⟨[0, 2, 3, 4, 10], [(0, 0, true)], 1, 0, [], false, [], [], []⟩ (k0 <|
      k1 <|
      k2 <|
      k12 <|
      zz 53 (xdT hy17) <|
      zz 69 (xk3 0 x2 hy4) <|
      yy 70 (.ld (Value.agg #[(Value.int .u64 (y6_.1)), (Value.int .u64 (y6_.2.1)), (Value.int .u64 (y6_.2.2.1)), (Value.int .u64 (y6_.2.2.2))])) <|
      ww (p := rdT (layT (rows rw_uuuu x0)) 4 (((w64 (x4 + y1_))).toNat * 4) = some [(Value.int .u64 (y6_.1)), (Value.int .u64 (y6_.2.1)), (Value.int .u64 (y6_.2.2.1)), (Value.int .u64 (y6_.2.2.2))]) (qn_ rwf_uuuu (0, 0, 0, 0) (hr := hy6) (i := ((w64 (x4 + y1_))).toNat) (j := 0) (((w64 (x4 + y1_))).toNat * 4) rfl (hy5) (by decide) rfl) <|
      zz 75 (xk3 0 x2 hy13) <|
      yy 76 (.ld (Value.agg #[(Value.int .u64 (y15_.1)), (Value.int .u64 (y15_.2.1)), (Value.int .u64 (y15_.2.2.1)), (Value.int .u64 (y15_.2.2.2))])) <|
      ww (p := rdT (layT (rows rw_uuuu x0)) 4 (((w64 (x4 + x5))).toNat * 4) = some [(Value.int .u64 (y15_.1)), (Value.int .u64 (y15_.2.1)), (Value.int .u64 (y15_.2.2.1)), (Value.int .u64 (y15_.2.2.2))]) (qn_ rwf_uuuu (0, 0, 0, 0) (hr := hy15) (i := ((w64 (x4 + x5))).toNat) (j := 0) (((w64 (x4 + x5))).toNat * 4) rfl (hy14) (by decide) rfl) <|
      zz 77 (xk3 0 x2 hy13) <|
      yy 78 (.sto (layT (rows rw_uuuu ((x0).set ((w64 (x4 + x5))).toNat y6_)))) <|
      ww (p := ∃ old, rdT (layT (rows rw_uuuu x0)) 4 (((w64 (x4 + x5))).toNat * 4) = some old) (Exists.elim (qcx_ rwf_uuuu (0, 0, 0, 0) (i := ((w64 (x4 + x5))).toNat) (j := 0) (l := [(Value.int .u64 (y6_.1)), (Value.int .u64 (y6_.2.1)), (Value.int .u64 (y6_.2.2.1)), (Value.int .u64 (y6_.2.2.2))]) y6_ (((w64 (x4 + x5))).toNat * 4) rfl (hy14) (Nat.le_of_ble_eq_true rfl) rfl) fun o h => ⟨o, h.1⟩) <|
      ww (p := layL [(Value.int .u64 (y6_.1)), (Value.int .u64 (y6_.2.1)), (Value.int .u64 (y6_.2.2.1)), (Value.int .u64 (y6_.2.2.2))] (((w64 (x4 + x5))).toNat * 4) (layT (rows rw_uuuu x0)) = layT (rows rw_uuuu ((x0).set ((w64 (x4 + x5))).toNat y6_))) (Exists.elim (qcx_ rwf_uuuu (0, 0, 0, 0) (i := ((w64 (x4 + x5))).toNat) (j := 0) (l := [(Value.int .u64 (y6_.1)), (Value.int .u64 (y6_.2.1)), (Value.int .u64 (y6_.2.2.1)), (Value.int .u64 (y6_.2.2.2))]) y6_ (((w64 (x4 + x5))).toNat * 4) rfl (hy14) (Nat.le_of_ble_eq_true rfl) rfl) fun o h => h.2) <|
      zz 79 (xk3 0 x2 hy4) <|
      yy 80 (.sto (layT (rows rw_uuuu ((((x0).set ((w64 (x4 + x5))).toNat y6_)).set ((w64 (x4 + y1_))).toNat y15_)))) <|
      ww (p := ∃ old, rdT (layT (rows rw_uuuu ((x0).set ((w64 (x4 + x5))).toNat y6_))) 4 (((w64 (x4 + y1_))).toNat * 4) = some old) (Exists.elim (qcx_ rwf_uuuu (0, 0, 0, 0) (i := ((w64 (x4 + y1_))).toNat) (j := 0) (l := [(Value.int .u64 (y15_.1)), (Value.int .u64 (y15_.2.1)), (Value.int .u64 (y15_.2.2.1)), (Value.int .u64 (y15_.2.2.2))]) y15_ (((w64 (x4 + y1_))).toNat * 4) rfl (hy18) (Nat.le_of_ble_eq_true rfl) rfl) fun o h => ⟨o, h.1⟩) <|
      ww (p := layL [(Value.int .u64 (y15_.1)), (Value.int .u64 (y15_.2.1)), (Value.int .u64 (y15_.2.2.1)), (Value.int .u64 (y15_.2.2.2))] (((w64 (x4 + y1_))).toNat * 4) (layT (rows rw_uuuu ((x0).set ((w64 (x4 + x5))).toNat y6_))) = layT (rows rw_uuuu ((((x0).set ((w64 (x4 + x5))).toNat y6_)).set ((w64 (x4 + y1_))).toNat y15_))) (Exists.elim (qcx_ rwf_uuuu (0, 0, 0, 0) (i := ((w64 (x4 + y1_))).toNat) (j := 0) (l := [(Value.int .u64 (y15_.1)), (Value.int .u64 (y15_.2.1)), (Value.int .u64 (y15_.2.2.1)), (Value.int .u64 (y15_.2.2.2))]) y15_ (((w64 (x4 + y1_))).toNat * 4) rfl (hy18) (Nat.le_of_ble_eq_true rfl) rfl) fun o h => h.2) <|
      ww (qa_ rwf_uuuu ((((x0).set ((w64 (x4 + x5))).toNat y6_)).set ((w64 (x4 + y1_))).toNat y15_) 24) <|
      ee) (by kernel_rfl)
    ·rw [if_neg hy17] at h
     obtain rfl := oI h
     exact runC2 hm ⟨[], [(0, 0, true)], 1, 0, [], false, [], [], []⟩ (k0 <|
      k1 <|
      k2 <|
      k12 <|
      zz 53 (xdF hy17) <|
      ww (qa_ rwf_uuuu x0 24) <|
      ee) (by kernel_rfl)
  ·rw [if_neg hy3] at h
   obtain ⟨hy4, h⟩ := gd h
   obtain ⟨hy5, h⟩ := gd h
   obtain ⟨y6_, hy6, h⟩ := oB h
   obtain ⟨hy7, h⟩ := gd h
   obtain ⟨hy8, h⟩ := gd h
   obtain ⟨y9_, hy9, h⟩ := oB h
   obtain ⟨y10_, hy10, h⟩ := oB h
   have k2 := fun {A L l} (k : PL A L l) => zz 17 (xdF hy3) <|
    zz 44 (xk3 0 x2 hy4) <|
    yy 45 (.ld (Value.agg #[(Value.int .u64 (y6_.1)), (Value.int .u64 (y6_.2.1)), (Value.int .u64 (y6_.2.2.1)), (Value.int .u64 (y6_.2.2.2))])) <|
    ww (p := rdT (layT (rows rw_uuuu x0)) 4 (((w64 (x4 + x5))).toNat * 4) = some [(Value.int .u64 (y6_.1)), (Value.int .u64 (y6_.2.1)), (Value.int .u64 (y6_.2.2.1)), (Value.int .u64 (y6_.2.2.2))]) (qn_ rwf_uuuu (0, 0, 0, 0) (hr := hy6) (i := ((w64 (x4 + x5))).toNat) (j := 0) (((w64 (x4 + x5))).toNat * 4) rfl (hy5) (by decide) rfl) <|
    zz 50 (xk3 0 x2 hy7) <|
    yy 51 (.ld (Value.agg #[(Value.int .u64 (y9_.1)), (Value.int .u64 (y9_.2.1)), (Value.int .u64 (y9_.2.2.1)), (Value.int .u64 (y9_.2.2.2))])) <|
    ww (p := rdT (layT (rows rw_uuuu x0)) 4 (((w64 (x4 + y1_))).toNat * 4) = some [(Value.int .u64 (y9_.1)), (Value.int .u64 (y9_.2.1)), (Value.int .u64 (y9_.2.2.1)), (Value.int .u64 (y9_.2.2.2))]) (qn_ rwf_uuuu (0, 0, 0, 0) (hr := hy9) (i := ((w64 (x4 + y1_))).toNat) (j := 0) (((w64 (x4 + y1_))).toNat * 4) rfl (hy8) (by decide) rfl) <|
    yy 52 (.call (qbg_ (y6_.1) (y6_.2.1) (y6_.2.2.1) (y6_.2.2.2) (y9_.1) (y9_.2.1) (y9_.2.2.1) (y9_.2.2.2) y10_ [] [])) <|
    ww (qw_ n (y6_.1) (y6_.2.1) (y6_.2.2.1) (y6_.2.2.2) (y9_.1) (y9_.2.1) (y9_.2.2.1) (y9_.2.2.2) y10_ hy10) <|
    k
   by_cases hy11 : y10_ < 0
   ·rw [if_pos hy11] at h
    obtain ⟨hy12, h⟩ := gd h
    obtain rfl := oI h
    exact runC2 hm ⟨[0, 2, 3, 4, 10], [(0, 0, true)], 1, 0, [], false, [], [], []⟩ (k0 <|
     k1 <|
     k2 <|
     zz 53 (xdT hy11) <|
     zz 69 (xk3 0 x2 hy7) <|
     yy 70 (.ld (Value.agg #[(Value.int .u64 (y9_.1)), (Value.int .u64 (y9_.2.1)), (Value.int .u64 (y9_.2.2.1)), (Value.int .u64 (y9_.2.2.2))])) <|
     ww (p := rdT (layT (rows rw_uuuu x0)) 4 (((w64 (x4 + y1_))).toNat * 4) = some [(Value.int .u64 (y9_.1)), (Value.int .u64 (y9_.2.1)), (Value.int .u64 (y9_.2.2.1)), (Value.int .u64 (y9_.2.2.2))]) (qn_ rwf_uuuu (0, 0, 0, 0) (hr := hy9) (i := ((w64 (x4 + y1_))).toNat) (j := 0) (((w64 (x4 + y1_))).toNat * 4) rfl (hy8) (by decide) rfl) <|
     zz 75 (xk3 0 x2 hy4) <|
     yy 76 (.ld (Value.agg #[(Value.int .u64 (y6_.1)), (Value.int .u64 (y6_.2.1)), (Value.int .u64 (y6_.2.2.1)), (Value.int .u64 (y6_.2.2.2))])) <|
     ww (p := rdT (layT (rows rw_uuuu x0)) 4 (((w64 (x4 + x5))).toNat * 4) = some [(Value.int .u64 (y6_.1)), (Value.int .u64 (y6_.2.1)), (Value.int .u64 (y6_.2.2.1)), (Value.int .u64 (y6_.2.2.2))]) (qn_ rwf_uuuu (0, 0, 0, 0) (hr := hy6) (i := ((w64 (x4 + x5))).toNat) (j := 0) (((w64 (x4 + x5))).toNat * 4) rfl (hy5) (by decide) rfl) <|
     zz 77 (xk3 0 x2 hy4) <|
     yy 78 (.sto (layT (rows rw_uuuu ((x0).set ((w64 (x4 + x5))).toNat y9_)))) <|
     ww (p := ∃ old, rdT (layT (rows rw_uuuu x0)) 4 (((w64 (x4 + x5))).toNat * 4) = some old) (Exists.elim (qcx_ rwf_uuuu (0, 0, 0, 0) (i := ((w64 (x4 + x5))).toNat) (j := 0) (l := [(Value.int .u64 (y9_.1)), (Value.int .u64 (y9_.2.1)), (Value.int .u64 (y9_.2.2.1)), (Value.int .u64 (y9_.2.2.2))]) y9_ (((w64 (x4 + x5))).toNat * 4) rfl (hy5) (Nat.le_of_ble_eq_true rfl) rfl) fun o h => ⟨o, h.1⟩) <|
     ww (p := layL [(Value.int .u64 (y9_.1)), (Value.int .u64 (y9_.2.1)), (Value.int .u64 (y9_.2.2.1)), (Value.int .u64 (y9_.2.2.2))] (((w64 (x4 + x5))).toNat * 4) (layT (rows rw_uuuu x0)) = layT (rows rw_uuuu ((x0).set ((w64 (x4 + x5))).toNat y9_))) (Exists.elim (qcx_ rwf_uuuu (0, 0, 0, 0) (i := ((w64 (x4 + x5))).toNat) (j := 0) (l := [(Value.int .u64 (y9_.1)), (Value.int .u64 (y9_.2.1)), (Value.int .u64 (y9_.2.2.1)), (Value.int .u64 (y9_.2.2.2))]) y9_ (((w64 (x4 + x5))).toNat * 4) rfl (hy5) (Nat.le_of_ble_eq_true rfl) rfl) fun o h => h.2) <|
     zz 79 (xk3 0 x2 hy7) <|
     yy 80 (.sto (layT (rows rw_uuuu ((((x0).set ((w64 (x4 + x5))).toNat y9_)).set ((w64 (x4 + y1_))).toNat y6_)))) <|
     ww (p := ∃ old, rdT (layT (rows rw_uuuu ((x0).set ((w64 (x4 + x5))).toNat y9_))) 4 (((w64 (x4 + y1_))).toNat * 4) = some old) (Exists.elim (qcx_ rwf_uuuu (0, 0, 0, 0) (i := ((w64 (x4 + y1_))).toNat) (j := 0) (l := [(Value.int .u64 (y6_.1)), (Value.int .u64 (y6_.2.1)), (Value.int .u64 (y6_.2.2.1)), (Value.int .u64 (y6_.2.2.2))]) y6_ (((w64 (x4 + y1_))).toNat * 4) rfl (hy12) (Nat.le_of_ble_eq_true rfl) rfl) fun o h => ⟨o, h.1⟩) <|
     ww (p := layL [(Value.int .u64 (y6_.1)), (Value.int .u64 (y6_.2.1)), (Value.int .u64 (y6_.2.2.1)), (Value.int .u64 (y6_.2.2.2))] (((w64 (x4 + y1_))).toNat * 4) (layT (rows rw_uuuu ((x0).set ((w64 (x4 + x5))).toNat y9_))) = layT (rows rw_uuuu ((((x0).set ((w64 (x4 + x5))).toNat y9_)).set ((w64 (x4 + y1_))).toNat y6_))) (Exists.elim (qcx_ rwf_uuuu (0, 0, 0, 0) (i := ((w64 (x4 + y1_))).toNat) (j := 0) (l := [(Value.int .u64 (y6_.1)), (Value.int .u64 (y6_.2.1)), (Value.int .u64 (y6_.2.2.1)), (Value.int .u64 (y6_.2.2.2))]) y6_ (((w64 (x4 + y1_))).toNat * 4) rfl (hy12) (Nat.le_of_ble_eq_true rfl) rfl) fun o h => h.2) <|
     ww (qa_ rwf_uuuu ((((x0).set ((w64 (x4 + x5))).toNat y9_)).set ((w64 (x4 + y1_))).toNat y6_) 24) <|
     ee) (by kernel_rfl)
   ·rw [if_neg hy11] at h
    obtain rfl := oI h
    exact runC2 hm ⟨[], [(0, 0, true)], 1, 0, [], false, [], [], []⟩ (k0 <|
     k1 <|
     k2 <|
     zz 53 (xdF hy11) <|
     ww (qa_ rwf_uuuu x0 24) <|
     ee) (by kernel_rfl)
theorem qgv_ (n : Nat) {rnd : Option Nat} (x1 : Nat) (x2 : Nat) (x3 : Int) (x4 : Int) (st : List (Int × Int × Int × Int) × Int) (r : (List (Int × Int × Int × Int)) ⊕ (List (Int × Int × Int × Int))) (h : qdm_ n x1 x2 x3 x4 st = some r) : CG P rnd (fnN P 57) 1 (qt_ P 57 [false, true]) (qcy_ x1 x2 x3 x4 st) (qbe_ x1 x2 x3 x4 r) :=
 CG.iter (b := qt_ P 57 [false, false, true]) (by kernel_rfl) (body := qy_ n x1 x2 x3 x4) (S := qcy_ x1 x2 x3 x4) (X := qbe_ x1 x2 x3 x4)
  (fun s s' h => qhc_ n x1 x2 x3 x4 s (.inl s') h)
  (fun s r h => qhc_ n x1 x2 x3 x4 s (.inr r) h)
  (fun r => by intro hx; rcases r with _ | _ <;> cases hx) h
def qcf_ (n : Nat) (a0 : List (Int × Int × Int × Int)) (a1 : Nat) (a2 : Nat) (a3 : Int) (a4 : Int) (a5 : Int) : Option (List (Int × Int × Int × Int)) :=
 match qdm_ n a1 a2 a4 a5 (a0, a3) with
 | none => none
 | some (.inl c1_) =>
  some c1_
 | some (.inr c1_) =>
  some c1_
theorem qg3_ (n : Nat) (a0 : List (Int × Int × Int × Int)) (a1 : Nat) (a2 : Nat) (a3 : Int) (a4 : Int) (a5 : Int) (r : List (Int × Int × Int × Int)) (h : qcf_ n a0 a1 a2 a3 a4 a5 = some r) : Gv P (.func 57) (qid_ a0 a1 a2 a3 a4 a5) (qie_ a0 a1 a2 a3 a4 a5) (qfw_ a0 a1 a2 a3 a4 a5 r) (qfx_ a0 a1 a2 a3 a4 a5 r) := by
 unfold qcf_ at h
 rcases hc1 : qdm_ n a1 a2 a4 a5 (a0, a3) with _ | (c1_ | c1_)
 ·rw [hc1] at h; cases h
 ·rw [hc1] at h
  dsimp only at h
  obtain rfl := oI h
  exact runF2 hm ⟨[], [(0, 0, true)], 1, 0, [], false, [], [], []⟩ (ww (p := qhb_ none a1 a2 a4 a5 (a0, a3) (.inl c1_)) (qgv_ n a1 a2 a4 a5 (a0, a3) (.inl c1_) hc1) <|
   ww (qa_ rwf_uuuu a0 24) <|
   ll 4 ⟨⟨[0, 2, 3, 4, 10], [(0, 0, true)], 1, 0, [], false, [], [], []⟩, (qbe_ a1 a2 a4 a5 (.inl c1_)).1, (qbe_ a1 a2 a4 a5 (.inl c1_)).2⟩ <|
   ww (qa_ rwf_uuuu c1_ 24) <|
   ee) (by kernel_rfl)
 ·rw [hc1] at h
  dsimp only at h
  obtain rfl := oI h
  exact runF2 hm ⟨[], [(0, 0, true)], 1, 0, [], false, [], [], []⟩ (ww (p := qhb_ none a1 a2 a4 a5 (a0, a3) (.inr c1_)) (qgv_ n a1 a2 a4 a5 (a0, a3) (.inr c1_) hc1) <|
   ww (qa_ rwf_uuuu a0 24) <|
   ll 4 ⟨⟨[0, 2, 3, 4, 10], [(0, 0, true)], 1, 0, [], false, [], [], []⟩, (qbe_ a1 a2 a4 a5 (.inr c1_)).1, (qbe_ a1 a2 a4 a5 (.inr c1_)).2⟩ <|
   ww (qa_ rwf_uuuu c1_ 24) <|
   ee) (by kernel_rfl)

def qig_ (a0 : List (Int × Int × Int × Int)) (a1 : Nat) (a2 : Nat) (a3 : Int) (a4 : Int) : List Value := [(sN 0 0 a1 a2), (i6 a3), (i6 a4), (Value.func (.func 38) #[] #[])]
def qih_ (a0 : List (Int × Int × Int × Int)) (a1 : Nat) (a2 : Nat) (a3 : Int) (a4 : Int) : AH := ⟨sB [(0, (some (.cells (layT (rows rw_uuuu a0)) 24)))], 1, 1⟩
def qfy_ (a0 : List (Int × Int × Int × Int)) (a1 : Nat) (a2 : Nat) (a3 : Int) (a4 : Int) (r : List (Int × Int × Int × Int)) : Value := match r with
 | o0 => (Value.tuple #[])
def qfz_ (a0 : List (Int × Int × Int × Int)) (a1 : Nat) (a2 : Nat) (a3 : Int) (a4 : Int) (r : List (Int × Int × Int × Int)) : AH := match r with
 | o0 => ⟨sB [(0, (some (.cells (layT (rows rw_uuuu o0)) 24)))], 1, 0⟩
abbrev qsj_ (a0 : List (Int × Int × Int × Int)) (a1 : Nat) (a2 : Nat) (a3 : Int) (a4 : Int) (r : List (Int × Int × Int × Int)) : Prop := Gv P (.func 47) (qig_ a0 a1 a2 a3 a4) (qih_ a0 a1 a2 a3 a4) (qfy_ a0 a1 a2 a3 a4 r) (qfz_ a0 a1 a2 a3 a4 r)
abbrev ql8_ (a0 : List (Int × Int × Int × Int)) (a1 : Nat) (a2 : Nat) (a3 : Int) (a4 : Int) (r : List (Int × Int × Int × Int)) (ins outs : BL) : CallA := ⟨1, ins, qfy_ a0 a1 a2 a3 a4 r, qfz_ a0 a1 a2 a3 a4 r, outs⟩
def qcz_ (x1 : Nat) (x2 : Nat) (x3 : Int) (x4 : Int) (st : List (Int × Int × Int × Int) × Int) : XSt := match st with
 | (x0, x5) => (sT 60 [(0, (sN 0 0 x1 x2)), (3, (Value.func (.func 38) #[] #[])), (8, (i6 x3)), (9, (i6 (0 : Int))), (10, (i6 x4)), (11, (i6 x5))], [], ⟨sB [(0, (some (.cells (layT (rows rw_uuuu x0)) 24)))], 1, 0⟩)
def qc0_ (x1 : Nat) (x2 : Nat) (x3 : Int) (x4 : Int) (r : List (Int × Int × Int × Int)) : Ex × XSt := match r with
 | z0 => (.exit 0, (sT 60 [(0, (sN 0 0 x1 x2)), (3, (Value.func (.func 38) #[] #[])), (8, (i6 x3)), (9, (i6 (0 : Int))), (10, (i6 x4))], [], ⟨sB [(0, (some (.cells (layT (rows rw_uuuu z0)) 24)))], 1, 0⟩))
abbrev qrb_ (rnd : Option Nat) (x1 : Nat) (x2 : Nat) (x3 : Int) (x4 : Int) (st : List (Int × Int × Int × Int) × Int) (c : Ex × XSt) : Prop := CG P rnd (fnN P 47) 1 (qt_ P 47 [false, false, true, false, true, true, true]) (qcz_ x1 x2 x3 x4 st) c
abbrev qlc_ (rd : Option Nat) (x1 : Nat) (x2 : Nat) (x3 : Int) (x4 : Int) (st : List (Int × Int × Int × Int) × Int) (r : List (Int × Int × Int × Int)) : Prop := CG P rd (fnN P 47) 1 (qt_ P 47 [false, true, false, true, true, true]) (qcz_ x1 x2 x3 x4 st) (qc0_ x1 x2 x3 x4 r)
def qb4_ (n : Nat) (x1 : Nat) (x2 : Nat) (x3 : Int) (x4 : Int) (st : List (Int × Int × Int × Int) × Int) : Option ((List (Int × Int × Int × Int) × Int) ⊕ (List (Int × Int × Int × Int))) := match st with
 | (x0, x5) =>
  if x5 ≥ 0 then
   (qcf_ n x0 x1 x2 x5 x4 x3).bind fun y2_ =>
   some (.inl (y2_, (w64 (x5 - 1))))
  else
   some (.inr x0)
def qfk_ (n : Nat) (x1 : Nat) (x2 : Nat) (x3 : Int) (x4 : Int) (st : List (Int × Int × Int × Int) × Int) : Option (List (Int × Int × Int × Int)) := iterM (qb4_ n x1 x2 x3 x4) n st
theorem qhd_ (n : Nat) {rnd : Option Nat} (x1 : Nat) (x2 : Nat) (x3 : Int) (x4 : Int) (st : List (Int × Int × Int × Int) × Int) (o : (List (Int × Int × Int × Int) × Int) ⊕ (List (Int × Int × Int × Int))) (h : qb4_ n x1 x2 x3 x4 st = some o) : CG P rnd (fnN P 47) 1 (qt_ P 47 [false, false, true, false, true, true, true]) (qcz_ x1 x2 x3 x4 st) (Sum.elim (fun s => (.normal, qcz_ x1 x2 x3 x4 s)) (fun r => qc0_ x1 x2 x3 x4 r) o) := by
 obtain ⟨x0, x5⟩ := st
 unfold qb4_ at h
 dsimp only at h
 by_cases hy1 : x5 ≥ 0
 ·rw [if_pos hy1] at h
  obtain ⟨y2_, hy2, h⟩ := oB h
  obtain rfl := oI h
  exact runC2 hm ⟨[0, 3, 8, 9, 10, 11], [(0, 0, true)], 1, 0, [], false, [], [], []⟩ (zz 3 (xdT hy1) <|
   yy 12 (.call (qif_ x0 x1 x2 x5 x4 x3 y2_ [(0, 0, true)] [(0, 0, true)])) <|
   ww (qg3_ n x0 x1 x2 x5 x4 x3 y2_ hy2) <|
   ww (qa_ rwf_uuuu x0 24) <|
   ww (qa_ rwf_uuuu y2_ 24) <|
   ww (qa_ rwf_uuuu y2_ 24) <|
   ee) (by kernel_rfl)
 ·rw [if_neg hy1] at h
  obtain rfl := oI h
  exact runC2 hm ⟨[0, 3, 8, 9, 10], [(0, 0, true)], 1, 0, [], false, [], [], []⟩ (zz 3 (xdF hy1) <|
   ww (qa_ rwf_uuuu x0 24) <|
   ee) (by kernel_rfl)
theorem qkl_ (n : Nat) {rnd : Option Nat} (x1 : Nat) (x2 : Nat) (x3 : Int) (x4 : Int) (st : List (Int × Int × Int × Int) × Int) (r : List (Int × Int × Int × Int)) (h : qfk_ n x1 x2 x3 x4 st = some r) : CG P rnd (fnN P 47) 1 (qt_ P 47 [false, true, false, true, true, true]) (qcz_ x1 x2 x3 x4 st) (qc0_ x1 x2 x3 x4 r) :=
 CG.iter (b := qt_ P 47 [false, false, true, false, true, true, true]) (by kernel_rfl) (body := qb4_ n x1 x2 x3 x4) (S := qcz_ x1 x2 x3 x4) (X := qc0_ x1 x2 x3 x4)
  (fun s s' h => qhd_ n x1 x2 x3 x4 s (.inl s') h)
  (fun s r h => qhd_ n x1 x2 x3 x4 s (.inr r) h)
  (fun r => by intro hx; cases hx) h
def qc1_ (x1 : Nat) (x2 : Nat) (x3 : Int) (st : List (Int × Int × Int × Int) × Int) : XSt := match st with
 | (x0, x4) => (sT 60 [(0, (sN 0 0 x1 x2)), (3, (Value.func (.func 38) #[] #[])), (8, (i6 x3)), (9, (i6 (0 : Int))), (12, (i6 x4))], [], ⟨sB [(0, (some (.cells (layT (rows rw_uuuu x0)) 24)))], 1, 0⟩)
def qc2_ (x1 : Nat) (x2 : Nat) (x3 : Int) (r : List (Int × Int × Int × Int)) : Ex × XSt := match r with
 | z0 => (.exit 2, (sT 60 [], [], ⟨sB [(0, (some (.cells (layT (rows rw_uuuu z0)) 24)))], 1, 0⟩))
abbrev qrc_ (rnd : Option Nat) (x1 : Nat) (x2 : Nat) (x3 : Int) (st : List (Int × Int × Int × Int) × Int) (c : Ex × XSt) : Prop := CG P rnd (fnN P 47) 1 (qt_ P 47 [false, false, true, true, true, true, true]) (qc1_ x1 x2 x3 st) c
abbrev qld_ (rd : Option Nat) (x1 : Nat) (x2 : Nat) (x3 : Int) (st : List (Int × Int × Int × Int) × Int) (r : List (Int × Int × Int × Int)) : Prop := CG P rd (fnN P 47) 1 (qt_ P 47 [false, true, true, true, true, true]) (qc1_ x1 x2 x3 st) (qc2_ x1 x2 x3 r)
def qb5_ (n : Nat) (x1 : Nat) (x2 : Nat) (x3 : Int) (st : List (Int × Int × Int × Int) × Int) : Option ((List (Int × Int × Int × Int) × Int) ⊕ (List (Int × Int × Int × Int))) := match st with
 | (x0, x4) =>
  if x4 ≥ 0 then
   if 0 ≤ (w64 (x3 + x4)) ∧ (w64 (x3 + x4)) < ((x1 : Nat) : Int) then
    if ((w64 (x3 + x4))).toNat < (x0).length then
     ((some ((x0).getD ((w64 (x3 + x4))).toNat (0, 0, 0, 0)))).bind fun y4_ =>
     if 0 ≤ x3 ∧ x3 < ((x1 : Nat) : Int) then
      if (x3).toNat < (x0).length then
       ((some ((x0).getD (x3).toNat (0, 0, 0, 0)))).bind fun y7_ =>
       if ((w64 (x3 + x4))).toNat < (((x0).set (x3).toNat y4_)).length then
        (qcf_ n ((((x0).set (x3).toNat y4_)).set ((w64 (x3 + x4))).toNat y7_) x1 x2 0 x4 x3).bind fun y9_ =>
        some (.inl (y9_, (w64 (x4 - 1))))
       else none
      else none
     else none
    else none
   else none
  else
   some (.inr x0)
def qfl_ (n : Nat) (x1 : Nat) (x2 : Nat) (x3 : Int) (st : List (Int × Int × Int × Int) × Int) : Option (List (Int × Int × Int × Int)) := iterM (qb5_ n x1 x2 x3) n st
theorem qhe_ (n : Nat) {rnd : Option Nat} (x1 : Nat) (x2 : Nat) (x3 : Int) (st : List (Int × Int × Int × Int) × Int) (o : (List (Int × Int × Int × Int) × Int) ⊕ (List (Int × Int × Int × Int))) (h : qb5_ n x1 x2 x3 st = some o) : CG P rnd (fnN P 47) 1 (qt_ P 47 [false, false, true, true, true, true, true]) (qc1_ x1 x2 x3 st) (Sum.elim (fun s => (.normal, qc1_ x1 x2 x3 s)) (fun r => qc2_ x1 x2 x3 r) o) := by
 obtain ⟨x0, x4⟩ := st
 unfold qb5_ at h
 dsimp only at h
 by_cases hy1 : x4 ≥ 0
 ·rw [if_pos hy1] at h
  obtain ⟨hy2, h⟩ := gd h
  obtain ⟨hy3, h⟩ := gd h
  obtain ⟨y4_, hy4, h⟩ := oB h
  obtain ⟨hy5, h⟩ := gd h
  obtain ⟨hy6, h⟩ := gd h
  obtain ⟨y7_, hy7, h⟩ := oB h
  obtain ⟨hy8, h⟩ := gd h
  obtain ⟨y9_, hy9, h⟩ := oB h
  obtain rfl := oI h
  exact runC2 hm ⟨[0, 3, 8, 9, 12], [(0, 0, true)], 1, 0, [], false, [], [], []⟩ (zz 3 (xdT hy1) <|
   zz 18 (xk3 0 x2 hy2) <|
   yy 19 (.ld (Value.agg #[(Value.int .u64 (y4_.1)), (Value.int .u64 (y4_.2.1)), (Value.int .u64 (y4_.2.2.1)), (Value.int .u64 (y4_.2.2.2))])) <|
   ww (p := rdT (layT (rows rw_uuuu x0)) 4 (((w64 (x3 + x4))).toNat * 4) = some [(Value.int .u64 (y4_.1)), (Value.int .u64 (y4_.2.1)), (Value.int .u64 (y4_.2.2.1)), (Value.int .u64 (y4_.2.2.2))]) (qn_ rwf_uuuu (0, 0, 0, 0) (hr := hy4) (i := ((w64 (x3 + x4))).toNat) (j := 0) (((w64 (x3 + x4))).toNat * 4) rfl (hy3) (by decide) rfl) <|
   zz 22 (xk3 0 x2 hy5) <|
   yy 23 (.ld (Value.agg #[(Value.int .u64 (y7_.1)), (Value.int .u64 (y7_.2.1)), (Value.int .u64 (y7_.2.2.1)), (Value.int .u64 (y7_.2.2.2))])) <|
   ww (p := rdT (layT (rows rw_uuuu x0)) 4 ((x3).toNat * 4) = some [(Value.int .u64 (y7_.1)), (Value.int .u64 (y7_.2.1)), (Value.int .u64 (y7_.2.2.1)), (Value.int .u64 (y7_.2.2.2))]) (qn_ rwf_uuuu (0, 0, 0, 0) (hr := hy7) (i := (x3).toNat) (j := 0) ((x3).toNat * 4) rfl (hy6) (by decide) rfl) <|
   zz 24 (xk3 0 x2 hy5) <|
   yy 25 (.sto (layT (rows rw_uuuu ((x0).set (x3).toNat y4_)))) <|
   ww (p := ∃ old, rdT (layT (rows rw_uuuu x0)) 4 ((x3).toNat * 4) = some old) (Exists.elim (qcx_ rwf_uuuu (0, 0, 0, 0) (i := (x3).toNat) (j := 0) (l := [(Value.int .u64 (y4_.1)), (Value.int .u64 (y4_.2.1)), (Value.int .u64 (y4_.2.2.1)), (Value.int .u64 (y4_.2.2.2))]) y4_ ((x3).toNat * 4) rfl (hy6) (Nat.le_of_ble_eq_true rfl) rfl) fun o h => ⟨o, h.1⟩) <|
   ww (p := layL [(Value.int .u64 (y4_.1)), (Value.int .u64 (y4_.2.1)), (Value.int .u64 (y4_.2.2.1)), (Value.int .u64 (y4_.2.2.2))] ((x3).toNat * 4) (layT (rows rw_uuuu x0)) = layT (rows rw_uuuu ((x0).set (x3).toNat y4_))) (Exists.elim (qcx_ rwf_uuuu (0, 0, 0, 0) (i := (x3).toNat) (j := 0) (l := [(Value.int .u64 (y4_.1)), (Value.int .u64 (y4_.2.1)), (Value.int .u64 (y4_.2.2.1)), (Value.int .u64 (y4_.2.2.2))]) y4_ ((x3).toNat * 4) rfl (hy6) (Nat.le_of_ble_eq_true rfl) rfl) fun o h => h.2) <|
   zz 26 (xk3 0 x2 hy2) <|
   yy 27 (.sto (layT (rows rw_uuuu ((((x0).set (x3).toNat y4_)).set ((w64 (x3 + x4))).toNat y7_)))) <|
   ww (p := ∃ old, rdT (layT (rows rw_uuuu ((x0).set (x3).toNat y4_))) 4 (((w64 (x3 + x4))).toNat * 4) = some old) (Exists.elim (qcx_ rwf_uuuu (0, 0, 0, 0) (i := ((w64 (x3 + x4))).toNat) (j := 0) (l := [(Value.int .u64 (y7_.1)), (Value.int .u64 (y7_.2.1)), (Value.int .u64 (y7_.2.2.1)), (Value.int .u64 (y7_.2.2.2))]) y7_ (((w64 (x3 + x4))).toNat * 4) rfl (hy8) (Nat.le_of_ble_eq_true rfl) rfl) fun o h => ⟨o, h.1⟩) <|
   ww (p := layL [(Value.int .u64 (y7_.1)), (Value.int .u64 (y7_.2.1)), (Value.int .u64 (y7_.2.2.1)), (Value.int .u64 (y7_.2.2.2))] (((w64 (x3 + x4))).toNat * 4) (layT (rows rw_uuuu ((x0).set (x3).toNat y4_))) = layT (rows rw_uuuu ((((x0).set (x3).toNat y4_)).set ((w64 (x3 + x4))).toNat y7_))) (Exists.elim (qcx_ rwf_uuuu (0, 0, 0, 0) (i := ((w64 (x3 + x4))).toNat) (j := 0) (l := [(Value.int .u64 (y7_.1)), (Value.int .u64 (y7_.2.1)), (Value.int .u64 (y7_.2.2.1)), (Value.int .u64 (y7_.2.2.2))]) y7_ (((w64 (x3 + x4))).toNat * 4) rfl (hy8) (Nat.le_of_ble_eq_true rfl) rfl) fun o h => h.2) <|
   yy 33 (.call (qif_ ((((x0).set (x3).toNat y4_)).set ((w64 (x3 + x4))).toNat y7_) x1 x2 0 x4 x3 y9_ [(0, 0, true)] [(0, 0, true)])) <|
   ww (qg3_ n ((((x0).set (x3).toNat y4_)).set ((w64 (x3 + x4))).toNat y7_) x1 x2 0 x4 x3 y9_ hy9) <|
   ww (qa_ rwf_uuuu ((((x0).set (x3).toNat y4_)).set ((w64 (x3 + x4))).toNat y7_) 24) <|
   ww (qa_ rwf_uuuu y9_ 24) <|
   ww (qa_ rwf_uuuu y9_ 24) <|
   ee) (by kernel_rfl)
 ·rw [if_neg hy1] at h
  obtain rfl := oI h
  exact runC2 hm ⟨[], [(0, 0, true)], 1, 0, [], false, [], [], []⟩ (zz 3 (xdF hy1) <|
   ww (qa_ rwf_uuuu x0 24) <|
   ee) (by kernel_rfl)
theorem qkm_ (n : Nat) {rnd : Option Nat} (x1 : Nat) (x2 : Nat) (x3 : Int) (st : List (Int × Int × Int × Int) × Int) (r : List (Int × Int × Int × Int)) (h : qfl_ n x1 x2 x3 st = some r) : CG P rnd (fnN P 47) 1 (qt_ P 47 [false, true, true, true, true, true]) (qc1_ x1 x2 x3 st) (qc2_ x1 x2 x3 r) :=
 CG.iter (b := qt_ P 47 [false, false, true, true, true, true, true]) (by kernel_rfl) (body := qb5_ n x1 x2 x3) (S := qc1_ x1 x2 x3) (X := qc2_ x1 x2 x3)
  (fun s s' h => qhe_ n x1 x2 x3 s (.inl s') h)
  (fun s r h => qhe_ n x1 x2 x3 s (.inr r) h)
  (fun r => by intro hx; cases hx) h
def qdt_ (n : Nat) (a0 : List (Int × Int × Int × Int)) (a1 : Nat) (a2 : Nat) (a3 : Int) (a4 : Int) : Option (List (Int × Int × Int × Int)) :=
 if ¬ ((2 : Int) = 0) then
  (qfk_ n a1 a2 a3 (w64 (a4 - a3)) (a0, (IntKind.i64.wrap (Int.tdiv (w64 ((w64 (a4 - a3)) - 1)) (2 : Int))))).bind fun c2_ =>
  (qfl_ n a1 a2 a3 (c2_, (w64 ((w64 (a4 - a3)) - 1)))).bind fun c3_ =>
  some c3_
 else none
theorem qk0_ (n : Nat) (a0 : List (Int × Int × Int × Int)) (a1 : Nat) (a2 : Nat) (a3 : Int) (a4 : Int) (r : List (Int × Int × Int × Int)) (h : qdt_ n a0 a1 a2 a3 a4 = some r) : Gv P (.func 47) (qig_ a0 a1 a2 a3 a4) (qih_ a0 a1 a2 a3 a4) (qfy_ a0 a1 a2 a3 a4 r) (qfz_ a0 a1 a2 a3 a4 r) := by
 unfold qdt_ at h
 obtain ⟨hc1, h⟩ := gd h
 obtain ⟨c2_, hc2, h⟩ := oB h
 obtain ⟨c3_, hc3, h⟩ := oB h
 obtain rfl := oI h
 exact runF2 hm ⟨[], [(0, 0, true)], 1, 0, [], false, [], [], []⟩ (yy 14 (.pur (i6 (IntKind.i64.wrap (Int.tdiv (w64 ((w64 (a4 - a3)) - 1)) (2 : Int))))) <|
  ww (p := opBin P .quo 3 (.tmp 18) (.const (i6 (2 : Int))) (i6 (w64 ((w64 (a4 - a3)) - 1))) (i6 (2 : Int)) Ax.h0 = some ((i6 (IntKind.i64.wrap (Int.tdiv (w64 ((w64 (a4 - a3)) - 1)) (2 : Int)))), Ax.h0)) (qve_ hc1) <|
  ww (p := qlc_ none a1 a2 a3 (w64 (a4 - a3)) (a0, (IntKind.i64.wrap (Int.tdiv (w64 ((w64 (a4 - a3)) - 1)) (2 : Int)))) c2_) (qkl_ n a1 a2 a3 (w64 (a4 - a3)) (a0, (IntKind.i64.wrap (Int.tdiv (w64 ((w64 (a4 - a3)) - 1)) (2 : Int)))) c2_ hc2) <|
  ww (qa_ rwf_uuuu a0 24) <|
  ll 17 ⟨⟨[0, 3, 8, 9, 10, 11], [(0, 0, true)], 1, 0, [], false, [], [], []⟩, (qc0_ a1 a2 a3 (w64 (a4 - a3)) c2_).1, (qc0_ a1 a2 a3 (w64 (a4 - a3)) c2_).2⟩ <|
  ww (p := qld_ none a1 a2 a3 (c2_, (w64 ((w64 (a4 - a3)) - 1))) c3_) (qkm_ n a1 a2 a3 (c2_, (w64 ((w64 (a4 - a3)) - 1))) c3_ hc3) <|
  ww (qa_ rwf_uuuu c2_ 24) <|
  ll 23 ⟨⟨[0, 3, 8, 9, 12], [(0, 0, true)], 1, 0, [], false, [], [], []⟩, (qc2_ a1 a2 a3 c3_).1, (qc2_ a1 a2 a3 c3_).2⟩ <|
  ww (qa_ rwf_uuuu c3_ 24) <|
  ee) (by kernel_rfl)

def qir_ (a0 : List (Int × Int × Int × Int)) (a1 : Nat) (a2 : Nat) (a3 : Int) (a4 : Int) (a5 : Int) : List Value := [(sN 0 0 a1 a2), (i6 a3), (i6 a4), (pN 1 0), (Value.func (.func 38) #[] #[])]
def qis_ (a0 : List (Int × Int × Int × Int)) (a1 : Nat) (a2 : Nat) (a3 : Int) (a4 : Int) (a5 : Int) : AH := ⟨sB [(0, (some (.cells (layT (rows rw_uuuu a0)) 24))), (1, (some (.cells (layT [(i6 a5)]) 3)))], 2, 2⟩
def qf9_ (a0 : List (Int × Int × Int × Int)) (a1 : Nat) (a2 : Nat) (a3 : Int) (a4 : Int) (a5 : Int) (r : List Int × Int × Int) : Value := match r with
 | (o0, o1, o2) => (Value.tuple #[(i6 o1), (i6 o2)])
def qga_ (a0 : List (Int × Int × Int × Int)) (a1 : Nat) (a2 : Nat) (a3 : Int) (a4 : Int) (a5 : Int) (r : List Int × Int × Int) : AH := match r with
 | (o0, o1, o2) => ⟨sB [(1, (some (.cells (layT (iv o0)) 3)))], 2, 1⟩
abbrev qtg_ (a0 : List (Int × Int × Int × Int)) (a1 : Nat) (a2 : Nat) (a3 : Int) (a4 : Int) (a5 : Int) (r : List Int × Int × Int) : Prop := Gv P (.func 62) (qir_ a0 a1 a2 a3 a4 a5) (qis_ a0 a1 a2 a3 a4 a5) (qf9_ a0 a1 a2 a3 a4 a5 r) (qga_ a0 a1 a2 a3 a4 a5 r)
abbrev qmp_ (a0 : List (Int × Int × Int × Int)) (a1 : Nat) (a2 : Nat) (a3 : Int) (a4 : Int) (a5 : Int) (r : List Int × Int × Int) (ins outs : BL) : CallA := ⟨2, ins, qf9_ a0 a1 a2 a3 a4 a5 r, qga_ a0 a1 a2 a3 a4 a5 r, outs⟩
def qdy_ (n : Nat) (a0 : List (Int × Int × Int × Int)) (a1 : Nat) (a2 : Nat) (a3 : Int) (a4 : Int) (a5 : Int) : Option (List Int × Int × Int) :=
 if 0 ≤ a4 ∧ a4 < ((a1 : Nat) : Int) then
  if (a4).toNat < (a0).length then
   ((some ((a0).getD (a4).toNat (0, 0, 0, 0)))).bind fun c3_ =>
   if 0 ≤ a3 ∧ a3 < ((a1 : Nat) : Int) then
    if (a3).toNat < (a0).length then
     ((some ((a0).getD (a3).toNat (0, 0, 0, 0)))).bind fun c6_ =>
     (qd_ n (c3_.1) (c3_.2.1) (c3_.2.2.1) (c3_.2.2.2) (c6_.1) (c6_.2.1) (c6_.2.2.1) (c6_.2.2.2)).bind fun c7_ =>
     if c7_ < 0 then
      some ([(w64 (a5 + 1))], a4, a3)
     else
      some ([a5], a3, a4)
    else none
   else none
  else none
 else none
theorem qlx_ (n : Nat) (a0 : List (Int × Int × Int × Int)) (a1 : Nat) (a2 : Nat) (a3 : Int) (a4 : Int) (a5 : Int) (r : List Int × Int × Int) (h : qdy_ n a0 a1 a2 a3 a4 a5 = some r) : Gv P (.func 62) (qir_ a0 a1 a2 a3 a4 a5) (qis_ a0 a1 a2 a3 a4 a5) (qf9_ a0 a1 a2 a3 a4 a5 r) (qga_ a0 a1 a2 a3 a4 a5 r) := by
 unfold qdy_ at h
 obtain ⟨hc1, h⟩ := gd h
 obtain ⟨hc2, h⟩ := gd h
 obtain ⟨c3_, hc3, h⟩ := oB h
 obtain ⟨hc4, h⟩ := gd h
 obtain ⟨hc5, h⟩ := gd h
 obtain ⟨c6_, hc6, h⟩ := oB h
 obtain ⟨c7_, hc7, h⟩ := oB h
 have k0 := fun {A L l} (k : PL A L l) => zz 8 (xk3 0 a2 hc1) <|
  yy 9 (.ld (Value.agg #[(Value.int .u64 (c3_.1)), (Value.int .u64 (c3_.2.1)), (Value.int .u64 (c3_.2.2.1)), (Value.int .u64 (c3_.2.2.2))])) <|
  ww (p := rdT (layT (rows rw_uuuu a0)) 4 ((a4).toNat * 4) = some [(Value.int .u64 (c3_.1)), (Value.int .u64 (c3_.2.1)), (Value.int .u64 (c3_.2.2.1)), (Value.int .u64 (c3_.2.2.2))]) (qn_ rwf_uuuu (0, 0, 0, 0) (hr := hc3) (i := (a4).toNat) (j := 0) ((a4).toNat * 4) rfl (hc2) (by decide) rfl) <|
  zz 12 (xk3 0 a2 hc4) <|
  yy 13 (.ld (Value.agg #[(Value.int .u64 (c6_.1)), (Value.int .u64 (c6_.2.1)), (Value.int .u64 (c6_.2.2.1)), (Value.int .u64 (c6_.2.2.2))])) <|
  ww (p := rdT (layT (rows rw_uuuu a0)) 4 ((a3).toNat * 4) = some [(Value.int .u64 (c6_.1)), (Value.int .u64 (c6_.2.1)), (Value.int .u64 (c6_.2.2.1)), (Value.int .u64 (c6_.2.2.2))]) (qn_ rwf_uuuu (0, 0, 0, 0) (hr := hc6) (i := (a3).toNat) (j := 0) ((a3).toNat * 4) rfl (hc5) (by decide) rfl) <|
  yy 14 (.call (qbg_ (c3_.1) (c3_.2.1) (c3_.2.2.1) (c3_.2.2.2) (c6_.1) (c6_.2.1) (c6_.2.2.1) (c6_.2.2.2) c7_ [] [])) <|
  ww (qw_ n (c3_.1) (c3_.2.1) (c3_.2.2.1) (c3_.2.2.2) (c6_.1) (c6_.2.1) (c6_.2.2.1) (c6_.2.2.2) c7_ hc7) <|
  k
 by_cases hc8 : c7_ < 0
 ·rw [if_pos hc8] at h
  obtain rfl := oI h
  exact runF2 hm ⟨[10, 11], [(1, 1, false)], 2, 1, [], false, [], [], []⟩ (k0 <|
   zz 15 (xdT hc8) <|
   ee) (by kernel_rfl)
 ·rw [if_neg hc8] at h
  obtain rfl := oI h
  exact runF2 hm ⟨[10, 11], [(1, 1, false)], 2, 1, [], false, [], [], []⟩ (k0 <|
   zz 15 (xdF hc8) <|
   ee) (by kernel_rfl)

def qit_ (a0 : List (Int × Int × Int × Int)) (a1 : Nat) (a2 : Nat) (a3 : Int) (a4 : Int) (a5 : List Int) : List Value := [(sN 0 0 a1 a2), (i6 a3), (i6 a4), (pN 1 0), (Value.func (.func 38) #[] #[])]
def qiu_ (a0 : List (Int × Int × Int × Int)) (a1 : Nat) (a2 : Nat) (a3 : Int) (a4 : Int) (a5 : List Int) : AH := ⟨sB [(0, (some (.cells (layT (rows rw_uuuu a0)) 24))), (1, (some (.cells (layT (iv a5)) 3)))], 2, 2⟩
def qgb_ (a0 : List (Int × Int × Int × Int)) (a1 : Nat) (a2 : Nat) (a3 : Int) (a4 : Int) (a5 : List Int) (r : List Int × Int × Int) : Value := match r with
 | (o0, o1, o2) => (Value.tuple #[(i6 o1), (i6 o2)])
def qgc_ (a0 : List (Int × Int × Int × Int)) (a1 : Nat) (a2 : Nat) (a3 : Int) (a4 : Int) (a5 : List Int) (r : List Int × Int × Int) : AH := match r with
 | (o0, o1, o2) => ⟨sB [(1, (some (.cells (layT (iv o0)) 3)))], 2, 1⟩
abbrev qth_ (a0 : List (Int × Int × Int × Int)) (a1 : Nat) (a2 : Nat) (a3 : Int) (a4 : Int) (a5 : List Int) (r : List Int × Int × Int) : Prop := Gv P (.func 62) (qit_ a0 a1 a2 a3 a4 a5) (qiu_ a0 a1 a2 a3 a4 a5) (qgb_ a0 a1 a2 a3 a4 a5 r) (qgc_ a0 a1 a2 a3 a4 a5 r)
abbrev qdz_ (a0 : List (Int × Int × Int × Int)) (a1 : Nat) (a2 : Nat) (a3 : Int) (a4 : Int) (a5 : List Int) (r : List Int × Int × Int) (ins outs : BL) : CallA := ⟨2, ins, qgb_ a0 a1 a2 a3 a4 a5 r, qgc_ a0 a1 a2 a3 a4 a5 r, outs⟩
def qbh_ (n : Nat) (a0 : List (Int × Int × Int × Int)) (a1 : Nat) (a2 : Nat) (a3 : Int) (a4 : Int) (a5 : List Int) : Option (List Int × Int × Int) :=
 if 0 ≤ a4 ∧ a4 < ((a1 : Nat) : Int) then
  if (a4).toNat < (a0).length then
   ((some ((a0).getD (a4).toNat (0, 0, 0, 0)))).bind fun c3_ =>
   if 0 ≤ a3 ∧ a3 < ((a1 : Nat) : Int) then
    if (a3).toNat < (a0).length then
     ((some ((a0).getD (a3).toNat (0, 0, 0, 0)))).bind fun c6_ =>
     (qd_ n (c3_.1) (c3_.2.1) (c3_.2.2.1) (c3_.2.2.2) (c6_.1) (c6_.2.1) (c6_.2.2.1) (c6_.2.2.2)).bind fun c7_ =>
     if c7_ < 0 then
      if 0 < (a5).length then
       ((some ((a5).getD 0 0))).bind fun c10_ =>
       some (((a5).set 0 (w64 (c10_ + 1))), a4, a3)
      else none
     else
      some (a5, a3, a4)
    else none
   else none
  else none
 else none
theorem qdn_ (n : Nat) (a0 : List (Int × Int × Int × Int)) (a1 : Nat) (a2 : Nat) (a3 : Int) (a4 : Int) (a5 : List Int) (r : List Int × Int × Int) (h : qbh_ n a0 a1 a2 a3 a4 a5 = some r) : Gv P (.func 62) (qit_ a0 a1 a2 a3 a4 a5) (qiu_ a0 a1 a2 a3 a4 a5) (qgb_ a0 a1 a2 a3 a4 a5 r) (qgc_ a0 a1 a2 a3 a4 a5 r) := by
 unfold qbh_ at h
 obtain ⟨hc1, h⟩ := gd h
 obtain ⟨hc2, h⟩ := gd h
 obtain ⟨c3_, hc3, h⟩ := oB h
 obtain ⟨hc4, h⟩ := gd h
 obtain ⟨hc5, h⟩ := gd h
 obtain ⟨c6_, hc6, h⟩ := oB h
 obtain ⟨c7_, hc7, h⟩ := oB h
 have k0 := fun {A L l} (k : PL A L l) => zz 8 (xk3 0 a2 hc1) <|
  yy 9 (.ld (Value.agg #[(Value.int .u64 (c3_.1)), (Value.int .u64 (c3_.2.1)), (Value.int .u64 (c3_.2.2.1)), (Value.int .u64 (c3_.2.2.2))])) <|
  ww (p := rdT (layT (rows rw_uuuu a0)) 4 ((a4).toNat * 4) = some [(Value.int .u64 (c3_.1)), (Value.int .u64 (c3_.2.1)), (Value.int .u64 (c3_.2.2.1)), (Value.int .u64 (c3_.2.2.2))]) (qn_ rwf_uuuu (0, 0, 0, 0) (hr := hc3) (i := (a4).toNat) (j := 0) ((a4).toNat * 4) rfl (hc2) (by decide) rfl) <|
  zz 12 (xk3 0 a2 hc4) <|
  yy 13 (.ld (Value.agg #[(Value.int .u64 (c6_.1)), (Value.int .u64 (c6_.2.1)), (Value.int .u64 (c6_.2.2.1)), (Value.int .u64 (c6_.2.2.2))])) <|
  ww (p := rdT (layT (rows rw_uuuu a0)) 4 ((a3).toNat * 4) = some [(Value.int .u64 (c6_.1)), (Value.int .u64 (c6_.2.1)), (Value.int .u64 (c6_.2.2.1)), (Value.int .u64 (c6_.2.2.2))]) (qn_ rwf_uuuu (0, 0, 0, 0) (hr := hc6) (i := (a3).toNat) (j := 0) ((a3).toNat * 4) rfl (hc5) (by decide) rfl) <|
  yy 14 (.call (qbg_ (c3_.1) (c3_.2.1) (c3_.2.2.1) (c3_.2.2.2) (c6_.1) (c6_.2.1) (c6_.2.2.1) (c6_.2.2.2) c7_ [] [])) <|
  ww (qw_ n (c3_.1) (c3_.2.1) (c3_.2.2.1) (c3_.2.2.2) (c6_.1) (c6_.2.1) (c6_.2.2.1) (c6_.2.2.2) c7_ hc7) <|
  k
 by_cases hc8 : c7_ < 0
 ·rw [if_pos hc8] at h
  obtain ⟨hc9, h⟩ := gd h
  obtain ⟨c10_, hc10, h⟩ := oB h
  obtain rfl := oI h
  exact runF2 hm ⟨[10, 11], [(1, 1, true)], 2, 1, [], false, [], [], []⟩ (k0 <|
   zz 15 (xdT hc8) <|
   zz 20 (xivN hc10 (hc9)) <|
   yy 23 (.sto (layT (iv ((a5).set 0 (w64 (c10_ + 1)))))) <|
   ww (p := ∃ old, rdT (layT (iv a5)) 1 0 = some old) (Exists.elim (iv_st (a5) (0) ((w64 (c10_ + 1))) (hc9)) fun o h => ⟨o, h.1⟩) <|
   ww (p := layL [(i6 (w64 (c10_ + 1)))] 0 (layT (iv a5)) = layT (iv ((a5).set 0 (w64 (c10_ + 1))))) (Exists.elim (iv_st (a5) (0) ((w64 (c10_ + 1))) (hc9)) fun o h => h.2) <|
   ww (qic_ ((a5).set 0 (w64 (c10_ + 1))) 3) <|
   ee) (by kernel_rfl)
 ·rw [if_neg hc8] at h
  obtain rfl := oI h
  exact runF2 hm ⟨[10, 11], [(1, 1, true)], 2, 1, [], false, [], [], []⟩ (k0 <|
   zz 15 (xdF hc8) <|
   ww (qic_ a5 3) <|
   ee) (by kernel_rfl)

def qiv_ (a0 : List (Int × Int × Int × Int)) (a1 : Nat) (a2 : Nat) (a3 : Int) (a4 : Int) (a5 : Int) (a6 : Int) : List Value := [(sN 0 0 a1 a2), (i6 a3), (i6 a4), (i6 a5), (pN 1 0), (Value.func (.func 38) #[] #[])]
def qiw_ (a0 : List (Int × Int × Int × Int)) (a1 : Nat) (a2 : Nat) (a3 : Int) (a4 : Int) (a5 : Int) (a6 : Int) : AH := ⟨sB [(0, (some (.cells (layT (rows rw_uuuu a0)) 24))), (1, (some (.cells (layT [(i6 a6)]) 3)))], 2, 2⟩
def qgd_ (a0 : List (Int × Int × Int × Int)) (a1 : Nat) (a2 : Nat) (a3 : Int) (a4 : Int) (a5 : Int) (a6 : Int) (r : List Int × Int) : Value := match r with
 | (o0, o1) => (i6 o1)
def qge_ (a0 : List (Int × Int × Int × Int)) (a1 : Nat) (a2 : Nat) (a3 : Int) (a4 : Int) (a5 : Int) (a6 : Int) (r : List Int × Int) : AH := match r with
 | (o0, o1) => ⟨sB [(1, (some (.cells (layT (iv o0)) 3)))], 2, 1⟩
abbrev qti_ (a0 : List (Int × Int × Int × Int)) (a1 : Nat) (a2 : Nat) (a3 : Int) (a4 : Int) (a5 : Int) (a6 : Int) (r : List Int × Int) : Prop := Gv P (.func 61) (qiv_ a0 a1 a2 a3 a4 a5 a6) (qiw_ a0 a1 a2 a3 a4 a5 a6) (qgd_ a0 a1 a2 a3 a4 a5 a6 r) (qge_ a0 a1 a2 a3 a4 a5 a6 r)
abbrev qix_ (a0 : List (Int × Int × Int × Int)) (a1 : Nat) (a2 : Nat) (a3 : Int) (a4 : Int) (a5 : Int) (a6 : Int) (r : List Int × Int) (ins outs : BL) : CallA := ⟨2, ins, qgd_ a0 a1 a2 a3 a4 a5 a6 r, qge_ a0 a1 a2 a3 a4 a5 a6 r, outs⟩
def qc3_ (n : Nat) (a0 : List (Int × Int × Int × Int)) (a1 : Nat) (a2 : Nat) (a3 : Int) (a4 : Int) (a5 : Int) (a6 : Int) : Option (List Int × Int) :=
 (qdy_ n a0 a1 a2 a3 a4 a6).bind fun t => match t with
 | (c1_0, c1_1, c1_2) =>
  (qbh_ n a0 a1 a2 c1_2 a5 c1_0).bind fun t => match t with
  | (c2_0, c2_1, c2_2) =>
   (qbh_ n a0 a1 a2 c1_1 c2_1 c2_0).bind fun t => match t with
   | (c3_0, c3_1, c3_2) =>
    some (c3_0, c3_2)
theorem qht_ (n : Nat) (a0 : List (Int × Int × Int × Int)) (a1 : Nat) (a2 : Nat) (a3 : Int) (a4 : Int) (a5 : Int) (a6 : Int) (r : List Int × Int) (h : qc3_ n a0 a1 a2 a3 a4 a5 a6 = some r) : Gv P (.func 61) (qiv_ a0 a1 a2 a3 a4 a5 a6) (qiw_ a0 a1 a2 a3 a4 a5 a6) (qgd_ a0 a1 a2 a3 a4 a5 a6 r) (qge_ a0 a1 a2 a3 a4 a5 a6 r) := by
 unfold qc3_ at h
 obtain ⟨⟨c1_0, c1_1, c1_2⟩, hc1, h⟩ := oB h
 dsimp only at h
 obtain ⟨⟨c2_0, c2_1, c2_2⟩, hc2, h⟩ := oB h
 dsimp only at h
 obtain ⟨⟨c3_0, c3_1, c3_2⟩, hc3, h⟩ := oB h
 dsimp only at h
 obtain rfl := oI h
 exact runF2 hm ⟨[12], [(1, 1, true)], 2, 1, [], false, [], [], []⟩ (yy 8 (.call (qmp_ a0 a1 a2 a3 a4 a6 (c1_0, c1_1, c1_2) [(0, 0, true), (1, 1, false)] [(1, 1, true)])) <|
  ww (qlx_ n a0 a1 a2 a3 a4 a6 (c1_0, c1_1, c1_2) hc1) <|
  ww (qa_ rwf_uuuu a0 24) <|
  ww (qic_ c1_0 3) <|
  yy 20 (.call (qdz_ a0 a1 a2 c1_2 a5 c1_0 (c2_0, c2_1, c2_2) [(0, 0, true), (1, 1, true)] [(1, 1, true)])) <|
  ww (qdn_ n a0 a1 a2 c1_2 a5 c1_0 (c2_0, c2_1, c2_2) hc2) <|
  ww (qa_ rwf_uuuu a0 24) <|
  ww (qic_ c1_0 3) <|
  ww (qic_ c2_0 3) <|
  yy 32 (.call (qdz_ a0 a1 a2 c1_1 c2_1 c2_0 (c3_0, c3_1, c3_2) [(0, 0, true), (1, 1, true)] [(1, 1, true)])) <|
  ww (qdn_ n a0 a1 a2 c1_1 c2_1 c2_0 (c3_0, c3_1, c3_2) hc3) <|
  ww (qa_ rwf_uuuu a0 24) <|
  ww (qic_ c2_0 3) <|
  ww (qic_ c3_0 3) <|
  ww (qic_ c3_0 3) <|
  ee) (by kernel_rfl)

def qgk_ (a0 : List (Int × Int × Int × Int)) (a1 : Nat) (a2 : Nat) (a3 : Int) (a4 : Int) : List Value := [(sN 0 0 a1 a2), (i6 a3), (pN 1 0), (Value.func (.func 38) #[] #[])]
def qgl_ (a0 : List (Int × Int × Int × Int)) (a1 : Nat) (a2 : Nat) (a3 : Int) (a4 : Int) : AH := ⟨sB [(0, (some (.cells (layT (rows rw_uuuu a0)) 24))), (1, (some (.cells (layT [(i6 a4)]) 3)))], 2, 2⟩
def qed_ (a0 : List (Int × Int × Int × Int)) (a1 : Nat) (a2 : Nat) (a3 : Int) (a4 : Int) (r : List Int × Int) : Value := match r with
 | (o0, o1) => (i6 o1)
def qee_ (a0 : List (Int × Int × Int × Int)) (a1 : Nat) (a2 : Nat) (a3 : Int) (a4 : Int) (r : List Int × Int) : AH := match r with
 | (o0, o1) => ⟨sB [(1, (some (.cells (layT (iv o0)) 3)))], 2, 1⟩
abbrev qqa_ (a0 : List (Int × Int × Int × Int)) (a1 : Nat) (a2 : Nat) (a3 : Int) (a4 : Int) (r : List Int × Int) : Prop := Gv P (.func 60) (qgk_ a0 a1 a2 a3 a4) (qgl_ a0 a1 a2 a3 a4) (qed_ a0 a1 a2 a3 a4 r) (qee_ a0 a1 a2 a3 a4 r)
abbrev qj7_ (a0 : List (Int × Int × Int × Int)) (a1 : Nat) (a2 : Nat) (a3 : Int) (a4 : Int) (r : List Int × Int) (ins outs : BL) : CallA := ⟨2, ins, qed_ a0 a1 a2 a3 a4 r, qee_ a0 a1 a2 a3 a4 r, outs⟩
def qb9_ (n : Nat) (a0 : List (Int × Int × Int × Int)) (a1 : Nat) (a2 : Nat) (a3 : Int) (a4 : Int) : Option (List Int × Int) :=
 (qc3_ n a0 a1 a2 (w64 (a3 - 1)) a3 (w64 (a3 + 1)) a4).bind fun t => match t with
 | (c1_0, c1_1) =>
  some (c1_0, c1_1)
theorem qjh_ (n : Nat) (a0 : List (Int × Int × Int × Int)) (a1 : Nat) (a2 : Nat) (a3 : Int) (a4 : Int) (r : List Int × Int) (h : qb9_ n a0 a1 a2 a3 a4 = some r) : Gv P (.func 60) (qgk_ a0 a1 a2 a3 a4) (qgl_ a0 a1 a2 a3 a4) (qed_ a0 a1 a2 a3 a4 r) (qee_ a0 a1 a2 a3 a4 r) := by
 unfold qb9_ at h
 obtain ⟨⟨c1_0, c1_1⟩, hc1, h⟩ := oB h
 dsimp only at h
 obtain rfl := oI h
 exact runF2 hm ⟨[8], [(1, 1, true)], 2, 1, [], false, [], [], []⟩ (yy 11 (.call (qix_ a0 a1 a2 (w64 (a3 - 1)) a3 (w64 (a3 + 1)) a4 (c1_0, c1_1) [(0, 0, true), (1, 1, false)] [(1, 1, true)])) <|
  ww (qht_ n a0 a1 a2 (w64 (a3 - 1)) a3 (w64 (a3 + 1)) a4 (c1_0, c1_1) hc1) <|
  ww (qa_ rwf_uuuu a0 24) <|
  ww (qic_ c1_0 3) <|
  ww (qic_ c1_0 3) <|
  ee) (by kernel_rfl)


end Go.Proofs.YtdjkjpmcmpihgaaDoor.clp01
