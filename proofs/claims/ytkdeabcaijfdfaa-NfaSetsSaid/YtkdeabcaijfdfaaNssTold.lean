/-
  What functions do, told by pure functions. No condition.
-/
import Derived.Test.YtkdeabcaijfdfaaNssLives
set_option linter.unusedSimpArgs false
set_option linter.unusedVariables false
set_option linter.unusedSectionVars false
set_option linter.unnecessarySimpa false
set_option maxRecDepth 100000
noncomputable section
namespace Go.Proofs.Ytkdeabcaijfdfaa.nss03
open Go Go.Proofs.Ytkdeabcaijfdfaa Ax
variable [Args]
def rw_u (x : Int) : List Value := [Value.int .u64 x]
theorem rwf_u : RowF rw_u 1 := ⟨fun _ => rfl, fun a v h => by
 simp only [rw_u, List.mem_cons, List.not_mem_nil, or_false] at h
 rcases h with rfl <;> rfl, fun _ => rfl⟩
abbrev xp1 (b o n k : Nat) (i : Int) : Prop := IA P 23 (sW b o n k) i (pW b (Nat.add o (i.toNat * 1)))
theorem xk1 (b o k : Nat) {n : Nat} {i : Int} (h : 0 ≤ i ∧ i < (n : Int)) : OB (.pur (pW b (Nat.add o (i.toNat * 1)))) (xp1 b o n k i) := ⟨ixWO (e := 24) (by kernel_rfl) (by kernel_rfl) h⟩
abbrev lp2 (x : WL rw_L) (i : Nat) (r : NL) : Prop := Lg P 24 (pW x.num (Nat.add x.off (i * 1))) (nlV r)
theorem lk2 {x : WL rw_L} {i : Nat} {r : NL} (hr : some ((x.l).getD i (nl0)) = some r) (h : i < (x.l).length) : OB (.ld (nlV r)) (lp2 x i r) := by cases hr; exact ⟨ldRS rwf_L (nl0) (i := i) (q := 0) x (Nat.add x.off (i * 1)) rfl (by kernel_rfl) h (by decide) rfl⟩
abbrev xp3 (b o n k : Nat) (i : Int) : Prop := IA P 22 (sW b o n k) i (pW b (Nat.add o (i.toNat * 4)))
theorem xk3 (b o k : Nat) {n : Nat} {i : Int} (h : 0 ≤ i ∧ i < (n : Int)) : OB (.pur (pW b (Nat.add o (i.toNat * 4)))) (xp3 b o n k i) := ⟨ixWO (e := 36) (by kernel_rfl) (by kernel_rfl) h⟩
abbrev lp4 (x : WL rw_uuuu) (i : Nat) (r : Int × Int × Int × Int) : Prop := Lg P 36 (pW x.num (Nat.add x.off (i * 4))) (Value.agg #[(Value.int .u64 (r.1)), (Value.int .u64 (r.2.1)), (Value.int .u64 (r.2.2.1)), (Value.int .u64 (r.2.2.2))])
theorem lk4 {x : WL rw_uuuu} {i : Nat} {r : Int × Int × Int × Int} (hr : some ((x.l).getD i (0, 0, 0, 0)) = some r) (h : i < (x.l).length) : OB (.ld (Value.agg #[(Value.int .u64 (r.1)), (Value.int .u64 (r.2.1)), (Value.int .u64 (r.2.2.1)), (Value.int .u64 (r.2.2.2))])) (lp4 x i r) := by cases hr; exact ⟨ldRA rwf_uuuu (0, 0, 0, 0) (i := i) (q := 0) x (n := 4) (Nat.add x.off (i * 4)) rfl (by kernel_rfl) (by kernel_rfl) h (by decide) (by decide) rfl⟩
abbrev xp5 (b o n k : Nat) (i : Int) : Prop := IA P 24 (sW b o n k) i (pW b (Nat.add o i.toNat))
theorem xk5 (b o k : Nat) {n : Nat} {i : Int} (h : 0 ≤ i ∧ i < (n : Int)) : OB (.pur (pW b (Nat.add o i.toNat))) (xp5 b o n k i) := ⟨ixWO1 (e := 3) (by kernel_rfl) (by kernel_rfl) h⟩
theorem nk6 {x : NL} {i : Nat} {v : Int} (hv : some (x.l.getD i 0) = some v) (h : i < x.l.length) : OB (.ld (i6 v)) (Lg P 3 (pW (Nat.add x.num 64) (Nat.add x.off i)) (i6 v)) := by cases hv; exact ⟨ldN x (by kernel_rfl) h⟩
abbrev op7 (L : List (Int)) (i : Nat) (r : Int) : Prop := (layT (rows rw_u L)).get (i * 1) = some (Value.int .u64 r)
theorem ok7 {L : List (Int)} {i : Nat} {r : Int} (hr : some (L.getD i (0)) = some r) (h : i < L.length) : OB (.ld (Value.int .u64 r)) (op7 L i r) := by cases hr; exact ⟨rows_ld rwf_u (0) (i := i) (j := 0) (i * 1) rfl h (by decide) rfl⟩
abbrev xp8 (b n k : Nat) (i : Int) : Prop := IA P 24 (sN b 0 n k) i (pN b i.toNat)
theorem xk8 (b k : Nat) {n : Nat} {i : Int} (h : 0 ≤ i ∧ i < (n : Int)) : OB (.pur (pN b i.toNat)) (xp8 b n k i) := ⟨ixS1 (e := 3) (by kernel_rfl) (by kernel_rfl) h⟩

def m_viewportlaw03lives (n : Nat) : Option Unit := some ()
theorem m_viewportlaw03lives_ok (n : Nat) (r : Unit) (h : m_viewportlaw03lives n = some r) : Gv P (.func 5) [] Ax.h0 (.bool true) Ax.h0 := lives_gv

def A_mapsKeysnfasetintstructu (M : MapI Unit) : List Value := [(Value.map (some 0))]
def H_mapsKeysnfasetintstructu (M : MapI Unit) : AH := ⟨sB [(0, (some (.map (mEs mvU M) (mLen M))))], 1, 1⟩
def V_mapsKeysnfasetintstructu (M : MapI Unit) (r : Unit) : Value := (Value.func (.func 49) #[] #[(pN 1 0)])
def R_mapsKeysnfasetintstructu (M : MapI Unit) (r : Unit) : AH := ⟨sB [(1, (some (.box (Value.map (some 0)) 60)))], 2, 1⟩
abbrev G_mapsKeysnfasetintstructu (M : MapI Unit) (r : Unit) : Prop := Gv P (.func 38) (A_mapsKeysnfasetintstructu M) (H_mapsKeysnfasetintstructu M) (V_mapsKeysnfasetintstructu M r) (R_mapsKeysnfasetintstructu M r)
abbrev C_mapsKeysnfasetintstructu (M : MapI Unit) (r : Unit) (ins outs : BL) : CallA := ⟨1, ins, V_mapsKeysnfasetintstructu M r, R_mapsKeysnfasetintstructu M r, outs⟩
def m_mapsKeysnfasetintstructu (n : Nat) (M : MapI Unit) : Option Unit := some ()
theorem sk_mapsKeysnfasetintstructu : SKOK P ⟨38, 37, 49, 3, 60, true⟩ := by first | exact sks_ok.1 | exact sks_ok.2.1 | exact sks_ok.2.2.1 | exact sks_ok.2.2.2.1
theorem m_mapsKeysnfasetintstructu_ok (n : Nat) (M : MapI Unit) (r : Unit) (h : m_mapsKeysnfasetintstructu n M = some r) : Gv P (.func 38) (A_mapsKeysnfasetintstructu M) (H_mapsKeysnfasetintstructu M) (V_mapsKeysnfasetintstructu M r) (R_mapsKeysnfasetintstructu M r) := skK sk_mapsKeysnfasetintstructu mvU M

def A_slicesSortedintu (M : MapI Unit) : List Value := [(Value.func (.func 49) #[] #[(pN 0 0)])]
def H_slicesSortedintu (M : MapI Unit) : AH := ⟨sB [(0, (some (.box (Value.map (some 1)) 60))), (1, (some (.map (mEs mvU M) (mLen M))))], 2, 2⟩
def V_slicesSortedintu (M : MapI Unit) (r : (Unit) ⊕ (List Int)) : Value := match r with
 | .inl _ => (Value.slice none 0 0)
 | .inr o0 => (sN 2 0 (o0).length (Nat.add big 1))
def R_slicesSortedintu (M : MapI Unit) (r : (Unit) ⊕ (List Int)) : AH := match r with
 | .inl _ => ⟨sB [], 2, 2⟩
 | .inr o0 => ⟨sB [(2, (some (.cells (layT (iv o0)) 3)))], 3, 2⟩
abbrev G_slicesSortedintu (M : MapI Unit) (r : (Unit) ⊕ (List Int)) : Prop := Gv P (.func 37) (A_slicesSortedintu M) (H_slicesSortedintu M) (V_slicesSortedintu M r) (R_slicesSortedintu M r)
abbrev C_slicesSortedintu (M : MapI Unit) (r : (Unit) ⊕ (List Int)) (ins outs : BL) : CallA := ⟨2, ins, V_slicesSortedintu M r, R_slicesSortedintu M r, outs⟩
def m_slicesSortedintu (n : Nat) (M : MapI Unit) : Option ((Unit) ⊕ (List Int)) :=
 if mWf M = true then
  if mLen M * 8 ≤ 140737488355328 then
   match mKeys M with
   | [] =>
    some (.inl ())
   | a :: t =>
    some (.inr (a :: t))
  else none
 else none
theorem m_slicesSortedintu_ok (n : Nat) (M : MapI Unit) (r : (Unit) ⊕ (List Int)) (h : m_slicesSortedintu n M = some r) : Gv P (.func 37) (A_slicesSortedintu M) (H_slicesSortedintu M) (V_slicesSortedintu M r) (R_slicesSortedintu M r) := by
 unfold m_slicesSortedintu at h
 obtain ⟨h1, h⟩ := gd h
 obtain ⟨h2, h⟩ := gd h
 cases h3 : mKeys M with
 | nil => rw [h3] at h; obtain rfl := oI h; exact skS0 sk_mapsKeysnfasetintstructu rfl mvU h1 h2 h3
 | cons a t => rw [h3] at h; obtain rfl := oI h; exact skS1 sk_mapsKeysnfasetintstructu rfl mvU h1 h2 h3

def A_viewportkitLightNfaq1 (a0 : WL rw_uuuu) (a1 : WL rw_L) (a2 : NL) (a3 : Int) : List Value := [(Value.agg #[(wlV a0), (wlV a1), (nlV a2)]), (i6 a3)]
def H_viewportkitLightNfaq1 (a0 : WL rw_uuuu) (a1 : WL rw_L) (a2 : NL) (a3 : Int) : AH := ⟨sB [], 0, 0⟩
def V_viewportkitLightNfaq1 (a0 : WL rw_uuuu) (a1 : WL rw_L) (a2 : NL) (a3 : Int) (r : Bool) : Value := match r with
 | o0 => (bO o0)
def R_viewportkitLightNfaq1 (a0 : WL rw_uuuu) (a1 : WL rw_L) (a2 : NL) (a3 : Int) (r : Bool) : AH := match r with
 | o0 => ⟨sB [], 0, 0⟩
abbrev G_viewportkitLightNfaq1 (a0 : WL rw_uuuu) (a1 : WL rw_L) (a2 : NL) (a3 : Int) (r : Bool) : Prop := Gv P (.func 6) (A_viewportkitLightNfaq1 a0 a1 a2 a3) (H_viewportkitLightNfaq1 a0 a1 a2 a3) (V_viewportkitLightNfaq1 a0 a1 a2 a3 r) (R_viewportkitLightNfaq1 a0 a1 a2 a3 r)
abbrev C_viewportkitLightNfaq1 (a0 : WL rw_uuuu) (a1 : WL rw_L) (a2 : NL) (a3 : Int) (r : Bool) (ins outs : BL) : CallA := ⟨0, ins, V_viewportkitLightNfaq1 a0 a1 a2 a3 r, R_viewportkitLightNfaq1 a0 a1 a2 a3 r, outs⟩
def S_viewportkitLightNfaq1_1 (x1_0 : Int) (x1_1 : WL rw_uuuu) (x1_2 : WL rw_L) (x1_3 : NL) (st : Int × Int) : XSt := match st with
 | (x1_4, x1_5) => (sT 53 [(1, (i6 x1_0)), (2, (pN 0 0)), (5, (i6 x1_4)), (6, (i6 x1_5))], [], ⟨sB [(0, (some (.cells (layT [(wlV x1_1), (wlV x1_2), (nlV x1_3)]) 26)))], 1, 0⟩)
def X_viewportkitLightNfaq1_1 (x1_0 : Int) (x1_1 : WL rw_uuuu) (x1_2 : WL rw_L) (x1_3 : NL) (r : Int) : Ex × XSt := match r with
 | z1_0 => (.exit 0, (sT 53 [(1, (i6 x1_0)), (2, (pN 0 0)), (5, (i6 z1_0))], [], ⟨sB [(0, (some (.cells (layT [(wlV x1_1), (wlV x1_2), (nlV x1_3)]) 26)))], 1, 0⟩))
abbrev Q_viewportkitLightNfaq1_1 (rnd : Option Nat) (x1_0 : Int) (x1_1 : WL rw_uuuu) (x1_2 : WL rw_L) (x1_3 : NL) (st : Int × Int) (c : Ex × XSt) : Prop := CG P rnd (fnN P 6) 0 (codeOf P 6 [false, false, true, false, true, true]) (S_viewportkitLightNfaq1_1 x1_0 x1_1 x1_2 x1_3 st) c
abbrev U_viewportkitLightNfaq1_1 (rd : Option Nat) (x1_0 : Int) (x1_1 : WL rw_uuuu) (x1_2 : WL rw_L) (x1_3 : NL) (st : Int × Int) (r : Int) : Prop := CG P rd (fnN P 6) 0 (codeOf P 6 [false, true, false, true, true]) (S_viewportkitLightNfaq1_1 x1_0 x1_1 x1_2 x1_3 st) (X_viewportkitLightNfaq1_1 x1_0 x1_1 x1_2 x1_3 r)
def B_viewportkitLightNfaq1_1 (n : Nat) (x1_0 : Int) (x1_1 : WL rw_uuuu) (x1_2 : WL rw_L) (x1_3 : NL) (st : Int × Int) : Option ((Int × Int) ⊕ (Int)) := match st with
 | (x1_4, x1_5) =>
  if x1_5 < (((x1_2).l.length : Nat) : Int) then
   if x1_5 ≤ x1_0 then
    if 0 ≤ x1_5 ∧ x1_5 < (((x1_2).l.length : Nat) : Int) then
     ((some (((x1_2).l).getD (x1_5).toNat (nl0)))).bind fun y1_4_ =>
     ((some (w64 (x1_4 + (((y1_4_).l.length : Nat) : Int))))).bind fun y1_5_ =>
     some (.inl (y1_5_, (w64 (x1_5 + (1 : Int)))))
    else none
   else
    some (.inr x1_4)
  else
   some (.inr x1_4)
def m_viewportkitLightNfaq1_1 (n : Nat) (x1_0 : Int) (x1_1 : WL rw_uuuu) (x1_2 : WL rw_L) (x1_3 : NL) (st : Int × Int) : Option (Int) := iterM (B_viewportkitLightNfaq1_1 n x1_0 x1_1 x1_2 x1_3) n st
theorem b_viewportkitLightNfaq1_1 (n : Nat) {rnd : Option Nat} (x1_0 : Int) (x1_1 : WL rw_uuuu) (x1_2 : WL rw_L) (x1_3 : NL) (st : Int × Int) (o : (Int × Int) ⊕ (Int)) (h : B_viewportkitLightNfaq1_1 n x1_0 x1_1 x1_2 x1_3 st = some o) : CG P rnd (fnN P 6) 0 (codeOf P 6 [false, false, true, false, true, true]) (S_viewportkitLightNfaq1_1 x1_0 x1_1 x1_2 x1_3 st) (Sum.elim (fun s => (.normal, S_viewportkitLightNfaq1_1 x1_0 x1_1 x1_2 x1_3 s)) (fun r => X_viewportkitLightNfaq1_1 x1_0 x1_1 x1_2 x1_3 r) o) := by
 obtain ⟨x1_4, x1_5⟩ := st
 unfold B_viewportkitLightNfaq1_1 at h
 dsimp only at h
 by_cases hy1_1 : x1_5 < (((x1_2).l.length : Nat) : Int)
 ·rw [if_pos hy1_1] at h
  have k0 := fun {A L l} (k : PL A L l) => zz 6 (xdT hy1_1) <|
   k
  by_cases hy1_2 : x1_5 ≤ x1_0
  ·rw [if_pos hy1_2] at h
   obtain ⟨hy1_3, h⟩ := gd h
   obtain ⟨y1_4_, hy1_4, h⟩ := oB h
   obtain ⟨y1_5_, hy1_5, h⟩ := oB h
   obtain rfl := oI h
   exact runC2 hm ⟨[1, 2, 5, 6], [(0, 0, false)], 1, 0, [], false, [], [], []⟩ (k0 <|
    zz 10 (xdT hy1_2) <|
    zz 19 (xk1 (x1_2).num (x1_2).off (x1_2).cap hy1_3) <|
    zz 20 (lk2 hy1_4 (toNatLt hy1_3)) <|
    zz 22 (xnm hy1_5) <|
    ee) (by kernel_rfl)
  ·rw [if_neg hy1_2] at h
   obtain rfl := oI h
   exact runC2 hm ⟨[1, 2, 5], [(0, 0, false)], 1, 0, [], false, [], [], []⟩ (k0 <|
    zz 10 (xdF hy1_2) <|
    ee) (by kernel_rfl)
 ·rw [if_neg hy1_1] at h
  obtain rfl := oI h
  exact runC2 hm ⟨[1, 2, 5], [(0, 0, false)], 1, 0, [], false, [], [], []⟩ (zz 6 (xdF hy1_1) <|
   ee) (by kernel_rfl)
theorem m_viewportkitLightNfaq1_1_ok (n : Nat) {rnd : Option Nat} (x1_0 : Int) (x1_1 : WL rw_uuuu) (x1_2 : WL rw_L) (x1_3 : NL) (st : Int × Int) (r : Int) (h : m_viewportkitLightNfaq1_1 n x1_0 x1_1 x1_2 x1_3 st = some r) : CG P rnd (fnN P 6) 0 (codeOf P 6 [false, true, false, true, true]) (S_viewportkitLightNfaq1_1 x1_0 x1_1 x1_2 x1_3 st) (X_viewportkitLightNfaq1_1 x1_0 x1_1 x1_2 x1_3 r) :=
 CG.iter (b := codeOf P 6 [false, false, true, false, true, true]) (by kernel_rfl) (body := B_viewportkitLightNfaq1_1 n x1_0 x1_1 x1_2 x1_3) (S := S_viewportkitLightNfaq1_1 x1_0 x1_1 x1_2 x1_3) (X := X_viewportkitLightNfaq1_1 x1_0 x1_1 x1_2 x1_3)
  (fun s s' h => b_viewportkitLightNfaq1_1 n x1_0 x1_1 x1_2 x1_3 s (.inl s') h)
  (fun s r h => b_viewportkitLightNfaq1_1 n x1_0 x1_1 x1_2 x1_3 s (.inr r) h)
  (fun r => by intro hx; cases hx) h
def m_viewportkitLightNfaq1 (n : Nat) (a0 : WL rw_uuuu) (a1 : WL rw_L) (a2 : NL) (a3 : Int) : Option (Bool) :=
 (m_viewportkitLightNfaq1_1 n a3 a0 a1 a2 (0, 0)).bind fun c1_ =>
 if (((a0).l.length : Nat) : Int) ≤ a3 then
  if (((a1).l.length : Nat) : Int) ≤ a3 then
   if (((a2).l.length : Nat) : Int) ≤ a3 then
    if c1_ ≤ (w64 (a3 * a3)) then
     some true
    else
     some false
   else
    some false
  else
   some false
 else
  some false
theorem m_viewportkitLightNfaq1_ok (n : Nat) (a0 : WL rw_uuuu) (a1 : WL rw_L) (a2 : NL) (a3 : Int) (r : Bool) (h : m_viewportkitLightNfaq1 n a0 a1 a2 a3 = some r) : Gv P (.func 6) (A_viewportkitLightNfaq1 a0 a1 a2 a3) (H_viewportkitLightNfaq1 a0 a1 a2 a3) (V_viewportkitLightNfaq1 a0 a1 a2 a3 r) (R_viewportkitLightNfaq1 a0 a1 a2 a3 r) := by
 unfold m_viewportkitLightNfaq1 at h
 obtain ⟨c1_, hc1, h⟩ := oB h
 have k0 := fun {A L l} (k : PL A L l) => ww (p := U_viewportkitLightNfaq1_1 none a3 a0 a1 a2 (0, 0) c1_) (m_viewportkitLightNfaq1_1_ok n a3 a0 a1 a2 (0, 0) c1_ hc1) <|
  ll 9 ⟨⟨[1, 2, 5, 6], [(0, 0, false)], 1, 0, [], false, [], [], []⟩, (X_viewportkitLightNfaq1_1 a3 a0 a1 a2 c1_).1, (X_viewportkitLightNfaq1_1 a3 a0 a1 a2 c1_).2⟩ <|
  k
 by_cases hc2 : (((a0).l.length : Nat) : Int) ≤ a3
 ·rw [if_pos hc2] at h
  have k2 := fun {A L l} (k : PL A L l) => zz 15 (xdT hc2) <|
   k
  by_cases hc3 : (((a1).l.length : Nat) : Int) ≤ a3
  ·rw [if_pos hc3] at h
   have k3 := fun {A L l} (k : PL A L l) => zz 21 (xdT hc3) <|
    k
   by_cases hc4 : (((a2).l.length : Nat) : Int) ≤ a3
   ·rw [if_pos hc4] at h
    have k4 := fun {A L l} (k : PL A L l) => zz 28 (xdT hc4) <|
     k
    by_cases hc5 : c1_ ≤ (w64 (a3 * a3))
    ·rw [if_pos hc5] at h
     obtain rfl := oI h
     exact runF2 hm ⟨[4], [], 0, 0, [], false, [], [], []⟩ (k0 <|
      k2 <|
      k3 <|
      k4 <|
      zz 35 (xdT hc5) <|
      ee) (by kernel_rfl)
    ·rw [if_neg hc5] at h
     obtain rfl := oI h
     exact runF2 hm ⟨[4], [], 0, 0, [], false, [], [], []⟩ (k0 <|
      k2 <|
      k3 <|
      k4 <|
      zz 35 (xdF hc5) <|
      ee) (by kernel_rfl)
   ·rw [if_neg hc4] at h
    obtain rfl := oI h
    exact runF2 hm ⟨[4], [], 0, 0, [], false, [], [], []⟩ (k0 <|
     k2 <|
     k3 <|
     zz 28 (xdF hc4) <|
     ee) (by kernel_rfl)
  ·rw [if_neg hc3] at h
   obtain rfl := oI h
   exact runF2 hm ⟨[4], [], 0, 0, [], false, [], [], []⟩ (k0 <|
    k2 <|
    zz 21 (xdF hc3) <|
    ee) (by kernel_rfl)
 ·rw [if_neg hc2] at h
  obtain rfl := oI h
  exact runF2 hm ⟨[4], [], 0, 0, [], false, [], [], []⟩ (k0 <|
   zz 15 (xdF hc2) <|
   ee) (by kernel_rfl)

def A_nfaCheckq1 (a0 : WL rw_uuuu) (a1 : WL rw_L) (a2 : NL) : List Value := [(Value.agg #[(wlV a0), (wlV a1), (nlV a2)])]
def H_nfaCheckq1 (a0 : WL rw_uuuu) (a1 : WL rw_L) (a2 : NL) : AH := ⟨sB [], 0, 0⟩
def V_nfaCheckq1 (a0 : WL rw_uuuu) (a1 : WL rw_L) (a2 : NL) (r : Int) : Value := match r with
 | o0 => (i6 o0)
def R_nfaCheckq1 (a0 : WL rw_uuuu) (a1 : WL rw_L) (a2 : NL) (r : Int) : AH := match r with
 | o0 => ⟨sB [], 0, 0⟩
abbrev G_nfaCheckq1 (a0 : WL rw_uuuu) (a1 : WL rw_L) (a2 : NL) (r : Int) : Prop := Gv P (.func 7) (A_nfaCheckq1 a0 a1 a2) (H_nfaCheckq1 a0 a1 a2) (V_nfaCheckq1 a0 a1 a2 r) (R_nfaCheckq1 a0 a1 a2 r)
abbrev C_nfaCheckq1 (a0 : WL rw_uuuu) (a1 : WL rw_L) (a2 : NL) (r : Int) (ins outs : BL) : CallA := ⟨0, ins, V_nfaCheckq1 a0 a1 a2 r, R_nfaCheckq1 a0 a1 a2 r, outs⟩
def S_nfaCheckq1_2 (x2_0 : WL rw_uuuu) (x2_1 : WL rw_L) (x2_2 : NL) (x2_3 : Int) (x2_5 : Int) (x2_6 : Int) (x2_7 : NL) (x2_8 : Int) (st : Int × Int) : XSt := match st with
 | (x2_4, x2_9) => (sT 80 [(1, (pN 0 0)), (3, (i6 x2_3)), (6, (i6 x2_4)), (41, (wlV x2_1)), (42, (i6 x2_5)), (43, (i6 x2_6)), (62, (nlV x2_7)), (63, (i6 x2_8)), (64, (i6 x2_9))], [], ⟨sB [(0, (some (.cells (layT [(wlV x2_0), (wlV x2_1), (nlV x2_2)]) 26)))], 1, 0⟩)
def X_nfaCheckq1_2 (x2_0 : WL rw_uuuu) (x2_1 : WL rw_L) (x2_2 : NL) (x2_3 : Int) (x2_5 : Int) (x2_6 : Int) (x2_7 : NL) (x2_8 : Int) (r : (Unit) ⊕ (Unit)) : Ex × XSt := match r with
 | .inl _ => (.ret, (sT 80 [(2, (i6 (2 : Int)))], [], ⟨sB [], 0, 0⟩))
 | .inr _ => (.exit 2, (sT 80 [(1, (pN 0 0)), (3, (i6 x2_3)), (41, (wlV x2_1)), (42, (i6 x2_5)), (43, (i6 x2_6))], [], ⟨sB [(0, (some (.cells (layT [(wlV x2_0), (wlV x2_1), (nlV x2_2)]) 26)))], 1, 0⟩))
abbrev Q_nfaCheckq1_2 (rnd : Option Nat) (x2_0 : WL rw_uuuu) (x2_1 : WL rw_L) (x2_2 : NL) (x2_3 : Int) (x2_5 : Int) (x2_6 : Int) (x2_7 : NL) (x2_8 : Int) (st : Int × Int) (c : Ex × XSt) : Prop := CG P rnd (fnN P 7) 0 (codeOf P 7 [false, false, true, true, true, true, false, false, true, true, false, false, true, false, true, true, true]) (S_nfaCheckq1_2 x2_0 x2_1 x2_2 x2_3 x2_5 x2_6 x2_7 x2_8 st) c
abbrev U_nfaCheckq1_2 (rd : Option Nat) (x2_0 : WL rw_uuuu) (x2_1 : WL rw_L) (x2_2 : NL) (x2_3 : Int) (x2_5 : Int) (x2_6 : Int) (x2_7 : NL) (x2_8 : Int) (st : Int × Int) (r : (Unit) ⊕ (Unit)) : Prop := CG P rd (fnN P 7) 0 (codeOf P 7 [false, true, true, true, true, false, false, true, true, false, false, true, false, true, true, true]) (S_nfaCheckq1_2 x2_0 x2_1 x2_2 x2_3 x2_5 x2_6 x2_7 x2_8 st) (X_nfaCheckq1_2 x2_0 x2_1 x2_2 x2_3 x2_5 x2_6 x2_7 x2_8 r)
def B_nfaCheckq1_2 (n : Nat) (x2_0 : WL rw_uuuu) (x2_1 : WL rw_L) (x2_2 : NL) (x2_3 : Int) (x2_5 : Int) (x2_6 : Int) (x2_7 : NL) (x2_8 : Int) (st : Int × Int) : Option ((Int × Int) ⊕ ((Unit) ⊕ (Unit))) := match st with
 | (x2_4, x2_9) =>
  if x2_9 < x2_8 then
   if 0 ≤ x2_9 ∧ x2_9 < (((x2_7).l.length : Nat) : Int) then
    if (x2_9).toNat < ((x2_7).l).length then
     ((some (((x2_7).l).getD (x2_9).toNat 0))).bind fun y2_4_ =>
     if y2_4_ < x2_4 then
      some (.inr (.inl ()))
     else
      if y2_4_ ≥ x2_3 then
       some (.inr (.inl ()))
      else
       some (.inl ((w64 (y2_4_ + (1 : Int))), (w64 (x2_9 + (1 : Int)))))
    else none
   else none
  else
   some (.inr (.inr ()))
def m_nfaCheckq1_2 (n : Nat) (x2_0 : WL rw_uuuu) (x2_1 : WL rw_L) (x2_2 : NL) (x2_3 : Int) (x2_5 : Int) (x2_6 : Int) (x2_7 : NL) (x2_8 : Int) (st : Int × Int) : Option ((Unit) ⊕ (Unit)) := iterM (B_nfaCheckq1_2 n x2_0 x2_1 x2_2 x2_3 x2_5 x2_6 x2_7 x2_8) n st
theorem b_nfaCheckq1_2 (n : Nat) {rnd : Option Nat} (x2_0 : WL rw_uuuu) (x2_1 : WL rw_L) (x2_2 : NL) (x2_3 : Int) (x2_5 : Int) (x2_6 : Int) (x2_7 : NL) (x2_8 : Int) (st : Int × Int) (o : (Int × Int) ⊕ ((Unit) ⊕ (Unit))) (h : B_nfaCheckq1_2 n x2_0 x2_1 x2_2 x2_3 x2_5 x2_6 x2_7 x2_8 st = some o) : CG P rnd (fnN P 7) 0 (codeOf P 7 [false, false, true, true, true, true, false, false, true, true, false, false, true, false, true, true, true]) (S_nfaCheckq1_2 x2_0 x2_1 x2_2 x2_3 x2_5 x2_6 x2_7 x2_8 st) (Sum.elim (fun s => (.normal, S_nfaCheckq1_2 x2_0 x2_1 x2_2 x2_3 x2_5 x2_6 x2_7 x2_8 s)) (fun r => X_nfaCheckq1_2 x2_0 x2_1 x2_2 x2_3 x2_5 x2_6 x2_7 x2_8 r) o) := by
 obtain ⟨x2_4, x2_9⟩ := st
 unfold B_nfaCheckq1_2 at h
 dsimp only at h
 by_cases hy2_1 : x2_9 < x2_8
 ·rw [if_pos hy2_1] at h
  obtain ⟨hy2_2, h⟩ := gd h
  obtain ⟨hy2_3, h⟩ := gd h
  obtain ⟨y2_4_, hy2_4, h⟩ := oB h
  have k0 := fun {A L l} (k : PL A L l) => zz 1 (xdT hy2_1) <|
   zz 7 (xk5 (Nat.add (x2_7).num 64) (x2_7).off (x2_7).cap hy2_2) <|
   zz 8 (nk6 hy2_4 hy2_3) <|
   k
  by_cases hy2_5 : y2_4_ < x2_4
  ·rw [if_pos hy2_5] at h
   obtain rfl := oI h
   exact runC2 hm ⟨[2], [], 0, 0, [], false, [], [], []⟩ (k0 <|
    zz 14 (xdT hy2_5) <|
    ee) (by kernel_rfl)
  ·rw [if_neg hy2_5] at h
   have k3 := fun {A L l} (k : PL A L l) => zz 14 (xdF hy2_5) <|
    k
   by_cases hy2_6 : y2_4_ ≥ x2_3
   ·rw [if_pos hy2_6] at h
    obtain rfl := oI h
    exact runC2 hm ⟨[2], [], 0, 0, [], false, [], [], []⟩ (k0 <|
     k3 <|
     zz 18 (xdT hy2_6) <|
     ee) (by kernel_rfl)
   ·rw [if_neg hy2_6] at h
    obtain rfl := oI h
    exact runC2 hm ⟨[1, 3, 6, 41, 42, 43, 62, 63, 64], [(0, 0, false)], 1, 0, [], false, [], [], []⟩ (k0 <|
     k3 <|
     zz 18 (xdF hy2_6) <|
     ee) (by kernel_rfl)
 ·rw [if_neg hy2_1] at h
  obtain rfl := oI h
  exact runC2 hm ⟨[1, 3, 41, 42, 43], [(0, 0, false)], 1, 0, [], false, [], [], []⟩ (zz 1 (xdF hy2_1) <|
   ee) (by kernel_rfl)
theorem m_nfaCheckq1_2_ok (n : Nat) {rnd : Option Nat} (x2_0 : WL rw_uuuu) (x2_1 : WL rw_L) (x2_2 : NL) (x2_3 : Int) (x2_5 : Int) (x2_6 : Int) (x2_7 : NL) (x2_8 : Int) (st : Int × Int) (r : (Unit) ⊕ (Unit)) (h : m_nfaCheckq1_2 n x2_0 x2_1 x2_2 x2_3 x2_5 x2_6 x2_7 x2_8 st = some r) : CG P rnd (fnN P 7) 0 (codeOf P 7 [false, true, true, true, true, false, false, true, true, false, false, true, false, true, true, true]) (S_nfaCheckq1_2 x2_0 x2_1 x2_2 x2_3 x2_5 x2_6 x2_7 x2_8 st) (X_nfaCheckq1_2 x2_0 x2_1 x2_2 x2_3 x2_5 x2_6 x2_7 x2_8 r) :=
 CG.iter (b := codeOf P 7 [false, false, true, true, true, true, false, false, true, true, false, false, true, false, true, true, true]) (by kernel_rfl) (body := B_nfaCheckq1_2 n x2_0 x2_1 x2_2 x2_3 x2_5 x2_6 x2_7 x2_8) (S := S_nfaCheckq1_2 x2_0 x2_1 x2_2 x2_3 x2_5 x2_6 x2_7 x2_8) (X := X_nfaCheckq1_2 x2_0 x2_1 x2_2 x2_3 x2_5 x2_6 x2_7 x2_8)
  (fun s s' h => b_nfaCheckq1_2 n x2_0 x2_1 x2_2 x2_3 x2_5 x2_6 x2_7 x2_8 s (.inl s') h)
  (fun s r h => b_nfaCheckq1_2 n x2_0 x2_1 x2_2 x2_3 x2_5 x2_6 x2_7 x2_8 s (.inr r) h)
  (fun r => by intro hx; rcases r with _ | _ <;> cases hx) h
def S_nfaCheckq1_1 (x1_0 : WL rw_uuuu) (x1_1 : WL rw_L) (x1_2 : NL) (x1_3 : Int) (x1_4 : Int) (st : Int) : XSt := match st with
 | x1_5 => (sT 80 [(1, (pN 0 0)), (3, (i6 x1_3)), (41, (wlV x1_1)), (42, (i6 x1_4)), (43, (i6 x1_5))], [], ⟨sB [(0, (some (.cells (layT [(wlV x1_0), (wlV x1_1), (nlV x1_2)]) 26)))], 1, 0⟩)
def X_nfaCheckq1_1 (x1_0 : WL rw_uuuu) (x1_1 : WL rw_L) (x1_2 : NL) (x1_3 : Int) (x1_4 : Int) (r : (Unit) ⊕ (Unit)) : Ex × XSt := match r with
 | .inl _ => (.ret, (sT 80 [(2, (i6 (2 : Int)))], [], ⟨sB [], 0, 0⟩))
 | .inr _ => (.exit 0, (sT 80 [], [], ⟨sB [], 0, 0⟩))
abbrev Q_nfaCheckq1_1 (rnd : Option Nat) (x1_0 : WL rw_uuuu) (x1_1 : WL rw_L) (x1_2 : NL) (x1_3 : Int) (x1_4 : Int) (st : Int) (c : Ex × XSt) : Prop := CG P rnd (fnN P 7) 0 (codeOf P 7 [false, false, true, false, true, true, true]) (S_nfaCheckq1_1 x1_0 x1_1 x1_2 x1_3 x1_4 st) c
abbrev U_nfaCheckq1_1 (rd : Option Nat) (x1_0 : WL rw_uuuu) (x1_1 : WL rw_L) (x1_2 : NL) (x1_3 : Int) (x1_4 : Int) (st : Int) (r : (Unit) ⊕ (Unit)) : Prop := CG P rd (fnN P 7) 0 (codeOf P 7 [false, true, false, true, true, true]) (S_nfaCheckq1_1 x1_0 x1_1 x1_2 x1_3 x1_4 st) (X_nfaCheckq1_1 x1_0 x1_1 x1_2 x1_3 x1_4 r)
def B_nfaCheckq1_1 (n : Nat) (x1_0 : WL rw_uuuu) (x1_1 : WL rw_L) (x1_2 : NL) (x1_3 : Int) (x1_4 : Int) (st : Int) : Option ((Int) ⊕ ((Unit) ⊕ (Unit))) := match st with
 | x1_5 =>
  if x1_5 < x1_4 then
   if 0 ≤ x1_5 ∧ x1_5 < (((x1_1).l.length : Nat) : Int) then
    ((some (((x1_1).l).getD (x1_5).toNat (nl0)))).bind fun y1_3_ =>
    if 0 ≤ x1_5 ∧ x1_5 < (((x1_2).l.length : Nat) : Int) then
     if (x1_5).toNat < ((x1_2).l).length then
      ((some (((x1_2).l).getD (x1_5).toNat 0))).bind fun y1_6_ =>
      if y1_6_ < (-1 : Int) then
       some (.inr (.inl ()))
      else
       if y1_6_ ≥ (16 : Int) then
        some (.inr (.inl ()))
       else
        match m_nfaCheckq1_2 n x1_0 x1_1 x1_2 x1_3 x1_4 x1_5 y1_3_ (((y1_3_).l.length : Nat) : Int) (1, 0) with
        | none => none
        | some (.inl _) =>
         some (.inr (.inl ()))
        | some (.inr _) =>
         some (.inl (w64 (x1_5 + (1 : Int))))
     else none
    else none
   else none
  else
   some (.inr (.inr ()))
def m_nfaCheckq1_1 (n : Nat) (x1_0 : WL rw_uuuu) (x1_1 : WL rw_L) (x1_2 : NL) (x1_3 : Int) (x1_4 : Int) (st : Int) : Option ((Unit) ⊕ (Unit)) := iterM (B_nfaCheckq1_1 n x1_0 x1_1 x1_2 x1_3 x1_4) n st
theorem b_nfaCheckq1_1 (n : Nat) {rnd : Option Nat} (x1_0 : WL rw_uuuu) (x1_1 : WL rw_L) (x1_2 : NL) (x1_3 : Int) (x1_4 : Int) (x1_5 : Int) (o : (Int) ⊕ ((Unit) ⊕ (Unit))) (h : B_nfaCheckq1_1 n x1_0 x1_1 x1_2 x1_3 x1_4 x1_5 = some o) : CG P rnd (fnN P 7) 0 (codeOf P 7 [false, false, true, false, true, true, true]) (S_nfaCheckq1_1 x1_0 x1_1 x1_2 x1_3 x1_4 x1_5) (Sum.elim (fun s => (.normal, S_nfaCheckq1_1 x1_0 x1_1 x1_2 x1_3 x1_4 s)) (fun r => X_nfaCheckq1_1 x1_0 x1_1 x1_2 x1_3 x1_4 r) o) := by
 unfold B_nfaCheckq1_1 at h
 dsimp only at h
 by_cases hy1_1 : x1_5 < x1_4
 ·rw [if_pos hy1_1] at h
  obtain ⟨hy1_2, h⟩ := gd h
  obtain ⟨y1_3_, hy1_3, h⟩ := oB h
  obtain ⟨hy1_4, h⟩ := gd h
  obtain ⟨hy1_5, h⟩ := gd h
  obtain ⟨y1_6_, hy1_6, h⟩ := oB h
  have k0 := fun {A L l} (k : PL A L l) => zz 1 (xdT hy1_1) <|
   zz 8 (xk1 (x1_1).num (x1_1).off (x1_1).cap hy1_2) <|
   zz 9 (lk2 hy1_3 (toNatLt hy1_2)) <|
   zz 17 (xk5 (Nat.add (x1_2).num 64) (x1_2).off (x1_2).cap hy1_4) <|
   zz 18 (nk6 hy1_6 hy1_5) <|
   k
  by_cases hy1_7 : y1_6_ < (-1 : Int)
  ·rw [if_pos hy1_7] at h
   obtain rfl := oI h
   exact runC2 hm ⟨[2], [], 0, 0, [], false, [], [], []⟩ (k0 <|
    zz 19 (xdT hy1_7) <|
    ee) (by kernel_rfl)
  ·rw [if_neg hy1_7] at h
   have k5 := fun {A L l} (k : PL A L l) => zz 19 (xdF hy1_7) <|
    zz 24 (xk5 (Nat.add (x1_2).num 64) (x1_2).off (x1_2).cap hy1_4) <|
    zz 25 (nk6 hy1_6 hy1_5) <|
    k
   by_cases hy1_8 : y1_6_ ≥ (16 : Int)
   ·rw [if_pos hy1_8] at h
    obtain rfl := oI h
    exact runC2 hm ⟨[2], [], 0, 0, [], false, [], [], []⟩ (k0 <|
     k5 <|
     zz 26 (xdT hy1_8) <|
     ee) (by kernel_rfl)
   ·rw [if_neg hy1_8] at h
    have k8 := fun {A L l} (k : PL A L l) => zz 26 (xdF hy1_8) <|
     k
    rcases hy1_9 : m_nfaCheckq1_2 n x1_0 x1_1 x1_2 x1_3 x1_4 x1_5 y1_3_ (((y1_3_).l.length : Nat) : Int) (1, 0) with _ | (⟨⟩ | ⟨⟩)
    ·rw [hy1_9] at h; cases h
    ·rw [hy1_9] at h
     dsimp only at h
     obtain rfl := oI h
     exact runC2 hm ⟨[2], [], 0, 0, [], false, [], [], []⟩ (k0 <|
      k5 <|
      k8 <|
      ww (p := U_nfaCheckq1_2 rnd x1_0 x1_1 x1_2 x1_3 x1_4 x1_5 y1_3_ (((y1_3_).l.length : Nat) : Int) (1, 0) (.inl ())) (m_nfaCheckq1_2_ok n x1_0 x1_1 x1_2 x1_3 x1_4 x1_5 y1_3_ (((y1_3_).l.length : Nat) : Int) (1, 0) (.inl ()) hy1_9) <|
      ll 36 ⟨⟨[1, 3, 6, 41, 42, 43, 62, 63, 64], [(0, 0, false)], 1, 0, [], false, [], [], []⟩, (X_nfaCheckq1_2 x1_0 x1_1 x1_2 x1_3 x1_4 x1_5 y1_3_ (((y1_3_).l.length : Nat) : Int) (.inl ())).1, (X_nfaCheckq1_2 x1_0 x1_1 x1_2 x1_3 x1_4 x1_5 y1_3_ (((y1_3_).l.length : Nat) : Int) (.inl ())).2⟩ <|
      ee) (by kernel_rfl)
    ·rw [hy1_9] at h
     dsimp only at h
     obtain rfl := oI h
     exact runC2 hm ⟨[1, 3, 41, 42, 43], [(0, 0, false)], 1, 0, [], false, [], [], []⟩ (k0 <|
      k5 <|
      k8 <|
      ww (p := U_nfaCheckq1_2 rnd x1_0 x1_1 x1_2 x1_3 x1_4 x1_5 y1_3_ (((y1_3_).l.length : Nat) : Int) (1, 0) (.inr ())) (m_nfaCheckq1_2_ok n x1_0 x1_1 x1_2 x1_3 x1_4 x1_5 y1_3_ (((y1_3_).l.length : Nat) : Int) (1, 0) (.inr ()) hy1_9) <|
      ll 36 ⟨⟨[1, 3, 6, 41, 42, 43, 62, 63, 64], [(0, 0, false)], 1, 0, [], false, [], [], []⟩, (X_nfaCheckq1_2 x1_0 x1_1 x1_2 x1_3 x1_4 x1_5 y1_3_ (((y1_3_).l.length : Nat) : Int) (.inr ())).1, (X_nfaCheckq1_2 x1_0 x1_1 x1_2 x1_3 x1_4 x1_5 y1_3_ (((y1_3_).l.length : Nat) : Int) (.inr ())).2⟩ <|
      ee) (by kernel_rfl)
 ·rw [if_neg hy1_1] at h
  obtain rfl := oI h
  exact runC2 hm ⟨[], [], 0, 0, [], false, [], [], []⟩ (zz 1 (xdF hy1_1) <|
   ee) (by kernel_rfl)
theorem m_nfaCheckq1_1_ok (n : Nat) {rnd : Option Nat} (x1_0 : WL rw_uuuu) (x1_1 : WL rw_L) (x1_2 : NL) (x1_3 : Int) (x1_4 : Int) (st : Int) (r : (Unit) ⊕ (Unit)) (h : m_nfaCheckq1_1 n x1_0 x1_1 x1_2 x1_3 x1_4 st = some r) : CG P rnd (fnN P 7) 0 (codeOf P 7 [false, true, false, true, true, true]) (S_nfaCheckq1_1 x1_0 x1_1 x1_2 x1_3 x1_4 st) (X_nfaCheckq1_1 x1_0 x1_1 x1_2 x1_3 x1_4 r) :=
 CG.iter (b := codeOf P 7 [false, false, true, false, true, true, true]) (by kernel_rfl) (body := B_nfaCheckq1_1 n x1_0 x1_1 x1_2 x1_3 x1_4) (S := S_nfaCheckq1_1 x1_0 x1_1 x1_2 x1_3 x1_4) (X := X_nfaCheckq1_1 x1_0 x1_1 x1_2 x1_3 x1_4)
  (fun s s' h => b_nfaCheckq1_1 n x1_0 x1_1 x1_2 x1_3 x1_4 s (.inl s') h)
  (fun s r h => b_nfaCheckq1_1 n x1_0 x1_1 x1_2 x1_3 x1_4 s (.inr r) h)
  (fun r => by intro hx; rcases r with _ | _ <;> cases hx) h
def m_nfaCheckq1 (n : Nat) (a0 : WL rw_uuuu) (a1 : WL rw_L) (a2 : NL) : Option (Int) :=
 if (((a0).l.length : Nat) : Int) < (1 : Int) then
  some 2
 else
  if (((a0).l.length : Nat) : Int) > (1024 : Int) then
   some 2
  else
   if (((a1).l.length : Nat) : Int) = (((a0).l.length : Nat) : Int) then
    if (((a2).l.length : Nat) : Int) = (((a0).l.length : Nat) : Int) then
     if 0 ≤ (0 : Int) ∧ (0 : Int) < (((a0).l.length : Nat) : Int) then
      ((some (((a0).l).getD ((0 : Int)).toNat (0, 0, 0, 0)))).bind fun c6_ =>
      if (!(((c6_.1) == (0 : Int)) && (((c6_.2.1) == (0 : Int)) && (((c6_.2.2.1) == (0 : Int)) && (((c6_.2.2.2) == (0 : Int)) && true))))) = true then
       some 2
      else
       match m_nfaCheckq1_1 n a0 a1 a2 (((a0).l.length : Nat) : Int) (((a1).l.length : Nat) : Int) 0 with
       | none => none
       | some (.inl _) =>
        some 2
       | some (.inr _) =>
        some 0
     else none
    else
     some 2
   else
    some 2
theorem m_nfaCheckq1_ok (n : Nat) (a0 : WL rw_uuuu) (a1 : WL rw_L) (a2 : NL) (r : Int) (h : m_nfaCheckq1 n a0 a1 a2 = some r) : Gv P (.func 7) (A_nfaCheckq1 a0 a1 a2) (H_nfaCheckq1 a0 a1 a2) (V_nfaCheckq1 a0 a1 a2 r) (R_nfaCheckq1 a0 a1 a2 r) := by
 unfold m_nfaCheckq1 at h
 by_cases hc1 : (((a0).l.length : Nat) : Int) < (1 : Int)
 ·rw [if_pos hc1] at h
  obtain rfl := oI h
  exact runF2 hm ⟨[2], [], 0, 0, [], false, [], [], []⟩ (zz 11 (xdT hc1) <|
   ee) (by kernel_rfl)
 ·rw [if_neg hc1] at h
  have k0 := fun {A L l} (k : PL A L l) => zz 11 (xdF hc1) <|
   k
  by_cases hc2 : (((a0).l.length : Nat) : Int) > (1024 : Int)
  ·rw [if_pos hc2] at h
   obtain rfl := oI h
   exact runF2 hm ⟨[2], [], 0, 0, [], false, [], [], []⟩ (k0 <|
    zz 14 (xdT hc2) <|
    ee) (by kernel_rfl)
  ·rw [if_neg hc2] at h
   have k1 := fun {A L l} (k : PL A L l) => zz 14 (xdF hc2) <|
    k
   by_cases hc3 : (((a1).l.length : Nat) : Int) = (((a0).l.length : Nat) : Int)
   ·rw [if_pos hc3] at h
    have k2 := fun {A L l} (k : PL A L l) => zz 21 (xnF hc3) <|
     k
    by_cases hc4 : (((a2).l.length : Nat) : Int) = (((a0).l.length : Nat) : Int)
    ·rw [if_pos hc4] at h
     obtain ⟨hc5, h⟩ := gd h
     obtain ⟨c6_, hc6, h⟩ := oB h
     have k3 := fun {A L l} (k : PL A L l) => zz 28 (xnF hc4) <|
      zz 33 (xk3 (a0).num (a0).off (a0).cap hc5) <|
      zz 34 (lk4 hc6 (toNatLt hc5)) <|
      k
     by_cases hc7 : (!(((c6_.1) == (0 : Int)) && (((c6_.2.1) == (0 : Int)) && (((c6_.2.2.1) == (0 : Int)) && (((c6_.2.2.2) == (0 : Int)) && true))))) = true
     ·rw [if_pos hc7] at h
      obtain rfl := oI h
      exact runF2 hm ⟨[2], [], 0, 0, [], false, [], [], []⟩ (k0 <|
       k1 <|
       k2 <|
       k3 <|
       zz 38 (xbT hc7) <|
       ee) (by kernel_rfl)
     ·rw [if_neg hc7] at h
      have k6 := fun {A L l} (k : PL A L l) => zz 38 (xbF hc7) <|
       k
      rcases hc8 : m_nfaCheckq1_1 n a0 a1 a2 (((a0).l.length : Nat) : Int) (((a1).l.length : Nat) : Int) 0 with _ | (⟨⟩ | ⟨⟩)
      ·rw [hc8] at h; cases h
      ·rw [hc8] at h
       dsimp only at h
       obtain rfl := oI h
       exact runF2 hm ⟨[2], [], 0, 0, [], false, [], [], []⟩ (k0 <|
        k1 <|
        k2 <|
        k3 <|
        k6 <|
        ww (p := U_nfaCheckq1_1 none a0 a1 a2 (((a0).l.length : Nat) : Int) (((a1).l.length : Nat) : Int) 0 (.inl ())) (m_nfaCheckq1_1_ok n a0 a1 a2 (((a0).l.length : Nat) : Int) (((a1).l.length : Nat) : Int) 0 (.inl ()) hc8) <|
        ll 46 ⟨⟨[1, 3, 41, 42, 43], [(0, 0, false)], 1, 0, [], false, [], [], []⟩, (X_nfaCheckq1_1 a0 a1 a2 (((a0).l.length : Nat) : Int) (((a1).l.length : Nat) : Int) (.inl ())).1, (X_nfaCheckq1_1 a0 a1 a2 (((a0).l.length : Nat) : Int) (((a1).l.length : Nat) : Int) (.inl ())).2⟩ <|
        ee) (by kernel_rfl)
      ·rw [hc8] at h
       dsimp only at h
       obtain rfl := oI h
       exact runF2 hm ⟨[2], [], 0, 0, [], false, [], [], []⟩ (k0 <|
        k1 <|
        k2 <|
        k3 <|
        k6 <|
        ww (p := U_nfaCheckq1_1 none a0 a1 a2 (((a0).l.length : Nat) : Int) (((a1).l.length : Nat) : Int) 0 (.inr ())) (m_nfaCheckq1_1_ok n a0 a1 a2 (((a0).l.length : Nat) : Int) (((a1).l.length : Nat) : Int) 0 (.inr ()) hc8) <|
        ll 46 ⟨⟨[1, 3, 41, 42, 43], [(0, 0, false)], 1, 0, [], false, [], [], []⟩, (X_nfaCheckq1_1 a0 a1 a2 (((a0).l.length : Nat) : Int) (((a1).l.length : Nat) : Int) (.inr ())).1, (X_nfaCheckq1_1 a0 a1 a2 (((a0).l.length : Nat) : Int) (((a1).l.length : Nat) : Int) (.inr ())).2⟩ <|
        ee) (by kernel_rfl)
    ·rw [if_neg hc4] at h
     obtain rfl := oI h
     exact runF2 hm ⟨[2], [], 0, 0, [], false, [], [], []⟩ (k0 <|
      k1 <|
      k2 <|
      zz 28 (xnT hc4) <|
      ee) (by kernel_rfl)
   ·rw [if_neg hc3] at h
    obtain rfl := oI h
    exact runF2 hm ⟨[2], [], 0, 0, [], false, [], [], []⟩ (k0 <|
     k1 <|
     zz 21 (xnT hc3) <|
     ee) (by kernel_rfl)

def A_classHasq1 (a0 : Int) (a1 : Int) (a2 : Int) (a3 : Int) (a4 : Int) : List Value := [(Value.agg #[(Value.int .u64 a0), (Value.int .u64 a1), (Value.int .u64 a2), (Value.int .u64 a3)]), (Value.int .u8 a4)]
def H_classHasq1 (a0 : Int) (a1 : Int) (a2 : Int) (a3 : Int) (a4 : Int) : AH := ⟨sB [], 0, 0⟩
def V_classHasq1 (a0 : Int) (a1 : Int) (a2 : Int) (a3 : Int) (a4 : Int) (r : Bool) : Value := match r with
 | o0 => (bO o0)
def R_classHasq1 (a0 : Int) (a1 : Int) (a2 : Int) (a3 : Int) (a4 : Int) (r : Bool) : AH := match r with
 | o0 => ⟨sB [], 0, 0⟩
abbrev G_classHasq1 (a0 : Int) (a1 : Int) (a2 : Int) (a3 : Int) (a4 : Int) (r : Bool) : Prop := Gv P (.func 25) (A_classHasq1 a0 a1 a2 a3 a4) (H_classHasq1 a0 a1 a2 a3 a4) (V_classHasq1 a0 a1 a2 a3 a4 r) (R_classHasq1 a0 a1 a2 a3 a4 r)
abbrev C_classHasq1 (a0 : Int) (a1 : Int) (a2 : Int) (a3 : Int) (a4 : Int) (r : Bool) (ins outs : BL) : CallA := ⟨0, ins, V_classHasq1 a0 a1 a2 a3 a4 r, R_classHasq1 a0 a1 a2 a3 a4 r, outs⟩
def m_classHasq1 (n : Nat) (a0 : Int) (a1 : Int) (a2 : Int) (a3 : Int) (a4 : Int) : Option (Bool) :=
 if ¬ ((64 : Int) = 0) then
  if 0 ≤ (IntKind.u8.wrap (Int.tdiv a4 (64 : Int))) ∧ (IntKind.u8.wrap (Int.tdiv a4 (64 : Int))) < ((4 : Nat) : Int) then
   if ((IntKind.u8.wrap (Int.tdiv a4 (64 : Int)))).toNat < ([a0, a1, a2, a3]).length then
    ((some (([a0, a1, a2, a3]).getD ((IntKind.u8.wrap (Int.tdiv a4 (64 : Int)))).toNat (0)))).bind fun c4_ =>
    if 0 ≤ (Int.tmod a4 (64 : Int)) then
     ((some (bAnd .u64 (shrV .u64 c4_ (Int.tmod a4 (64 : Int))) (1 : Int)))).bind fun c6_ =>
     if c6_ = (1 : Int) then
      some true
     else
      some false
    else none
   else none
  else none
 else none
theorem m_classHasq1_ok (n : Nat) (a0 : Int) (a1 : Int) (a2 : Int) (a3 : Int) (a4 : Int) (r : Bool) (h : m_classHasq1 n a0 a1 a2 a3 a4 = some r) : Gv P (.func 25) (A_classHasq1 a0 a1 a2 a3 a4) (H_classHasq1 a0 a1 a2 a3 a4) (V_classHasq1 a0 a1 a2 a3 a4 r) (R_classHasq1 a0 a1 a2 a3 a4 r) := by
 unfold m_classHasq1 at h
 obtain ⟨hc1, h⟩ := gd h
 obtain ⟨hc2, h⟩ := gd h
 obtain ⟨hc3, h⟩ := gd h
 obtain ⟨c4_, hc4, h⟩ := oB h
 obtain ⟨hc5, h⟩ := gd h
 obtain ⟨c6_, hc6, h⟩ := oB h
 have k0 := fun {A L l} (k : PL A L l) => yy 5 (.pur (Value.int .u8 (IntKind.u8.wrap (Int.tdiv a4 (64 : Int))))) <|
  ww (p := opBin P .quo 5 (.tmp 5) (.const (Value.int .u8 (64 : Int))) (Value.int .u8 a4) (Value.int .u8 (64 : Int)) Ax.h0 = some ((Value.int .u8 (IntKind.u8.wrap (Int.tdiv a4 (64 : Int)))), Ax.h0)) (quo_u8 hc1) <|
  yy 6 (.pur (pN 0 (((IntKind.u8.wrap (Int.tdiv a4 (64 : Int)))).toNat * 1))) <|
  ww (p := opIndexAddr P 36 (pN 0 0) (Value.int .u8 (IntKind.u8.wrap (Int.tdiv a4 (64 : Int)))) Ax.h0 = some ((pN 0 (((IntKind.u8.wrap (Int.tdiv a4 (64 : Int)))).toNat * 1)), Ax.h0)) (ixArr (es := 1) (e := 34) (m := 4) (by kernel_rfl) (by kernel_rfl) hc2) <|
  zz 7 (ok7 hc4 (hc3)) <|
  yy 9 (.pur (Value.int .u8 (Int.tmod a4 (64 : Int)))) <|
  ww (p := opBin P .rem 5 (.tmp 9) (.const (Value.int .u8 (64 : Int))) (Value.int .u8 a4) (Value.int .u8 (64 : Int)) Ax.h0 = some ((Value.int .u8 (Int.tmod a4 (64 : Int))), Ax.h0)) (rem_u8 (by decide)) <|
  yy 10 (.pur (Value.int .u64 (shrV .u64 c4_ (Int.tmod a4 (64 : Int))))) <|
  ww (p := opBin P .shr 34 (.tmp 8) (.tmp 10) (Value.int .u64 c4_) (Value.int .u8 (Int.tmod a4 (64 : Int))) Ax.h0 = some ((Value.int .u64 (shrV .u64 c4_ (Int.tmod a4 (64 : Int)))), Ax.h0)) (shr_u64_u8 hc5) <|
  zz 11 (xnmK (k := .u64) hc6) <|
  k
 by_cases hc7 : c6_ = (1 : Int)
 ·rw [if_pos hc7] at h
  obtain rfl := oI h
  exact runF2 hm ⟨[4], [], 0, 0, [], false, [], [], []⟩ (k0 <|
   zz 12 (xeT hc7) <|
   ee) (by kernel_rfl)
 ·rw [if_neg hc7] at h
  obtain rfl := oI h
  exact runF2 hm ⟨[4], [], 0, 0, [], false, [], [], []⟩ (k0 <|
   zz 12 (xeF hc7) <|
   ee) (by kernel_rfl)

def A_nfasetsortedq1 (a0 : MapI Unit) : List Value := [(Value.map (some 0))]
def H_nfasetsortedq1 (a0 : MapI Unit) : AH := ⟨sB [(0, (some (.map (mEs mvU a0) (mLen a0))))], 1, 1⟩
def V_nfasetsortedq1 (a0 : MapI Unit) (r : NL) : Value := match r with
 | o0 => (nlV o0)
def R_nfasetsortedq1 (a0 : MapI Unit) (r : NL) : AH := match r with
 | o0 => ⟨sB [], 1, 1⟩
abbrev G_nfasetsortedq1 (a0 : MapI Unit) (r : NL) : Prop := Gv P (.func 26) (A_nfasetsortedq1 a0) (H_nfasetsortedq1 a0) (V_nfasetsortedq1 a0 r) (R_nfasetsortedq1 a0 r)
abbrev C_nfasetsortedq1 (a0 : MapI Unit) (r : NL) (ins outs : BL) : CallA := ⟨1, ins, V_nfasetsortedq1 a0 r, R_nfasetsortedq1 a0 r, outs⟩
def m_nfasetsortedq1 (n : Nat) (a0 : MapI Unit) : Option (NL) :=
 (m_mapsKeysnfasetintstructu n a0).bind fun _ =>
 match m_slicesSortedintu n a0 with
 | none => none
 | some (.inl _) =>
  some nl0
 | some (.inr c2_) =>
  if hc3 : c2_.length ≤ 140737488355328 then
   some (frzL c2_ hc3)
  else none
theorem m_nfasetsortedq1_ok (n : Nat) (a0 : MapI Unit) (r : NL) (h : m_nfasetsortedq1 n a0 = some r) : Gv P (.func 26) (A_nfasetsortedq1 a0) (H_nfasetsortedq1 a0) (V_nfasetsortedq1 a0 r) (R_nfasetsortedq1 a0 r) := by
 unfold m_nfasetsortedq1 at h
 obtain ⟨_, hc1, h⟩ := oB h
 have k0 := fun {A L l} (k : PL A L l) => yy 4 (.call (C_mapsKeysnfasetintstructu a0 () [(0, 0, true)] [(1, 1, false)])) <|
  ww (m_mapsKeysnfasetintstructu_ok n a0 () hc1) <|
  ww (mflat mvU (fun _ => rfl) a0 (mLen a0)) <|
  k
 rcases hc2 : m_slicesSortedintu n a0 with _ | (⟨⟩ | c2_)
 ·rw [hc2] at h; cases h
 ·rw [hc2] at h
  dsimp only at h
  obtain rfl := oI h
  exact runF2 hm ⟨[2], [], 1, 1, [], true, [], [], [2]⟩ (k0 <|
   yy 5 (.call (C_slicesSortedintu a0 (.inl ()) [(0, 1, false), (1, 0, true)] [])) <|
   ww (m_slicesSortedintu_ok n a0 (.inl ()) hc2) <|
   ww (mflat mvU (fun _ => rfl) a0 (mLen a0)) <|
   ee) (by kernel_rfl)
 ·rw [hc2] at h
  dsimp only at h
  obtain ⟨hc3, h⟩ := gdD h
  obtain rfl := oI h
  exact runF2 hm ⟨[2], [], 1, 1, [(2, Nat.add (2 * cod c2_ + 1) 64)], true, [], [], []⟩ (k0 <|
   yy 5 (.call (C_slicesSortedintu a0 (.inr c2_) [(0, 1, false), (1, 0, true)] [(2, 2, true)])) <|
   ww (m_slicesSortedintu_ok n a0 (.inr c2_) hc2) <|
   ww (mflat mvU (fun _ => rfl) a0 (mLen a0)) <|
   ww (iv_flat c2_ 3) <|
   ww (frz_ok wins_nest wins_odd c2_) <|
   ee) (by kernel_rfl)

def A_nfastepq1 (a0 : WL rw_uuuu) (a1 : WL rw_L) (a2 : NL) (a3 : NL) (a4 : Int) : List Value := [(Value.agg #[(wlV a0), (wlV a1), (nlV a2)]), (nlV a3), (Value.int .u8 a4)]
def H_nfastepq1 (a0 : WL rw_uuuu) (a1 : WL rw_L) (a2 : NL) (a3 : NL) (a4 : Int) : AH := ⟨sB [], 0, 0⟩
def V_nfastepq1 (a0 : WL rw_uuuu) (a1 : WL rw_L) (a2 : NL) (a3 : NL) (a4 : Int) (r : NL) : Value := match r with
 | o0 => (nlV o0)
def R_nfastepq1 (a0 : WL rw_uuuu) (a1 : WL rw_L) (a2 : NL) (a3 : NL) (a4 : Int) (r : NL) : AH := match r with
 | o0 => ⟨sB [], 0, 0⟩
abbrev G_nfastepq1 (a0 : WL rw_uuuu) (a1 : WL rw_L) (a2 : NL) (a3 : NL) (a4 : Int) (r : NL) : Prop := Gv P (.func 18) (A_nfastepq1 a0 a1 a2 a3 a4) (H_nfastepq1 a0 a1 a2 a3 a4) (V_nfastepq1 a0 a1 a2 a3 a4 r) (R_nfastepq1 a0 a1 a2 a3 a4 r)
abbrev C_nfastepq1 (a0 : WL rw_uuuu) (a1 : WL rw_L) (a2 : NL) (a3 : NL) (a4 : Int) (r : NL) (ins outs : BL) : CallA := ⟨0, ins, V_nfastepq1 a0 a1 a2 a3 a4 r, R_nfastepq1 a0 a1 a2 a3 a4 r, outs⟩
def S_nfastepq1_2 (x2_0 : Int) (x2_1 : WL rw_uuuu) (x2_2 : WL rw_L) (x2_3 : NL) (x2_5 : NL) (x2_6 : Int) (x2_7 : Int) (x2_8 : NL) (x2_9 : Int) (st : MapI Unit × Int) : XSt := match st with
 | (x2_4, x2_10) => (sT 52 [(2, (Value.int .u8 x2_0)), (3, (pN 0 0)), (7, (Value.map (some 1))), (13, (nlV x2_5)), (14, (i6 x2_6)), (15, (i6 x2_7)), (32, (nlV x2_8)), (33, (i6 x2_9)), (34, (i6 x2_10))], [], ⟨sB [(0, (some (.cells (layT [(wlV x2_1), (wlV x2_2), (nlV x2_3)]) 26))), (1, (some (.map (mEs mvU x2_4) (mLen x2_4))))], 2, 0⟩)
def X_nfastepq1_2 (x2_0 : Int) (x2_1 : WL rw_uuuu) (x2_2 : WL rw_L) (x2_3 : NL) (x2_5 : NL) (x2_6 : Int) (x2_7 : Int) (x2_8 : NL) (x2_9 : Int) (r : MapI Unit) : Ex × XSt := match r with
 | z2_0 => (.exit 2, (sT 52 [(2, (Value.int .u8 x2_0)), (3, (pN 0 0)), (7, (Value.map (some 1))), (13, (nlV x2_5)), (14, (i6 x2_6)), (15, (i6 x2_7))], [], ⟨sB [(0, (some (.cells (layT [(wlV x2_1), (wlV x2_2), (nlV x2_3)]) 26))), (1, (some (.map (mEs mvU z2_0) (mLen z2_0))))], 2, 0⟩))
abbrev Q_nfastepq1_2 (rnd : Option Nat) (x2_0 : Int) (x2_1 : WL rw_uuuu) (x2_2 : WL rw_L) (x2_3 : NL) (x2_5 : NL) (x2_6 : Int) (x2_7 : Int) (x2_8 : NL) (x2_9 : Int) (st : MapI Unit × Int) (c : Ex × XSt) : Prop := CG P rnd (fnN P 18) 0 (codeOf P 18 [false, false, true, true, true, false, false, true, true, false, false, true, false, true, true]) (S_nfastepq1_2 x2_0 x2_1 x2_2 x2_3 x2_5 x2_6 x2_7 x2_8 x2_9 st) c
abbrev U_nfastepq1_2 (rd : Option Nat) (x2_0 : Int) (x2_1 : WL rw_uuuu) (x2_2 : WL rw_L) (x2_3 : NL) (x2_5 : NL) (x2_6 : Int) (x2_7 : Int) (x2_8 : NL) (x2_9 : Int) (st : MapI Unit × Int) (r : MapI Unit) : Prop := CG P rd (fnN P 18) 0 (codeOf P 18 [false, true, true, true, false, false, true, true, false, false, true, false, true, true]) (S_nfastepq1_2 x2_0 x2_1 x2_2 x2_3 x2_5 x2_6 x2_7 x2_8 x2_9 st) (X_nfastepq1_2 x2_0 x2_1 x2_2 x2_3 x2_5 x2_6 x2_7 x2_8 x2_9 r)
def B_nfastepq1_2 (n : Nat) (x2_0 : Int) (x2_1 : WL rw_uuuu) (x2_2 : WL rw_L) (x2_3 : NL) (x2_5 : NL) (x2_6 : Int) (x2_7 : Int) (x2_8 : NL) (x2_9 : Int) (st : MapI Unit × Int) : Option ((MapI Unit × Int) ⊕ (MapI Unit)) := match st with
 | (x2_4, x2_10) =>
  if x2_10 < x2_9 then
   if 0 ≤ x2_10 ∧ x2_10 < (((x2_8).l.length : Nat) : Int) then
    if (x2_10).toNat < ((x2_8).l).length then
     ((some (((x2_8).l).getD (x2_10).toNat 0))).bind fun y2_4_ =>
     if 0 ≤ y2_4_ ∧ y2_4_ < (((x2_1).l.length : Nat) : Int) then
      ((some (((x2_1).l).getD (y2_4_).toNat (0, 0, 0, 0)))).bind fun y2_6_ =>
      (m_classHasq1 n (y2_6_.1) (y2_6_.2.1) (y2_6_.2.2.1) (y2_6_.2.2.2) x2_0).bind fun y2_7_ =>
      if y2_7_ = true then
       some (.inl ((mPut x2_4 y2_4_ ()), (w64 (x2_10 + (1 : Int)))))
      else
       some (.inl (x2_4, (w64 (x2_10 + (1 : Int)))))
     else none
    else none
   else none
  else
   some (.inr x2_4)
def m_nfastepq1_2 (n : Nat) (x2_0 : Int) (x2_1 : WL rw_uuuu) (x2_2 : WL rw_L) (x2_3 : NL) (x2_5 : NL) (x2_6 : Int) (x2_7 : Int) (x2_8 : NL) (x2_9 : Int) (st : MapI Unit × Int) : Option (MapI Unit) := iterM (B_nfastepq1_2 n x2_0 x2_1 x2_2 x2_3 x2_5 x2_6 x2_7 x2_8 x2_9) n st
theorem b_nfastepq1_2 (n : Nat) {rnd : Option Nat} (x2_0 : Int) (x2_1 : WL rw_uuuu) (x2_2 : WL rw_L) (x2_3 : NL) (x2_5 : NL) (x2_6 : Int) (x2_7 : Int) (x2_8 : NL) (x2_9 : Int) (st : MapI Unit × Int) (o : (MapI Unit × Int) ⊕ (MapI Unit)) (h : B_nfastepq1_2 n x2_0 x2_1 x2_2 x2_3 x2_5 x2_6 x2_7 x2_8 x2_9 st = some o) : CG P rnd (fnN P 18) 0 (codeOf P 18 [false, false, true, true, true, false, false, true, true, false, false, true, false, true, true]) (S_nfastepq1_2 x2_0 x2_1 x2_2 x2_3 x2_5 x2_6 x2_7 x2_8 x2_9 st) (Sum.elim (fun s => (.normal, S_nfastepq1_2 x2_0 x2_1 x2_2 x2_3 x2_5 x2_6 x2_7 x2_8 x2_9 s)) (fun r => X_nfastepq1_2 x2_0 x2_1 x2_2 x2_3 x2_5 x2_6 x2_7 x2_8 x2_9 r) o) := by
 obtain ⟨x2_4, x2_10⟩ := st
 unfold B_nfastepq1_2 at h
 dsimp only at h
 by_cases hy2_1 : x2_10 < x2_9
 ·rw [if_pos hy2_1] at h
  obtain ⟨hy2_2, h⟩ := gd h
  obtain ⟨hy2_3, h⟩ := gd h
  obtain ⟨y2_4_, hy2_4, h⟩ := oB h
  obtain ⟨hy2_5, h⟩ := gd h
  obtain ⟨y2_6_, hy2_6, h⟩ := oB h
  obtain ⟨y2_7_, hy2_7, h⟩ := oB h
  have k0 := fun {A L l} (k : PL A L l) => zz 1 (xdT hy2_1) <|
   zz 7 (xk5 (Nat.add (x2_8).num 64) (x2_8).off (x2_8).cap hy2_2) <|
   zz 8 (nk6 hy2_4 hy2_3) <|
   zz 14 (xk3 (x2_1).num (x2_1).off (x2_1).cap hy2_5) <|
   zz 15 (lk4 hy2_6 (toNatLt hy2_5)) <|
   yy 17 (.call (C_classHasq1 (y2_6_.1) (y2_6_.2.1) (y2_6_.2.2.1) (y2_6_.2.2.2) x2_0 y2_7_ [] [])) <|
   ww (m_classHasq1_ok n (y2_6_.1) (y2_6_.2.1) (y2_6_.2.2.1) (y2_6_.2.2.2) x2_0 y2_7_ hy2_7) <|
   k
  by_cases hy2_8 : y2_7_ = true
  ·rw [if_pos hy2_8] at h
   obtain rfl := oI h
   exact runC2 hm ⟨[2, 3, 7, 13, 14, 15, 32, 33, 34], [(0, 0, false), (1, 1, true)], 2, 0, [], false, [], [], []⟩ (k0 <|
    zz 18 (xbT hy2_8) <|
    yy 22 (.mup (mEs mvU (mPut x2_4 y2_4_ ())) (mLen (mPut x2_4 y2_4_ ()))) <|
    ww (p := oc (findU (.int .i64) (i6 y2_4_) (mEs mvU x2_4) 0) none (fun r => some (updEs (mEs mvU x2_4, mLen x2_4) (i6 y2_4_) (Value.agg #[]) r)) = some (.map (mEs mvU (mPut x2_4 y2_4_ ())) (mLen (mPut x2_4 y2_4_ ())))) (mput_ok mvU _ _ _) <|
    ww (mflat mvU (fun _ => rfl) (mPut x2_4 y2_4_ ()) (mLen (mPut x2_4 y2_4_ ()))) <|
    ee) (by kernel_rfl)
  ·rw [if_neg hy2_8] at h
   obtain rfl := oI h
   exact runC2 hm ⟨[2, 3, 7, 13, 14, 15, 32, 33, 34], [(0, 0, false), (1, 1, true)], 2, 0, [], false, [], [], []⟩ (k0 <|
    zz 18 (xbF hy2_8) <|
    ww (mflat mvU (fun _ => rfl) x2_4 (mLen x2_4)) <|
    ee) (by kernel_rfl)
 ·rw [if_neg hy2_1] at h
  obtain rfl := oI h
  exact runC2 hm ⟨[2, 3, 7, 13, 14, 15], [(0, 0, false), (1, 1, true)], 2, 0, [], false, [], [], []⟩ (zz 1 (xdF hy2_1) <|
   ww (mflat mvU (fun _ => rfl) x2_4 (mLen x2_4)) <|
   ee) (by kernel_rfl)
theorem m_nfastepq1_2_ok (n : Nat) {rnd : Option Nat} (x2_0 : Int) (x2_1 : WL rw_uuuu) (x2_2 : WL rw_L) (x2_3 : NL) (x2_5 : NL) (x2_6 : Int) (x2_7 : Int) (x2_8 : NL) (x2_9 : Int) (st : MapI Unit × Int) (r : MapI Unit) (h : m_nfastepq1_2 n x2_0 x2_1 x2_2 x2_3 x2_5 x2_6 x2_7 x2_8 x2_9 st = some r) : CG P rnd (fnN P 18) 0 (codeOf P 18 [false, true, true, true, false, false, true, true, false, false, true, false, true, true]) (S_nfastepq1_2 x2_0 x2_1 x2_2 x2_3 x2_5 x2_6 x2_7 x2_8 x2_9 st) (X_nfastepq1_2 x2_0 x2_1 x2_2 x2_3 x2_5 x2_6 x2_7 x2_8 x2_9 r) :=
 CG.iter (b := codeOf P 18 [false, false, true, true, true, false, false, true, true, false, false, true, false, true, true]) (by kernel_rfl) (body := B_nfastepq1_2 n x2_0 x2_1 x2_2 x2_3 x2_5 x2_6 x2_7 x2_8 x2_9) (S := S_nfastepq1_2 x2_0 x2_1 x2_2 x2_3 x2_5 x2_6 x2_7 x2_8 x2_9) (X := X_nfastepq1_2 x2_0 x2_1 x2_2 x2_3 x2_5 x2_6 x2_7 x2_8 x2_9)
  (fun s s' h => b_nfastepq1_2 n x2_0 x2_1 x2_2 x2_3 x2_5 x2_6 x2_7 x2_8 x2_9 s (.inl s') h)
  (fun s r h => b_nfastepq1_2 n x2_0 x2_1 x2_2 x2_3 x2_5 x2_6 x2_7 x2_8 x2_9 s (.inr r) h)
  (fun r => by intro hx; cases hx) h
def S_nfastepq1_1 (x1_0 : Int) (x1_1 : WL rw_uuuu) (x1_2 : WL rw_L) (x1_3 : NL) (x1_5 : NL) (x1_6 : Int) (st : MapI Unit × Int) : XSt := match st with
 | (x1_4, x1_7) => (sT 52 [(2, (Value.int .u8 x1_0)), (3, (pN 0 0)), (7, (Value.map (some 1))), (13, (nlV x1_5)), (14, (i6 x1_6)), (15, (i6 x1_7))], [], ⟨sB [(0, (some (.cells (layT [(wlV x1_1), (wlV x1_2), (nlV x1_3)]) 26))), (1, (some (.map (mEs mvU x1_4) (mLen x1_4))))], 2, 0⟩)
def X_nfastepq1_1 (x1_0 : Int) (x1_1 : WL rw_uuuu) (x1_2 : WL rw_L) (x1_3 : NL) (x1_5 : NL) (x1_6 : Int) (r : MapI Unit) : Ex × XSt := match r with
 | z1_0 => (.exit 0, (sT 52 [(7, (Value.map (some 0)))], [], ⟨sB [(0, (some (.map (mEs mvU z1_0) (mLen z1_0))))], 1, 0⟩))
abbrev Q_nfastepq1_1 (rnd : Option Nat) (x1_0 : Int) (x1_1 : WL rw_uuuu) (x1_2 : WL rw_L) (x1_3 : NL) (x1_5 : NL) (x1_6 : Int) (st : MapI Unit × Int) (c : Ex × XSt) : Prop := CG P rnd (fnN P 18) 0 (codeOf P 18 [false, false, true, false, true, true]) (S_nfastepq1_1 x1_0 x1_1 x1_2 x1_3 x1_5 x1_6 st) c
abbrev U_nfastepq1_1 (rd : Option Nat) (x1_0 : Int) (x1_1 : WL rw_uuuu) (x1_2 : WL rw_L) (x1_3 : NL) (x1_5 : NL) (x1_6 : Int) (st : MapI Unit × Int) (r : MapI Unit) : Prop := CG P rd (fnN P 18) 0 (codeOf P 18 [false, true, false, true, true]) (S_nfastepq1_1 x1_0 x1_1 x1_2 x1_3 x1_5 x1_6 st) (X_nfastepq1_1 x1_0 x1_1 x1_2 x1_3 x1_5 x1_6 r)
def B_nfastepq1_1 (n : Nat) (x1_0 : Int) (x1_1 : WL rw_uuuu) (x1_2 : WL rw_L) (x1_3 : NL) (x1_5 : NL) (x1_6 : Int) (st : MapI Unit × Int) : Option ((MapI Unit × Int) ⊕ (MapI Unit)) := match st with
 | (x1_4, x1_7) =>
  if x1_7 < x1_6 then
   if 0 ≤ x1_7 ∧ x1_7 < (((x1_5).l.length : Nat) : Int) then
    if (x1_7).toNat < ((x1_5).l).length then
     ((some (((x1_5).l).getD (x1_7).toNat 0))).bind fun y1_4_ =>
     if y1_4_ < (0 : Int) then
      some (.inl (x1_4, (w64 (x1_7 + (1 : Int)))))
     else
      if y1_4_ ≥ (((x1_2).l.length : Nat) : Int) then
       some (.inl (x1_4, (w64 (x1_7 + (1 : Int)))))
      else
       if 0 ≤ y1_4_ ∧ y1_4_ < (((x1_2).l.length : Nat) : Int) then
        ((some (((x1_2).l).getD (y1_4_).toNat (nl0)))).bind fun y1_8_ =>
        (m_nfastepq1_2 n x1_0 x1_1 x1_2 x1_3 x1_5 x1_6 x1_7 y1_8_ (((y1_8_).l.length : Nat) : Int) (x1_4, 0)).bind fun y1_9_ =>
        some (.inl (y1_9_, (w64 (x1_7 + (1 : Int)))))
       else none
    else none
   else none
  else
   some (.inr x1_4)
def m_nfastepq1_1 (n : Nat) (x1_0 : Int) (x1_1 : WL rw_uuuu) (x1_2 : WL rw_L) (x1_3 : NL) (x1_5 : NL) (x1_6 : Int) (st : MapI Unit × Int) : Option (MapI Unit) := iterM (B_nfastepq1_1 n x1_0 x1_1 x1_2 x1_3 x1_5 x1_6) n st
theorem b_nfastepq1_1 (n : Nat) {rnd : Option Nat} (x1_0 : Int) (x1_1 : WL rw_uuuu) (x1_2 : WL rw_L) (x1_3 : NL) (x1_5 : NL) (x1_6 : Int) (st : MapI Unit × Int) (o : (MapI Unit × Int) ⊕ (MapI Unit)) (h : B_nfastepq1_1 n x1_0 x1_1 x1_2 x1_3 x1_5 x1_6 st = some o) : CG P rnd (fnN P 18) 0 (codeOf P 18 [false, false, true, false, true, true]) (S_nfastepq1_1 x1_0 x1_1 x1_2 x1_3 x1_5 x1_6 st) (Sum.elim (fun s => (.normal, S_nfastepq1_1 x1_0 x1_1 x1_2 x1_3 x1_5 x1_6 s)) (fun r => X_nfastepq1_1 x1_0 x1_1 x1_2 x1_3 x1_5 x1_6 r) o) := by
 obtain ⟨x1_4, x1_7⟩ := st
 unfold B_nfastepq1_1 at h
 dsimp only at h
 by_cases hy1_1 : x1_7 < x1_6
 ·rw [if_pos hy1_1] at h
  obtain ⟨hy1_2, h⟩ := gd h
  obtain ⟨hy1_3, h⟩ := gd h
  obtain ⟨y1_4_, hy1_4, h⟩ := oB h
  have k0 := fun {A L l} (k : PL A L l) => zz 1 (xdT hy1_1) <|
   zz 7 (xk5 (Nat.add (x1_5).num 64) (x1_5).off (x1_5).cap hy1_2) <|
   zz 8 (nk6 hy1_4 hy1_3) <|
   k
  by_cases hy1_5 : y1_4_ < (0 : Int)
  ·rw [if_pos hy1_5] at h
   obtain rfl := oI h
   exact runC2 hm ⟨[2, 3, 7, 13, 14, 15], [(0, 0, false), (1, 1, true)], 2, 0, [], false, [], [], []⟩ (k0 <|
    zz 13 (xdT hy1_5) <|
    ww (mflat mvU (fun _ => rfl) x1_4 (mLen x1_4)) <|
    ee) (by kernel_rfl)
  ·rw [if_neg hy1_5] at h
   have k3 := fun {A L l} (k : PL A L l) => zz 13 (xdF hy1_5) <|
    k
   by_cases hy1_6 : y1_4_ ≥ (((x1_2).l.length : Nat) : Int)
   ·rw [if_pos hy1_6] at h
    obtain rfl := oI h
    exact runC2 hm ⟨[2, 3, 7, 13, 14, 15], [(0, 0, false), (1, 1, true)], 2, 0, [], false, [], [], []⟩ (k0 <|
     k3 <|
     zz 19 (xdT hy1_6) <|
     ww (mflat mvU (fun _ => rfl) x1_4 (mLen x1_4)) <|
     ee) (by kernel_rfl)
   ·rw [if_neg hy1_6] at h
    obtain ⟨hy1_7, h⟩ := gd h
    obtain ⟨y1_8_, hy1_8, h⟩ := oB h
    obtain ⟨y1_9_, hy1_9, h⟩ := oB h
    obtain rfl := oI h
    exact runC2 hm ⟨[2, 3, 7, 13, 14, 15], [(0, 0, false), (1, 1, true)], 2, 0, [], false, [], [], []⟩ (k0 <|
     k3 <|
     zz 19 (xdF hy1_6) <|
     zz 26 (xk1 (x1_2).num (x1_2).off (x1_2).cap hy1_7) <|
     zz 27 (lk2 hy1_8 (toNatLt hy1_7)) <|
     ww (p := U_nfastepq1_2 rnd x1_0 x1_1 x1_2 x1_3 x1_5 x1_6 x1_7 y1_8_ (((y1_8_).l.length : Nat) : Int) (x1_4, 0) y1_9_) (m_nfastepq1_2_ok n x1_0 x1_1 x1_2 x1_3 x1_5 x1_6 x1_7 y1_8_ (((y1_8_).l.length : Nat) : Int) (x1_4, 0) y1_9_ hy1_9) <|
     ww (mflat mvU (fun _ => rfl) x1_4 (mLen x1_4)) <|
     ll 31 ⟨⟨[2, 3, 7, 13, 14, 15, 32, 33, 34], [(0, 0, false), (1, 1, true)], 2, 0, [], false, [], [], []⟩, (X_nfastepq1_2 x1_0 x1_1 x1_2 x1_3 x1_5 x1_6 x1_7 y1_8_ (((y1_8_).l.length : Nat) : Int) y1_9_).1, (X_nfastepq1_2 x1_0 x1_1 x1_2 x1_3 x1_5 x1_6 x1_7 y1_8_ (((y1_8_).l.length : Nat) : Int) y1_9_).2⟩ <|
     ww (mflat mvU (fun _ => rfl) y1_9_ (mLen y1_9_)) <|
     ee) (by kernel_rfl)
 ·rw [if_neg hy1_1] at h
  obtain rfl := oI h
  exact runC2 hm ⟨[7], [(0, 1, true)], 1, 0, [], false, [], [], []⟩ (zz 1 (xdF hy1_1) <|
   ww (mflat mvU (fun _ => rfl) x1_4 (mLen x1_4)) <|
   ee) (by kernel_rfl)
theorem m_nfastepq1_1_ok (n : Nat) {rnd : Option Nat} (x1_0 : Int) (x1_1 : WL rw_uuuu) (x1_2 : WL rw_L) (x1_3 : NL) (x1_5 : NL) (x1_6 : Int) (st : MapI Unit × Int) (r : MapI Unit) (h : m_nfastepq1_1 n x1_0 x1_1 x1_2 x1_3 x1_5 x1_6 st = some r) : CG P rnd (fnN P 18) 0 (codeOf P 18 [false, true, false, true, true]) (S_nfastepq1_1 x1_0 x1_1 x1_2 x1_3 x1_5 x1_6 st) (X_nfastepq1_1 x1_0 x1_1 x1_2 x1_3 x1_5 x1_6 r) :=
 CG.iter (b := codeOf P 18 [false, false, true, false, true, true]) (by kernel_rfl) (body := B_nfastepq1_1 n x1_0 x1_1 x1_2 x1_3 x1_5 x1_6) (S := S_nfastepq1_1 x1_0 x1_1 x1_2 x1_3 x1_5 x1_6) (X := X_nfastepq1_1 x1_0 x1_1 x1_2 x1_3 x1_5 x1_6)
  (fun s s' h => b_nfastepq1_1 n x1_0 x1_1 x1_2 x1_3 x1_5 x1_6 s (.inl s') h)
  (fun s r h => b_nfastepq1_1 n x1_0 x1_1 x1_2 x1_3 x1_5 x1_6 s (.inr r) h)
  (fun r => by intro hx; cases hx) h
def m_nfastepq1 (n : Nat) (a0 : WL rw_uuuu) (a1 : WL rw_L) (a2 : NL) (a3 : NL) (a4 : Int) : Option (NL) :=
 (m_nfastepq1_1 n a4 a0 a1 a2 a3 (((a3).l.length : Nat) : Int) (mNil, 0)).bind fun c1_ =>
 (m_nfasetsortedq1 n c1_).bind fun c2_ =>
 some c2_
theorem m_nfastepq1_ok (n : Nat) (a0 : WL rw_uuuu) (a1 : WL rw_L) (a2 : NL) (a3 : NL) (a4 : Int) (r : NL) (h : m_nfastepq1 n a0 a1 a2 a3 a4 = some r) : Gv P (.func 18) (A_nfastepq1 a0 a1 a2 a3 a4) (H_nfastepq1 a0 a1 a2 a3 a4) (V_nfastepq1 a0 a1 a2 a3 a4 r) (R_nfastepq1 a0 a1 a2 a3 a4 r) := by
 unfold m_nfastepq1 at h
 obtain ⟨c1_, hc1, h⟩ := oB h
 obtain ⟨c2_, hc2, h⟩ := oB h
 obtain rfl := oI h
 exact runF2 hm ⟨[6], [], 0, 0, [], false, [], [], []⟩ (ww (p := U_nfastepq1_1 none a4 a0 a1 a2 a3 (((a3).l.length : Nat) : Int) (mNil, 0) c1_) (m_nfastepq1_1_ok n a4 a0 a1 a2 a3 (((a3).l.length : Nat) : Int) (mNil, 0) c1_ hc1) <|
  ww (mflat mvU (fun _ => rfl) (mNil : MapI Unit) (mLen (mNil : MapI Unit))) <|
  ll 12 ⟨⟨[2, 3, 7, 13, 14, 15], [(0, 0, false), (1, 1, true)], 2, 0, [], false, [], [], []⟩, (X_nfastepq1_1 a4 a0 a1 a2 a3 (((a3).l.length : Nat) : Int) c1_).1, (X_nfastepq1_1 a4 a0 a1 a2 a3 (((a3).l.length : Nat) : Int) c1_).2⟩ <|
  yy 15 (.call (C_nfasetsortedq1 c1_ c2_ [(0, 0, true)] [])) <|
  ww (m_nfasetsortedq1_ok n c1_ c2_ hc2) <|
  ww (mflat mvU (fun _ => rfl) c1_ (mLen c1_)) <|
  ee) (by kernel_rfl)

def A_nfaStepq1 (a0 : WL rw_uuuu) (a1 : WL rw_L) (a2 : NL) (a3 : NL) (a4 : Int) : List Value := [(Value.agg #[(wlV a0), (wlV a1), (nlV a2)]), (nlV a3), (Value.int .u8 a4)]
def H_nfaStepq1 (a0 : WL rw_uuuu) (a1 : WL rw_L) (a2 : NL) (a3 : NL) (a4 : Int) : AH := ⟨sB [], 0, 0⟩
def V_nfaStepq1 (a0 : WL rw_uuuu) (a1 : WL rw_L) (a2 : NL) (a3 : NL) (a4 : Int) (r : NL) : Value := match r with
 | o0 => (nlV o0)
def R_nfaStepq1 (a0 : WL rw_uuuu) (a1 : WL rw_L) (a2 : NL) (a3 : NL) (a4 : Int) (r : NL) : AH := match r with
 | o0 => ⟨sB [], 0, 0⟩
abbrev G_nfaStepq1 (a0 : WL rw_uuuu) (a1 : WL rw_L) (a2 : NL) (a3 : NL) (a4 : Int) (r : NL) : Prop := Gv P (.func 8) (A_nfaStepq1 a0 a1 a2 a3 a4) (H_nfaStepq1 a0 a1 a2 a3 a4) (V_nfaStepq1 a0 a1 a2 a3 a4 r) (R_nfaStepq1 a0 a1 a2 a3 a4 r)
abbrev C_nfaStepq1 (a0 : WL rw_uuuu) (a1 : WL rw_L) (a2 : NL) (a3 : NL) (a4 : Int) (r : NL) (ins outs : BL) : CallA := ⟨0, ins, V_nfaStepq1 a0 a1 a2 a3 a4 r, R_nfaStepq1 a0 a1 a2 a3 a4 r, outs⟩
def m_nfaStepq1 (n : Nat) (a0 : WL rw_uuuu) (a1 : WL rw_L) (a2 : NL) (a3 : NL) (a4 : Int) : Option (NL) :=
 (m_nfaCheckq1 n a0 a1 a2).bind fun c1_ =>
 if c1_ = (0 : Int) then
  (m_nfastepq1 n a0 a1 a2 a3 a4).bind fun c3_ =>
  some c3_
 else
  some nl0
theorem m_nfaStepq1_ok (n : Nat) (a0 : WL rw_uuuu) (a1 : WL rw_L) (a2 : NL) (a3 : NL) (a4 : Int) (r : NL) (h : m_nfaStepq1 n a0 a1 a2 a3 a4 = some r) : Gv P (.func 8) (A_nfaStepq1 a0 a1 a2 a3 a4) (H_nfaStepq1 a0 a1 a2 a3 a4) (V_nfaStepq1 a0 a1 a2 a3 a4 r) (R_nfaStepq1 a0 a1 a2 a3 a4 r) := by
 unfold m_nfaStepq1 at h
 obtain ⟨c1_, hc1, h⟩ := oB h
 have k0 := fun {A L l} (k : PL A L l) => yy 6 (.call (C_nfaCheckq1 a0 a1 a2 c1_ [] [])) <|
  ww (m_nfaCheckq1_ok n a0 a1 a2 c1_ hc1) <|
  k
 by_cases hc2 : c1_ = (0 : Int)
 ·rw [if_pos hc2] at h
  obtain ⟨c3_, hc3, h⟩ := oB h
  obtain rfl := oI h
  exact runF2 hm ⟨[6], [], 0, 0, [], false, [], [], []⟩ (k0 <|
   zz 7 (xnF hc2) <|
   yy 13 (.call (C_nfastepq1 a0 a1 a2 a3 a4 c3_ [] [])) <|
   ww (m_nfastepq1_ok n a0 a1 a2 a3 a4 c3_ hc3) <|
   ee) (by kernel_rfl)
 ·rw [if_neg hc2] at h
  obtain rfl := oI h
  exact runF2 hm ⟨[6], [], 0, 0, [], true, [], [], [6]⟩ (k0 <|
   zz 7 (xnT hc2) <|
   ee) (by kernel_rfl)

def A_viewportkitOwnintq1 (a0 : NL) : List Value := [(nlV a0)]
def H_viewportkitOwnintq1 (a0 : NL) : AH := ⟨sB [], 0, 0⟩
def V_viewportkitOwnintq1 (a0 : NL) (r : (Unit) ⊕ (Unit)) : Value := match r with
 | .inl _ => (sN 0 0 ((([] : List Int) ++ (a0).l)).length (Nat.add big 1))
 | .inr _ => (sN 0 0 0 0)
def R_viewportkitOwnintq1 (a0 : NL) (r : (Unit) ⊕ (Unit)) : AH := match r with
 | .inl _ => ⟨sB [(0, (some (.cells (layT (iv (([] : List Int) ++ (a0).l))) 3)))], 1, 0⟩
 | .inr _ => ⟨sB [(0, (some (.cells (layT []) 3)))], 1, 0⟩
abbrev G_viewportkitOwnintq1 (a0 : NL) (r : (Unit) ⊕ (Unit)) : Prop := Gv P (.func 9) (A_viewportkitOwnintq1 a0) (H_viewportkitOwnintq1 a0) (V_viewportkitOwnintq1 a0 r) (R_viewportkitOwnintq1 a0 r)
abbrev C_viewportkitOwnintq1 (a0 : NL) (r : (Unit) ⊕ (Unit)) (ins outs : BL) : CallA := ⟨0, ins, V_viewportkitOwnintq1 a0 r, R_viewportkitOwnintq1 a0 r, outs⟩
def m_viewportkitOwnintq1 (n : Nat) (a0 : NL) : Option ((Unit) ⊕ (Unit)) :=
 if 0 < (a0).l.length then
  if (0 + (a0).l.length) * 8 ≤ 140737488355328 then
   if 0 < 0 + (a0).l.length then
    some (.inl ())
   else none
  else none
 else
  some (.inr ())
theorem m_viewportkitOwnintq1_ok (n : Nat) (a0 : NL) (r : (Unit) ⊕ (Unit)) (h : m_viewportkitOwnintq1 n a0 = some r) : Gv P (.func 9) (A_viewportkitOwnintq1 a0) (H_viewportkitOwnintq1 a0) (V_viewportkitOwnintq1 a0 r) (R_viewportkitOwnintq1 a0 r) := by
 unfold m_viewportkitOwnintq1 at h
 by_cases hc1 : 0 < (a0).l.length
 ·rw [if_pos hc1] at h
  obtain ⟨hc2, h⟩ := gd h
  obtain ⟨hc3, h⟩ := gd h
  obtain rfl := oI h
  exact runF2 hm ⟨[2], [(0, 1, true)], 1, 0, [], false, [], [], []⟩ (ww (p := (a0).l.length = (a0).l.length) (rfl) <|
   ww (p := ((a0).l.length = 0 ∧ (iv (a0).l) = []) ∨ ∃ y, Tabs.win (Nat.add (a0).num 64) = some y ∧ rdL y.2.2 (Nat.mul (a0).l.length 1) (a0).off = some (iv (a0).l)) (srcN a0) <|
   yy 5 (.app ⟨some ((a0).l.length, (iv (a0).l)), ([] : List Value), (iv (([] : List Int) ++ (a0).l)), ((([] : List Int) ++ (a0).l)).length, true⟩) <|
   ww (p := 0 < (a0).l.length) (hc1) <|
   ww (p := 0 < big) ((by decide)) <|
   ww (p := 0 < Nat.add 0 (a0).l.length) (hc3) <|
   ww (p := rdT (layT ([] : List Value)) (Nat.mul 0 1) 0 = some (([] : List Value))) (rfl) <|
   ww (p := fits (Nat.add 0 (a0).l.length) 8 = true) (fits_ok hc2 (by have := hc2; show (_ : Nat) + _ ≤ _; omega)) <|
   ww (p := ([] : List Value) ++ (iv (a0).l) = (iv (([] : List Int) ++ (a0).l))) (by simp [iv]) <|
   ww (p := Nat.add 0 (a0).l.length = ((([] : List Int) ++ (a0).l)).length) (by simp <;> (try simp only [List.length_cons] at *) <;> omega) <|
   ww (iv_flat (([] : List Int) ++ (a0).l) 3) <|
   ee) (by kernel_rfl)
 ·rw [if_neg hc1] at h
  obtain rfl := oI h
  exact runF2 hm ⟨[2], [(0, 0, false)], 1, 0, [], false, [], [], []⟩ (yy 5 (.app0) <|
   ww (p := 0 = (a0).l.length) ((by have := hc1; omega)) <|
   ww (p := ((a0).l.length = 0 ∧ ([] : List Value) = []) ∨ ∃ y, Tabs.win (Nat.add (a0).num 64) = some y ∧ rdL y.2.2 (Nat.mul (a0).l.length 1) (a0).off = some ([] : List Value)) (.inl ⟨(by have := hc1; omega), rfl⟩) <|
   ww (p := ∀ H : AH, appTop H 1 3 8 (0, []) (sN 0 0 0 0) = some ((sN 0 0 0 0), H)) (fun _ => rfl) <|
   ee) (by kernel_rfl)

def A_nfastepq2 (a0 : WL rw_uuuu) (a1 : WL rw_L) (a2 : NL) (a3 : List Int) (a4 : Int) : List Value := [(Value.agg #[(wlV a0), (wlV a1), (nlV a2)]), (sN 0 0 (a3).length (Nat.add big 1)), (Value.int .u8 a4)]
def H_nfastepq2 (a0 : WL rw_uuuu) (a1 : WL rw_L) (a2 : NL) (a3 : List Int) (a4 : Int) : AH := ⟨sB [(0, (some (.cells (layT (iv a3)) 3)))], 1, 1⟩
def V_nfastepq2 (a0 : WL rw_uuuu) (a1 : WL rw_L) (a2 : NL) (a3 : List Int) (a4 : Int) (r : NL) : Value := match r with
 | o0 => (nlV o0)
def R_nfastepq2 (a0 : WL rw_uuuu) (a1 : WL rw_L) (a2 : NL) (a3 : List Int) (a4 : Int) (r : NL) : AH := match r with
 | o0 => ⟨sB [], 1, 1⟩
abbrev G_nfastepq2 (a0 : WL rw_uuuu) (a1 : WL rw_L) (a2 : NL) (a3 : List Int) (a4 : Int) (r : NL) : Prop := Gv P (.func 18) (A_nfastepq2 a0 a1 a2 a3 a4) (H_nfastepq2 a0 a1 a2 a3 a4) (V_nfastepq2 a0 a1 a2 a3 a4 r) (R_nfastepq2 a0 a1 a2 a3 a4 r)
abbrev C_nfastepq2 (a0 : WL rw_uuuu) (a1 : WL rw_L) (a2 : NL) (a3 : List Int) (a4 : Int) (r : NL) (ins outs : BL) : CallA := ⟨1, ins, V_nfastepq2 a0 a1 a2 a3 a4 r, R_nfastepq2 a0 a1 a2 a3 a4 r, outs⟩
def S_nfastepq2_2 (x2_0 : List Int) (x2_1 : Int) (x2_2 : WL rw_uuuu) (x2_3 : WL rw_L) (x2_4 : NL) (x2_6 : Int) (x2_7 : Int) (x2_8 : NL) (x2_9 : Int) (st : MapI Unit × Int) : XSt := match st with
 | (x2_5, x2_10) => (sT 52 [(2, (Value.int .u8 x2_1)), (3, (pN 1 0)), (7, (Value.map (some 2))), (13, (sN 0 0 (x2_0).length (Nat.add big 1))), (14, (i6 x2_6)), (15, (i6 x2_7)), (32, (nlV x2_8)), (33, (i6 x2_9)), (34, (i6 x2_10))], [], ⟨sB [(0, (some (.cells (layT (iv x2_0)) 3))), (1, (some (.cells (layT [(wlV x2_2), (wlV x2_3), (nlV x2_4)]) 26))), (2, (some (.map (mEs mvU x2_5) (mLen x2_5))))], 3, 1⟩)
def X_nfastepq2_2 (x2_0 : List Int) (x2_1 : Int) (x2_2 : WL rw_uuuu) (x2_3 : WL rw_L) (x2_4 : NL) (x2_6 : Int) (x2_7 : Int) (x2_8 : NL) (x2_9 : Int) (r : MapI Unit) : Ex × XSt := match r with
 | z2_0 => (.exit 2, (sT 52 [(2, (Value.int .u8 x2_1)), (3, (pN 1 0)), (7, (Value.map (some 2))), (13, (sN 0 0 (x2_0).length (Nat.add big 1))), (14, (i6 x2_6)), (15, (i6 x2_7))], [], ⟨sB [(0, (some (.cells (layT (iv x2_0)) 3))), (1, (some (.cells (layT [(wlV x2_2), (wlV x2_3), (nlV x2_4)]) 26))), (2, (some (.map (mEs mvU z2_0) (mLen z2_0))))], 3, 1⟩))
abbrev Q_nfastepq2_2 (rnd : Option Nat) (x2_0 : List Int) (x2_1 : Int) (x2_2 : WL rw_uuuu) (x2_3 : WL rw_L) (x2_4 : NL) (x2_6 : Int) (x2_7 : Int) (x2_8 : NL) (x2_9 : Int) (st : MapI Unit × Int) (c : Ex × XSt) : Prop := CG P rnd (fnN P 18) 1 (codeOf P 18 [false, false, true, true, true, false, false, true, true, false, false, true, false, true, true]) (S_nfastepq2_2 x2_0 x2_1 x2_2 x2_3 x2_4 x2_6 x2_7 x2_8 x2_9 st) c
abbrev U_nfastepq2_2 (rd : Option Nat) (x2_0 : List Int) (x2_1 : Int) (x2_2 : WL rw_uuuu) (x2_3 : WL rw_L) (x2_4 : NL) (x2_6 : Int) (x2_7 : Int) (x2_8 : NL) (x2_9 : Int) (st : MapI Unit × Int) (r : MapI Unit) : Prop := CG P rd (fnN P 18) 1 (codeOf P 18 [false, true, true, true, false, false, true, true, false, false, true, false, true, true]) (S_nfastepq2_2 x2_0 x2_1 x2_2 x2_3 x2_4 x2_6 x2_7 x2_8 x2_9 st) (X_nfastepq2_2 x2_0 x2_1 x2_2 x2_3 x2_4 x2_6 x2_7 x2_8 x2_9 r)
def B_nfastepq2_2 (n : Nat) (x2_0 : List Int) (x2_1 : Int) (x2_2 : WL rw_uuuu) (x2_3 : WL rw_L) (x2_4 : NL) (x2_6 : Int) (x2_7 : Int) (x2_8 : NL) (x2_9 : Int) (st : MapI Unit × Int) : Option ((MapI Unit × Int) ⊕ (MapI Unit)) := match st with
 | (x2_5, x2_10) =>
  if x2_10 < x2_9 then
   if 0 ≤ x2_10 ∧ x2_10 < (((x2_8).l.length : Nat) : Int) then
    if (x2_10).toNat < ((x2_8).l).length then
     ((some (((x2_8).l).getD (x2_10).toNat 0))).bind fun y2_4_ =>
     if 0 ≤ y2_4_ ∧ y2_4_ < (((x2_2).l.length : Nat) : Int) then
      ((some (((x2_2).l).getD (y2_4_).toNat (0, 0, 0, 0)))).bind fun y2_6_ =>
      (m_classHasq1 n (y2_6_.1) (y2_6_.2.1) (y2_6_.2.2.1) (y2_6_.2.2.2) x2_1).bind fun y2_7_ =>
      if y2_7_ = true then
       some (.inl ((mPut x2_5 y2_4_ ()), (w64 (x2_10 + (1 : Int)))))
      else
       some (.inl (x2_5, (w64 (x2_10 + (1 : Int)))))
     else none
    else none
   else none
  else
   some (.inr x2_5)
def m_nfastepq2_2 (n : Nat) (x2_0 : List Int) (x2_1 : Int) (x2_2 : WL rw_uuuu) (x2_3 : WL rw_L) (x2_4 : NL) (x2_6 : Int) (x2_7 : Int) (x2_8 : NL) (x2_9 : Int) (st : MapI Unit × Int) : Option (MapI Unit) := iterM (B_nfastepq2_2 n x2_0 x2_1 x2_2 x2_3 x2_4 x2_6 x2_7 x2_8 x2_9) n st
theorem b_nfastepq2_2 (n : Nat) {rnd : Option Nat} (x2_0 : List Int) (x2_1 : Int) (x2_2 : WL rw_uuuu) (x2_3 : WL rw_L) (x2_4 : NL) (x2_6 : Int) (x2_7 : Int) (x2_8 : NL) (x2_9 : Int) (st : MapI Unit × Int) (o : (MapI Unit × Int) ⊕ (MapI Unit)) (h : B_nfastepq2_2 n x2_0 x2_1 x2_2 x2_3 x2_4 x2_6 x2_7 x2_8 x2_9 st = some o) : CG P rnd (fnN P 18) 1 (codeOf P 18 [false, false, true, true, true, false, false, true, true, false, false, true, false, true, true]) (S_nfastepq2_2 x2_0 x2_1 x2_2 x2_3 x2_4 x2_6 x2_7 x2_8 x2_9 st) (Sum.elim (fun s => (.normal, S_nfastepq2_2 x2_0 x2_1 x2_2 x2_3 x2_4 x2_6 x2_7 x2_8 x2_9 s)) (fun r => X_nfastepq2_2 x2_0 x2_1 x2_2 x2_3 x2_4 x2_6 x2_7 x2_8 x2_9 r) o) := by
 obtain ⟨x2_5, x2_10⟩ := st
 unfold B_nfastepq2_2 at h
 dsimp only at h
 by_cases hy2_1 : x2_10 < x2_9
 ·rw [if_pos hy2_1] at h
  obtain ⟨hy2_2, h⟩ := gd h
  obtain ⟨hy2_3, h⟩ := gd h
  obtain ⟨y2_4_, hy2_4, h⟩ := oB h
  obtain ⟨hy2_5, h⟩ := gd h
  obtain ⟨y2_6_, hy2_6, h⟩ := oB h
  obtain ⟨y2_7_, hy2_7, h⟩ := oB h
  have k0 := fun {A L l} (k : PL A L l) => zz 1 (xdT hy2_1) <|
   zz 7 (xk5 (Nat.add (x2_8).num 64) (x2_8).off (x2_8).cap hy2_2) <|
   zz 8 (nk6 hy2_4 hy2_3) <|
   zz 14 (xk3 (x2_2).num (x2_2).off (x2_2).cap hy2_5) <|
   zz 15 (lk4 hy2_6 (toNatLt hy2_5)) <|
   yy 17 (.call (C_classHasq1 (y2_6_.1) (y2_6_.2.1) (y2_6_.2.2.1) (y2_6_.2.2.2) x2_1 y2_7_ [] [])) <|
   ww (m_classHasq1_ok n (y2_6_.1) (y2_6_.2.1) (y2_6_.2.2.1) (y2_6_.2.2.2) x2_1 y2_7_ hy2_7) <|
   k
  by_cases hy2_8 : y2_7_ = true
  ·rw [if_pos hy2_8] at h
   obtain rfl := oI h
   exact runC2 hm ⟨[2, 3, 7, 13, 14, 15, 32, 33, 34], [(0, 0, true), (1, 1, false), (2, 2, true)], 3, 1, [], false, [], [], []⟩ (k0 <|
    zz 18 (xbT hy2_8) <|
    yy 22 (.mup (mEs mvU (mPut x2_5 y2_4_ ())) (mLen (mPut x2_5 y2_4_ ()))) <|
    ww (p := oc (findU (.int .i64) (i6 y2_4_) (mEs mvU x2_5) 0) none (fun r => some (updEs (mEs mvU x2_5, mLen x2_5) (i6 y2_4_) (Value.agg #[]) r)) = some (.map (mEs mvU (mPut x2_5 y2_4_ ())) (mLen (mPut x2_5 y2_4_ ())))) (mput_ok mvU _ _ _) <|
    ww (iv_flat x2_0 3) <|
    ww (mflat mvU (fun _ => rfl) (mPut x2_5 y2_4_ ()) (mLen (mPut x2_5 y2_4_ ()))) <|
    ee) (by kernel_rfl)
  ·rw [if_neg hy2_8] at h
   obtain rfl := oI h
   exact runC2 hm ⟨[2, 3, 7, 13, 14, 15, 32, 33, 34], [(0, 0, true), (1, 1, false), (2, 2, true)], 3, 1, [], false, [], [], []⟩ (k0 <|
    zz 18 (xbF hy2_8) <|
    ww (iv_flat x2_0 3) <|
    ww (mflat mvU (fun _ => rfl) x2_5 (mLen x2_5)) <|
    ee) (by kernel_rfl)
 ·rw [if_neg hy2_1] at h
  obtain rfl := oI h
  exact runC2 hm ⟨[2, 3, 7, 13, 14, 15], [(0, 0, true), (1, 1, false), (2, 2, true)], 3, 1, [], false, [], [], []⟩ (zz 1 (xdF hy2_1) <|
   ww (iv_flat x2_0 3) <|
   ww (mflat mvU (fun _ => rfl) x2_5 (mLen x2_5)) <|
   ee) (by kernel_rfl)
theorem m_nfastepq2_2_ok (n : Nat) {rnd : Option Nat} (x2_0 : List Int) (x2_1 : Int) (x2_2 : WL rw_uuuu) (x2_3 : WL rw_L) (x2_4 : NL) (x2_6 : Int) (x2_7 : Int) (x2_8 : NL) (x2_9 : Int) (st : MapI Unit × Int) (r : MapI Unit) (h : m_nfastepq2_2 n x2_0 x2_1 x2_2 x2_3 x2_4 x2_6 x2_7 x2_8 x2_9 st = some r) : CG P rnd (fnN P 18) 1 (codeOf P 18 [false, true, true, true, false, false, true, true, false, false, true, false, true, true]) (S_nfastepq2_2 x2_0 x2_1 x2_2 x2_3 x2_4 x2_6 x2_7 x2_8 x2_9 st) (X_nfastepq2_2 x2_0 x2_1 x2_2 x2_3 x2_4 x2_6 x2_7 x2_8 x2_9 r) :=
 CG.iter (b := codeOf P 18 [false, false, true, true, true, false, false, true, true, false, false, true, false, true, true]) (by kernel_rfl) (body := B_nfastepq2_2 n x2_0 x2_1 x2_2 x2_3 x2_4 x2_6 x2_7 x2_8 x2_9) (S := S_nfastepq2_2 x2_0 x2_1 x2_2 x2_3 x2_4 x2_6 x2_7 x2_8 x2_9) (X := X_nfastepq2_2 x2_0 x2_1 x2_2 x2_3 x2_4 x2_6 x2_7 x2_8 x2_9)
  (fun s s' h => b_nfastepq2_2 n x2_0 x2_1 x2_2 x2_3 x2_4 x2_6 x2_7 x2_8 x2_9 s (.inl s') h)
  (fun s r h => b_nfastepq2_2 n x2_0 x2_1 x2_2 x2_3 x2_4 x2_6 x2_7 x2_8 x2_9 s (.inr r) h)
  (fun r => by intro hx; cases hx) h
def S_nfastepq2_1 (x1_0 : List Int) (x1_1 : Int) (x1_2 : WL rw_uuuu) (x1_3 : WL rw_L) (x1_4 : NL) (x1_6 : Int) (st : MapI Unit × Int) : XSt := match st with
 | (x1_5, x1_7) => (sT 52 [(2, (Value.int .u8 x1_1)), (3, (pN 1 0)), (7, (Value.map (some 2))), (13, (sN 0 0 (x1_0).length (Nat.add big 1))), (14, (i6 x1_6)), (15, (i6 x1_7))], [], ⟨sB [(0, (some (.cells (layT (iv x1_0)) 3))), (1, (some (.cells (layT [(wlV x1_2), (wlV x1_3), (nlV x1_4)]) 26))), (2, (some (.map (mEs mvU x1_5) (mLen x1_5))))], 3, 1⟩)
def X_nfastepq2_1 (x1_0 : List Int) (x1_1 : Int) (x1_2 : WL rw_uuuu) (x1_3 : WL rw_L) (x1_4 : NL) (x1_6 : Int) (r : MapI Unit) : Ex × XSt := match r with
 | z1_0 => (.exit 0, (sT 52 [(7, (Value.map (some 1)))], [], ⟨sB [(0, (some (.cells (layT (iv x1_0)) 3))), (1, (some (.map (mEs mvU z1_0) (mLen z1_0))))], 2, 1⟩))
abbrev Q_nfastepq2_1 (rnd : Option Nat) (x1_0 : List Int) (x1_1 : Int) (x1_2 : WL rw_uuuu) (x1_3 : WL rw_L) (x1_4 : NL) (x1_6 : Int) (st : MapI Unit × Int) (c : Ex × XSt) : Prop := CG P rnd (fnN P 18) 1 (codeOf P 18 [false, false, true, false, true, true]) (S_nfastepq2_1 x1_0 x1_1 x1_2 x1_3 x1_4 x1_6 st) c
abbrev U_nfastepq2_1 (rd : Option Nat) (x1_0 : List Int) (x1_1 : Int) (x1_2 : WL rw_uuuu) (x1_3 : WL rw_L) (x1_4 : NL) (x1_6 : Int) (st : MapI Unit × Int) (r : MapI Unit) : Prop := CG P rd (fnN P 18) 1 (codeOf P 18 [false, true, false, true, true]) (S_nfastepq2_1 x1_0 x1_1 x1_2 x1_3 x1_4 x1_6 st) (X_nfastepq2_1 x1_0 x1_1 x1_2 x1_3 x1_4 x1_6 r)
def B_nfastepq2_1 (n : Nat) (x1_0 : List Int) (x1_1 : Int) (x1_2 : WL rw_uuuu) (x1_3 : WL rw_L) (x1_4 : NL) (x1_6 : Int) (st : MapI Unit × Int) : Option ((MapI Unit × Int) ⊕ (MapI Unit)) := match st with
 | (x1_5, x1_7) =>
  if x1_7 < x1_6 then
   if 0 ≤ x1_7 ∧ x1_7 < (((x1_0).length : Nat) : Int) then
    ((some ((x1_0).getD (x1_7).toNat 0))).bind fun y1_3_ =>
    if y1_3_ < (0 : Int) then
     some (.inl (x1_5, (w64 (x1_7 + (1 : Int)))))
    else
     if y1_3_ ≥ (((x1_3).l.length : Nat) : Int) then
      some (.inl (x1_5, (w64 (x1_7 + (1 : Int)))))
     else
      if 0 ≤ y1_3_ ∧ y1_3_ < (((x1_3).l.length : Nat) : Int) then
       ((some (((x1_3).l).getD (y1_3_).toNat (nl0)))).bind fun y1_7_ =>
       (m_nfastepq2_2 n x1_0 x1_1 x1_2 x1_3 x1_4 x1_6 x1_7 y1_7_ (((y1_7_).l.length : Nat) : Int) (x1_5, 0)).bind fun y1_8_ =>
       some (.inl (y1_8_, (w64 (x1_7 + (1 : Int)))))
      else none
   else none
  else
   some (.inr x1_5)
def m_nfastepq2_1 (n : Nat) (x1_0 : List Int) (x1_1 : Int) (x1_2 : WL rw_uuuu) (x1_3 : WL rw_L) (x1_4 : NL) (x1_6 : Int) (st : MapI Unit × Int) : Option (MapI Unit) := iterM (B_nfastepq2_1 n x1_0 x1_1 x1_2 x1_3 x1_4 x1_6) n st
theorem b_nfastepq2_1 (n : Nat) {rnd : Option Nat} (x1_0 : List Int) (x1_1 : Int) (x1_2 : WL rw_uuuu) (x1_3 : WL rw_L) (x1_4 : NL) (x1_6 : Int) (st : MapI Unit × Int) (o : (MapI Unit × Int) ⊕ (MapI Unit)) (h : B_nfastepq2_1 n x1_0 x1_1 x1_2 x1_3 x1_4 x1_6 st = some o) : CG P rnd (fnN P 18) 1 (codeOf P 18 [false, false, true, false, true, true]) (S_nfastepq2_1 x1_0 x1_1 x1_2 x1_3 x1_4 x1_6 st) (Sum.elim (fun s => (.normal, S_nfastepq2_1 x1_0 x1_1 x1_2 x1_3 x1_4 x1_6 s)) (fun r => X_nfastepq2_1 x1_0 x1_1 x1_2 x1_3 x1_4 x1_6 r) o) := by
 obtain ⟨x1_5, x1_7⟩ := st
 unfold B_nfastepq2_1 at h
 dsimp only at h
 by_cases hy1_1 : x1_7 < x1_6
 ·rw [if_pos hy1_1] at h
  obtain ⟨hy1_2, h⟩ := gd h
  obtain ⟨y1_3_, hy1_3, h⟩ := oB h
  have k0 := fun {A L l} (k : PL A L l) => zz 1 (xdT hy1_1) <|
   zz 7 (xk8 0 U1 hy1_2) <|
   zz 8 (xivN hy1_3 (toNatLt hy1_2)) <|
   k
  by_cases hy1_4 : y1_3_ < (0 : Int)
  ·rw [if_pos hy1_4] at h
   obtain rfl := oI h
   exact runC2 hm ⟨[2, 3, 7, 13, 14, 15], [(0, 0, true), (1, 1, false), (2, 2, true)], 3, 1, [], false, [], [], []⟩ (k0 <|
    zz 13 (xdT hy1_4) <|
    ww (iv_flat x1_0 3) <|
    ww (mflat mvU (fun _ => rfl) x1_5 (mLen x1_5)) <|
    ee) (by kernel_rfl)
  ·rw [if_neg hy1_4] at h
   have k3 := fun {A L l} (k : PL A L l) => zz 13 (xdF hy1_4) <|
    k
   by_cases hy1_5 : y1_3_ ≥ (((x1_3).l.length : Nat) : Int)
   ·rw [if_pos hy1_5] at h
    obtain rfl := oI h
    exact runC2 hm ⟨[2, 3, 7, 13, 14, 15], [(0, 0, true), (1, 1, false), (2, 2, true)], 3, 1, [], false, [], [], []⟩ (k0 <|
     k3 <|
     zz 19 (xdT hy1_5) <|
     ww (iv_flat x1_0 3) <|
     ww (mflat mvU (fun _ => rfl) x1_5 (mLen x1_5)) <|
     ee) (by kernel_rfl)
   ·rw [if_neg hy1_5] at h
    obtain ⟨hy1_6, h⟩ := gd h
    obtain ⟨y1_7_, hy1_7, h⟩ := oB h
    obtain ⟨y1_8_, hy1_8, h⟩ := oB h
    obtain rfl := oI h
    exact runC2 hm ⟨[2, 3, 7, 13, 14, 15], [(0, 0, true), (1, 1, false), (2, 2, true)], 3, 1, [], false, [], [], []⟩ (k0 <|
     k3 <|
     zz 19 (xdF hy1_5) <|
     zz 26 (xk1 (x1_3).num (x1_3).off (x1_3).cap hy1_6) <|
     zz 27 (lk2 hy1_7 (toNatLt hy1_6)) <|
     ww (p := U_nfastepq2_2 rnd x1_0 x1_1 x1_2 x1_3 x1_4 x1_6 x1_7 y1_7_ (((y1_7_).l.length : Nat) : Int) (x1_5, 0) y1_8_) (m_nfastepq2_2_ok n x1_0 x1_1 x1_2 x1_3 x1_4 x1_6 x1_7 y1_7_ (((y1_7_).l.length : Nat) : Int) (x1_5, 0) y1_8_ hy1_8) <|
     ww (iv_flat x1_0 3) <|
     ww (mflat mvU (fun _ => rfl) x1_5 (mLen x1_5)) <|
     ll 31 ⟨⟨[2, 3, 7, 13, 14, 15, 32, 33, 34], [(0, 0, true), (1, 1, false), (2, 2, true)], 3, 1, [], false, [], [], []⟩, (X_nfastepq2_2 x1_0 x1_1 x1_2 x1_3 x1_4 x1_6 x1_7 y1_7_ (((y1_7_).l.length : Nat) : Int) y1_8_).1, (X_nfastepq2_2 x1_0 x1_1 x1_2 x1_3 x1_4 x1_6 x1_7 y1_7_ (((y1_7_).l.length : Nat) : Int) y1_8_).2⟩ <|
     ww (iv_flat x1_0 3) <|
     ww (mflat mvU (fun _ => rfl) y1_8_ (mLen y1_8_)) <|
     ee) (by kernel_rfl)
 ·rw [if_neg hy1_1] at h
  obtain rfl := oI h
  exact runC2 hm ⟨[7], [(0, 0, true), (1, 2, true)], 2, 1, [], false, [], [], []⟩ (zz 1 (xdF hy1_1) <|
   ww (iv_flat x1_0 3) <|
   ww (mflat mvU (fun _ => rfl) x1_5 (mLen x1_5)) <|
   ee) (by kernel_rfl)
theorem m_nfastepq2_1_ok (n : Nat) {rnd : Option Nat} (x1_0 : List Int) (x1_1 : Int) (x1_2 : WL rw_uuuu) (x1_3 : WL rw_L) (x1_4 : NL) (x1_6 : Int) (st : MapI Unit × Int) (r : MapI Unit) (h : m_nfastepq2_1 n x1_0 x1_1 x1_2 x1_3 x1_4 x1_6 st = some r) : CG P rnd (fnN P 18) 1 (codeOf P 18 [false, true, false, true, true]) (S_nfastepq2_1 x1_0 x1_1 x1_2 x1_3 x1_4 x1_6 st) (X_nfastepq2_1 x1_0 x1_1 x1_2 x1_3 x1_4 x1_6 r) :=
 CG.iter (b := codeOf P 18 [false, false, true, false, true, true]) (by kernel_rfl) (body := B_nfastepq2_1 n x1_0 x1_1 x1_2 x1_3 x1_4 x1_6) (S := S_nfastepq2_1 x1_0 x1_1 x1_2 x1_3 x1_4 x1_6) (X := X_nfastepq2_1 x1_0 x1_1 x1_2 x1_3 x1_4 x1_6)
  (fun s s' h => b_nfastepq2_1 n x1_0 x1_1 x1_2 x1_3 x1_4 x1_6 s (.inl s') h)
  (fun s r h => b_nfastepq2_1 n x1_0 x1_1 x1_2 x1_3 x1_4 x1_6 s (.inr r) h)
  (fun r => by intro hx; cases hx) h
def m_nfastepq2 (n : Nat) (a0 : WL rw_uuuu) (a1 : WL rw_L) (a2 : NL) (a3 : List Int) (a4 : Int) : Option (NL) :=
 (m_nfastepq2_1 n a3 a4 a0 a1 a2 (((a3).length : Nat) : Int) (mNil, 0)).bind fun c1_ =>
 (m_nfasetsortedq1 n c1_).bind fun c2_ =>
 some c2_
theorem m_nfastepq2_ok (n : Nat) (a0 : WL rw_uuuu) (a1 : WL rw_L) (a2 : NL) (a3 : List Int) (a4 : Int) (r : NL) (h : m_nfastepq2 n a0 a1 a2 a3 a4 = some r) : Gv P (.func 18) (A_nfastepq2 a0 a1 a2 a3 a4) (H_nfastepq2 a0 a1 a2 a3 a4) (V_nfastepq2 a0 a1 a2 a3 a4 r) (R_nfastepq2 a0 a1 a2 a3 a4 r) := by
 unfold m_nfastepq2 at h
 obtain ⟨c1_, hc1, h⟩ := oB h
 obtain ⟨c2_, hc2, h⟩ := oB h
 obtain rfl := oI h
 exact runF2 hm ⟨[6], [], 1, 1, [], false, [], [], []⟩ (ww (p := U_nfastepq2_1 none a3 a4 a0 a1 a2 (((a3).length : Nat) : Int) (mNil, 0) c1_) (m_nfastepq2_1_ok n a3 a4 a0 a1 a2 (((a3).length : Nat) : Int) (mNil, 0) c1_ hc1) <|
  ww (iv_flat a3 3) <|
  ww (mflat mvU (fun _ => rfl) (mNil : MapI Unit) (mLen (mNil : MapI Unit))) <|
  ll 12 ⟨⟨[2, 3, 7, 13, 14, 15], [(0, 0, true), (1, 1, false), (2, 2, true)], 3, 1, [], false, [], [], []⟩, (X_nfastepq2_1 a3 a4 a0 a1 a2 (((a3).length : Nat) : Int) c1_).1, (X_nfastepq2_1 a3 a4 a0 a1 a2 (((a3).length : Nat) : Int) c1_).2⟩ <|
  yy 15 (.call (C_nfasetsortedq1 c1_ c2_ [(0, 1, true)] [])) <|
  ww (m_nfasetsortedq1_ok n c1_ c2_ hc2) <|
  ww (mflat mvU (fun _ => rfl) c1_ (mLen c1_)) <|
  ee) (by kernel_rfl)

def A_nfaStepq2 (a0 : WL rw_uuuu) (a1 : WL rw_L) (a2 : NL) (a3 : List Int) (a4 : Int) : List Value := [(Value.agg #[(wlV a0), (wlV a1), (nlV a2)]), (sN 0 0 (a3).length (Nat.add big 1)), (Value.int .u8 a4)]
def H_nfaStepq2 (a0 : WL rw_uuuu) (a1 : WL rw_L) (a2 : NL) (a3 : List Int) (a4 : Int) : AH := ⟨sB [(0, (some (.cells (layT (iv a3)) 3)))], 1, 1⟩
def V_nfaStepq2 (a0 : WL rw_uuuu) (a1 : WL rw_L) (a2 : NL) (a3 : List Int) (a4 : Int) (r : NL) : Value := match r with
 | o0 => (nlV o0)
def R_nfaStepq2 (a0 : WL rw_uuuu) (a1 : WL rw_L) (a2 : NL) (a3 : List Int) (a4 : Int) (r : NL) : AH := match r with
 | o0 => ⟨sB [], 1, 1⟩
abbrev G_nfaStepq2 (a0 : WL rw_uuuu) (a1 : WL rw_L) (a2 : NL) (a3 : List Int) (a4 : Int) (r : NL) : Prop := Gv P (.func 8) (A_nfaStepq2 a0 a1 a2 a3 a4) (H_nfaStepq2 a0 a1 a2 a3 a4) (V_nfaStepq2 a0 a1 a2 a3 a4 r) (R_nfaStepq2 a0 a1 a2 a3 a4 r)
abbrev C_nfaStepq2 (a0 : WL rw_uuuu) (a1 : WL rw_L) (a2 : NL) (a3 : List Int) (a4 : Int) (r : NL) (ins outs : BL) : CallA := ⟨1, ins, V_nfaStepq2 a0 a1 a2 a3 a4 r, R_nfaStepq2 a0 a1 a2 a3 a4 r, outs⟩
def m_nfaStepq2 (n : Nat) (a0 : WL rw_uuuu) (a1 : WL rw_L) (a2 : NL) (a3 : List Int) (a4 : Int) : Option (NL) :=
 (m_nfaCheckq1 n a0 a1 a2).bind fun c1_ =>
 if c1_ = (0 : Int) then
  (m_nfastepq2 n a0 a1 a2 a3 a4).bind fun c3_ =>
  some c3_
 else
  some nl0
theorem m_nfaStepq2_ok (n : Nat) (a0 : WL rw_uuuu) (a1 : WL rw_L) (a2 : NL) (a3 : List Int) (a4 : Int) (r : NL) (h : m_nfaStepq2 n a0 a1 a2 a3 a4 = some r) : Gv P (.func 8) (A_nfaStepq2 a0 a1 a2 a3 a4) (H_nfaStepq2 a0 a1 a2 a3 a4) (V_nfaStepq2 a0 a1 a2 a3 a4 r) (R_nfaStepq2 a0 a1 a2 a3 a4 r) := by
 unfold m_nfaStepq2 at h
 obtain ⟨c1_, hc1, h⟩ := oB h
 have k0 := fun {A L l} (k : PL A L l) => yy 6 (.call (C_nfaCheckq1 a0 a1 a2 c1_ [] [])) <|
  ww (m_nfaCheckq1_ok n a0 a1 a2 c1_ hc1) <|
  k
 by_cases hc2 : c1_ = (0 : Int)
 ·rw [if_pos hc2] at h
  obtain ⟨c3_, hc3, h⟩ := oB h
  obtain rfl := oI h
  exact runF2 hm ⟨[6], [], 1, 1, [], false, [], [], []⟩ (k0 <|
   zz 7 (xnF hc2) <|
   yy 13 (.call (C_nfastepq2 a0 a1 a2 a3 a4 c3_ [(0, 0, true)] [])) <|
   ww (m_nfastepq2_ok n a0 a1 a2 a3 a4 c3_ hc3) <|
   ww (iv_flat a3 3) <|
   ee) (by kernel_rfl)
 ·rw [if_neg hc2] at h
  obtain rfl := oI h
  exact runF2 hm ⟨[6], [], 1, 1, [], true, [], [], [6]⟩ (k0 <|
   zz 7 (xnT hc2) <|
   ee) (by kernel_rfl)

def A_viewportref01Hasq1 (a0 : Int) (a1 : Int) (a2 : Int) (a3 : Int) (a4 : Int) : List Value := [(Value.agg #[(Value.int .u64 a0), (Value.int .u64 a1), (Value.int .u64 a2), (Value.int .u64 a3)]), (Value.int .u8 a4)]
def H_viewportref01Hasq1 (a0 : Int) (a1 : Int) (a2 : Int) (a3 : Int) (a4 : Int) : AH := ⟨sB [], 0, 0⟩
def V_viewportref01Hasq1 (a0 : Int) (a1 : Int) (a2 : Int) (a3 : Int) (a4 : Int) (r : Bool) : Value := match r with
 | o0 => (bO o0)
def R_viewportref01Hasq1 (a0 : Int) (a1 : Int) (a2 : Int) (a3 : Int) (a4 : Int) (r : Bool) : AH := match r with
 | o0 => ⟨sB [], 0, 0⟩
abbrev G_viewportref01Hasq1 (a0 : Int) (a1 : Int) (a2 : Int) (a3 : Int) (a4 : Int) (r : Bool) : Prop := Gv P (.func 10) (A_viewportref01Hasq1 a0 a1 a2 a3 a4) (H_viewportref01Hasq1 a0 a1 a2 a3 a4) (V_viewportref01Hasq1 a0 a1 a2 a3 a4 r) (R_viewportref01Hasq1 a0 a1 a2 a3 a4 r)
abbrev C_viewportref01Hasq1 (a0 : Int) (a1 : Int) (a2 : Int) (a3 : Int) (a4 : Int) (r : Bool) (ins outs : BL) : CallA := ⟨0, ins, V_viewportref01Hasq1 a0 a1 a2 a3 a4 r, R_viewportref01Hasq1 a0 a1 a2 a3 a4 r, outs⟩
def m_viewportref01Hasq1 (n : Nat) (a0 : Int) (a1 : Int) (a2 : Int) (a3 : Int) (a4 : Int) : Option (Bool) :=
 if ¬ ((64 : Int) = 0) then
  if 0 ≤ (IntKind.u8.wrap (Int.tdiv a4 (64 : Int))) ∧ (IntKind.u8.wrap (Int.tdiv a4 (64 : Int))) < ((4 : Nat) : Int) then
   if ((IntKind.u8.wrap (Int.tdiv a4 (64 : Int)))).toNat < ([a0, a1, a2, a3]).length then
    ((some (([a0, a1, a2, a3]).getD ((IntKind.u8.wrap (Int.tdiv a4 (64 : Int)))).toNat (0)))).bind fun c4_ =>
    if 0 ≤ (IntKind.u64.wrap (Int.tmod a4 (64 : Int))) then
     ((some (bAnd .u64 (shrV .u64 c4_ (IntKind.u64.wrap (Int.tmod a4 (64 : Int)))) (1 : Int)))).bind fun c6_ =>
     if c6_ = (1 : Int) then
      some true
     else
      some false
    else none
   else none
  else none
 else none
theorem m_viewportref01Hasq1_ok (n : Nat) (a0 : Int) (a1 : Int) (a2 : Int) (a3 : Int) (a4 : Int) (r : Bool) (h : m_viewportref01Hasq1 n a0 a1 a2 a3 a4 = some r) : Gv P (.func 10) (A_viewportref01Hasq1 a0 a1 a2 a3 a4) (H_viewportref01Hasq1 a0 a1 a2 a3 a4) (V_viewportref01Hasq1 a0 a1 a2 a3 a4 r) (R_viewportref01Hasq1 a0 a1 a2 a3 a4 r) := by
 unfold m_viewportref01Hasq1 at h
 obtain ⟨hc1, h⟩ := gd h
 obtain ⟨hc2, h⟩ := gd h
 obtain ⟨hc3, h⟩ := gd h
 obtain ⟨c4_, hc4, h⟩ := oB h
 obtain ⟨hc5, h⟩ := gd h
 obtain ⟨c6_, hc6, h⟩ := oB h
 have k0 := fun {A L l} (k : PL A L l) => yy 5 (.pur (Value.int .u8 (IntKind.u8.wrap (Int.tdiv a4 (64 : Int))))) <|
  ww (p := opBin P .quo 5 (.tmp 5) (.const (Value.int .u8 (64 : Int))) (Value.int .u8 a4) (Value.int .u8 (64 : Int)) Ax.h0 = some ((Value.int .u8 (IntKind.u8.wrap (Int.tdiv a4 (64 : Int)))), Ax.h0)) (quo_u8 hc1) <|
  yy 6 (.pur (pN 0 (((IntKind.u8.wrap (Int.tdiv a4 (64 : Int)))).toNat * 1))) <|
  ww (p := opIndexAddr P 36 (pN 0 0) (Value.int .u8 (IntKind.u8.wrap (Int.tdiv a4 (64 : Int)))) Ax.h0 = some ((pN 0 (((IntKind.u8.wrap (Int.tdiv a4 (64 : Int)))).toNat * 1)), Ax.h0)) (ixArr (es := 1) (e := 34) (m := 4) (by kernel_rfl) (by kernel_rfl) hc2) <|
  zz 7 (ok7 hc4 (hc3)) <|
  yy 9 (.pur (Value.int .u8 (Int.tmod a4 (64 : Int)))) <|
  ww (p := opBin P .rem 5 (.tmp 9) (.const (Value.int .u8 (64 : Int))) (Value.int .u8 a4) (Value.int .u8 (64 : Int)) Ax.h0 = some ((Value.int .u8 (Int.tmod a4 (64 : Int))), Ax.h0)) (rem_u8 (by decide)) <|
  yy 11 (.pur (Value.int .u64 (shrV .u64 c4_ (IntKind.u64.wrap (Int.tmod a4 (64 : Int)))))) <|
  ww (p := opBin P .shr 34 (.tmp 8) (.tmp 11) (Value.int .u64 c4_) (Value.int .u64 (IntKind.u64.wrap (Int.tmod a4 (64 : Int)))) Ax.h0 = some ((Value.int .u64 (shrV .u64 c4_ (IntKind.u64.wrap (Int.tmod a4 (64 : Int))))), Ax.h0)) (shr_u64_u64 hc5) <|
  zz 12 (xnmK (k := .u64) hc6) <|
  k
 by_cases hc7 : c6_ = (1 : Int)
 ·rw [if_pos hc7] at h
  obtain rfl := oI h
  exact runF2 hm ⟨[4], [], 0, 0, [], false, [], [], []⟩ (k0 <|
   zz 13 (xeT hc7) <|
   ee) (by kernel_rfl)
 ·rw [if_neg hc7] at h
  obtain rfl := oI h
  exact runF2 hm ⟨[4], [], 0, 0, [], false, [], [], []⟩ (k0 <|
   zz 13 (xeF hc7) <|
   ee) (by kernel_rfl)

def A_nfaruleq1 (a0 : WL rw_uuuu) (a1 : WL rw_L) (a2 : NL) (a3 : NL) : List Value := [(Value.agg #[(wlV a0), (wlV a1), (nlV a2)]), (nlV a3)]
def H_nfaruleq1 (a0 : WL rw_uuuu) (a1 : WL rw_L) (a2 : NL) (a3 : NL) : AH := ⟨sB [], 0, 0⟩
def V_nfaruleq1 (a0 : WL rw_uuuu) (a1 : WL rw_L) (a2 : NL) (a3 : NL) (r : Int) : Value := match r with
 | o0 => (i6 o0)
def R_nfaruleq1 (a0 : WL rw_uuuu) (a1 : WL rw_L) (a2 : NL) (a3 : NL) (r : Int) : AH := match r with
 | o0 => ⟨sB [], 0, 0⟩
abbrev G_nfaruleq1 (a0 : WL rw_uuuu) (a1 : WL rw_L) (a2 : NL) (a3 : NL) (r : Int) : Prop := Gv P (.func 19) (A_nfaruleq1 a0 a1 a2 a3) (H_nfaruleq1 a0 a1 a2 a3) (V_nfaruleq1 a0 a1 a2 a3 r) (R_nfaruleq1 a0 a1 a2 a3 r)
abbrev C_nfaruleq1 (a0 : WL rw_uuuu) (a1 : WL rw_L) (a2 : NL) (a3 : NL) (r : Int) (ins outs : BL) : CallA := ⟨0, ins, V_nfaruleq1 a0 a1 a2 a3 r, R_nfaruleq1 a0 a1 a2 a3 r, outs⟩
def S_nfaruleq1_1 (x1_0 : WL rw_uuuu) (x1_1 : WL rw_L) (x1_2 : NL) (x1_4 : NL) (x1_5 : Int) (st : Int × Int) : XSt := match st with
 | (x1_3, x1_6) => (sT 49 [(2, (pN 0 0)), (5, (i6 x1_3)), (8, (nlV x1_4)), (9, (i6 x1_5)), (10, (i6 x1_6))], [], ⟨sB [(0, (some (.cells (layT [(wlV x1_0), (wlV x1_1), (nlV x1_2)]) 26)))], 1, 0⟩)
def X_nfaruleq1_1 (x1_0 : WL rw_uuuu) (x1_1 : WL rw_L) (x1_2 : NL) (x1_4 : NL) (x1_5 : Int) (r : Int) : Ex × XSt := match r with
 | z1_0 => (.exit 0, (sT 49 [(5, (i6 z1_0))], [], ⟨sB [], 0, 0⟩))
abbrev Q_nfaruleq1_1 (rnd : Option Nat) (x1_0 : WL rw_uuuu) (x1_1 : WL rw_L) (x1_2 : NL) (x1_4 : NL) (x1_5 : Int) (st : Int × Int) (c : Ex × XSt) : Prop := CG P rnd (fnN P 19) 0 (codeOf P 19 [false, false, true, false, true, true]) (S_nfaruleq1_1 x1_0 x1_1 x1_2 x1_4 x1_5 st) c
abbrev U_nfaruleq1_1 (rd : Option Nat) (x1_0 : WL rw_uuuu) (x1_1 : WL rw_L) (x1_2 : NL) (x1_4 : NL) (x1_5 : Int) (st : Int × Int) (r : Int) : Prop := CG P rd (fnN P 19) 0 (codeOf P 19 [false, true, false, true, true]) (S_nfaruleq1_1 x1_0 x1_1 x1_2 x1_4 x1_5 st) (X_nfaruleq1_1 x1_0 x1_1 x1_2 x1_4 x1_5 r)
def B_nfaruleq1_1 (n : Nat) (x1_0 : WL rw_uuuu) (x1_1 : WL rw_L) (x1_2 : NL) (x1_4 : NL) (x1_5 : Int) (st : Int × Int) : Option ((Int × Int) ⊕ (Int)) := match st with
 | (x1_3, x1_6) =>
  if x1_6 < x1_5 then
   if 0 ≤ x1_6 ∧ x1_6 < (((x1_4).l.length : Nat) : Int) then
    if (x1_6).toNat < ((x1_4).l).length then
     ((some (((x1_4).l).getD (x1_6).toNat 0))).bind fun y1_4_ =>
     if y1_4_ < (0 : Int) then
      some (.inl (x1_3, (w64 (x1_6 + (1 : Int)))))
     else
      if y1_4_ ≥ (((x1_2).l.length : Nat) : Int) then
       some (.inl (x1_3, (w64 (x1_6 + (1 : Int)))))
      else
       if 0 ≤ y1_4_ ∧ y1_4_ < (((x1_2).l.length : Nat) : Int) then
        if (y1_4_).toNat < ((x1_2).l).length then
         ((some (((x1_2).l).getD (y1_4_).toNat 0))).bind fun y1_9_ =>
         if y1_9_ < (0 : Int) then
          some (.inl (x1_3, (w64 (x1_6 + (1 : Int)))))
         else
          if x1_3 < (0 : Int) then
           some (.inl (y1_9_, (w64 (x1_6 + (1 : Int)))))
          else
           if y1_9_ < x1_3 then
            some (.inl (y1_9_, (w64 (x1_6 + (1 : Int)))))
           else
            some (.inl (x1_3, (w64 (x1_6 + (1 : Int)))))
        else none
       else none
    else none
   else none
  else
   some (.inr x1_3)
def m_nfaruleq1_1 (n : Nat) (x1_0 : WL rw_uuuu) (x1_1 : WL rw_L) (x1_2 : NL) (x1_4 : NL) (x1_5 : Int) (st : Int × Int) : Option (Int) := iterM (B_nfaruleq1_1 n x1_0 x1_1 x1_2 x1_4 x1_5) n st
theorem b_nfaruleq1_1 (n : Nat) {rnd : Option Nat} (x1_0 : WL rw_uuuu) (x1_1 : WL rw_L) (x1_2 : NL) (x1_4 : NL) (x1_5 : Int) (st : Int × Int) (o : (Int × Int) ⊕ (Int)) (h : B_nfaruleq1_1 n x1_0 x1_1 x1_2 x1_4 x1_5 st = some o) : CG P rnd (fnN P 19) 0 (codeOf P 19 [false, false, true, false, true, true]) (S_nfaruleq1_1 x1_0 x1_1 x1_2 x1_4 x1_5 st) (Sum.elim (fun s => (.normal, S_nfaruleq1_1 x1_0 x1_1 x1_2 x1_4 x1_5 s)) (fun r => X_nfaruleq1_1 x1_0 x1_1 x1_2 x1_4 x1_5 r) o) := by
 obtain ⟨x1_3, x1_6⟩ := st
 unfold B_nfaruleq1_1 at h
 dsimp only at h
 by_cases hy1_1 : x1_6 < x1_5
 ·rw [if_pos hy1_1] at h
  obtain ⟨hy1_2, h⟩ := gd h
  obtain ⟨hy1_3, h⟩ := gd h
  obtain ⟨y1_4_, hy1_4, h⟩ := oB h
  have k0 := fun {A L l} (k : PL A L l) => zz 1 (xdT hy1_1) <|
   zz 7 (xk5 (Nat.add (x1_4).num 64) (x1_4).off (x1_4).cap hy1_2) <|
   zz 8 (nk6 hy1_4 hy1_3) <|
   k
  by_cases hy1_5 : y1_4_ < (0 : Int)
  ·rw [if_pos hy1_5] at h
   obtain rfl := oI h
   exact runC2 hm ⟨[2, 5, 8, 9, 10], [(0, 0, false)], 1, 0, [], false, [], [], []⟩ (k0 <|
    zz 13 (xdT hy1_5) <|
    ee) (by kernel_rfl)
  ·rw [if_neg hy1_5] at h
   have k3 := fun {A L l} (k : PL A L l) => zz 13 (xdF hy1_5) <|
    k
   by_cases hy1_6 : y1_4_ ≥ (((x1_2).l.length : Nat) : Int)
   ·rw [if_pos hy1_6] at h
    obtain rfl := oI h
    exact runC2 hm ⟨[2, 5, 8, 9, 10], [(0, 0, false)], 1, 0, [], false, [], [], []⟩ (k0 <|
     k3 <|
     zz 19 (xdT hy1_6) <|
     ee) (by kernel_rfl)
   ·rw [if_neg hy1_6] at h
    obtain ⟨hy1_7, h⟩ := gd h
    obtain ⟨hy1_8, h⟩ := gd h
    obtain ⟨y1_9_, hy1_9, h⟩ := oB h
    have k4 := fun {A L l} (k : PL A L l) => zz 19 (xdF hy1_6) <|
     zz 25 (xk5 (Nat.add (x1_2).num 64) (x1_2).off (x1_2).cap hy1_7) <|
     zz 26 (nk6 hy1_9 hy1_8) <|
     k
    by_cases hy1_10 : y1_9_ < (0 : Int)
    ·rw [if_pos hy1_10] at h
     obtain rfl := oI h
     exact runC2 hm ⟨[2, 5, 8, 9, 10], [(0, 0, false)], 1, 0, [], false, [], [], []⟩ (k0 <|
      k3 <|
      k4 <|
      zz 27 (xdT hy1_10) <|
      ee) (by kernel_rfl)
    ·rw [if_neg hy1_10] at h
     have k7 := fun {A L l} (k : PL A L l) => zz 27 (xdF hy1_10) <|
      k
     by_cases hy1_11 : x1_3 < (0 : Int)
     ·rw [if_pos hy1_11] at h
      obtain rfl := oI h
      exact runC2 hm ⟨[2, 5, 8, 9, 10], [(0, 0, false)], 1, 0, [], false, [], [], []⟩ (k0 <|
       k3 <|
       k4 <|
       k7 <|
       zz 32 (xdT hy1_11) <|
       zz 46 (xk5 (Nat.add (x1_2).num 64) (x1_2).off (x1_2).cap hy1_7) <|
       zz 47 (nk6 hy1_9 hy1_8) <|
       ee) (by kernel_rfl)
     ·rw [if_neg hy1_11] at h
      have k8 := fun {A L l} (k : PL A L l) => zz 32 (xdF hy1_11) <|
       zz 37 (xk5 (Nat.add (x1_2).num 64) (x1_2).off (x1_2).cap hy1_7) <|
       zz 38 (nk6 hy1_9 hy1_8) <|
       k
      by_cases hy1_12 : y1_9_ < x1_3
      ·rw [if_pos hy1_12] at h
       obtain rfl := oI h
       exact runC2 hm ⟨[2, 5, 8, 9, 10], [(0, 0, false)], 1, 0, [], false, [], [], []⟩ (k0 <|
        k3 <|
        k4 <|
        k7 <|
        k8 <|
        zz 40 (xdT hy1_12) <|
        zz 46 (xk5 (Nat.add (x1_2).num 64) (x1_2).off (x1_2).cap hy1_7) <|
        zz 47 (nk6 hy1_9 hy1_8) <|
        ee) (by kernel_rfl)
      ·rw [if_neg hy1_12] at h
       obtain rfl := oI h
       exact runC2 hm ⟨[2, 5, 8, 9, 10], [(0, 0, false)], 1, 0, [], false, [], [], []⟩ (k0 <|
        k3 <|
        k4 <|
        k7 <|
        k8 <|
        zz 40 (xdF hy1_12) <|
        ee) (by kernel_rfl)
 ·rw [if_neg hy1_1] at h
  obtain rfl := oI h
  exact runC2 hm ⟨[5], [], 0, 0, [], false, [], [], []⟩ (zz 1 (xdF hy1_1) <|
   ee) (by kernel_rfl)
theorem m_nfaruleq1_1_ok (n : Nat) {rnd : Option Nat} (x1_0 : WL rw_uuuu) (x1_1 : WL rw_L) (x1_2 : NL) (x1_4 : NL) (x1_5 : Int) (st : Int × Int) (r : Int) (h : m_nfaruleq1_1 n x1_0 x1_1 x1_2 x1_4 x1_5 st = some r) : CG P rnd (fnN P 19) 0 (codeOf P 19 [false, true, false, true, true]) (S_nfaruleq1_1 x1_0 x1_1 x1_2 x1_4 x1_5 st) (X_nfaruleq1_1 x1_0 x1_1 x1_2 x1_4 x1_5 r) :=
 CG.iter (b := codeOf P 19 [false, false, true, false, true, true]) (by kernel_rfl) (body := B_nfaruleq1_1 n x1_0 x1_1 x1_2 x1_4 x1_5) (S := S_nfaruleq1_1 x1_0 x1_1 x1_2 x1_4 x1_5) (X := X_nfaruleq1_1 x1_0 x1_1 x1_2 x1_4 x1_5)
  (fun s s' h => b_nfaruleq1_1 n x1_0 x1_1 x1_2 x1_4 x1_5 s (.inl s') h)
  (fun s r h => b_nfaruleq1_1 n x1_0 x1_1 x1_2 x1_4 x1_5 s (.inr r) h)
  (fun r => by intro hx; cases hx) h
def m_nfaruleq1 (n : Nat) (a0 : WL rw_uuuu) (a1 : WL rw_L) (a2 : NL) (a3 : NL) : Option (Int) :=
 (m_nfaruleq1_1 n a0 a1 a2 a3 (((a3).l.length : Nat) : Int) ((-1), 0)).bind fun c1_ =>
 some c1_
theorem m_nfaruleq1_ok (n : Nat) (a0 : WL rw_uuuu) (a1 : WL rw_L) (a2 : NL) (a3 : NL) (r : Int) (h : m_nfaruleq1 n a0 a1 a2 a3 = some r) : Gv P (.func 19) (A_nfaruleq1 a0 a1 a2 a3) (H_nfaruleq1 a0 a1 a2 a3) (V_nfaruleq1 a0 a1 a2 a3 r) (R_nfaruleq1 a0 a1 a2 a3 r) := by
 unfold m_nfaruleq1 at h
 obtain ⟨c1_, hc1, h⟩ := oB h
 obtain rfl := oI h
 exact runF2 hm ⟨[4], [], 0, 0, [], false, [], [], []⟩ (ww (p := U_nfaruleq1_1 none a0 a1 a2 a3 (((a3).l.length : Nat) : Int) ((-1), 0) c1_) (m_nfaruleq1_1_ok n a0 a1 a2 a3 (((a3).l.length : Nat) : Int) ((-1), 0) c1_ hc1) <|
  ll 11 ⟨⟨[2, 5, 8, 9, 10], [(0, 0, false)], 1, 0, [], false, [], [], []⟩, (X_nfaruleq1_1 a0 a1 a2 a3 (((a3).l.length : Nat) : Int) c1_).1, (X_nfaruleq1_1 a0 a1 a2 a3 (((a3).l.length : Nat) : Int) c1_).2⟩ <|
  ee) (by kernel_rfl)

def A_nfaRuleq1 (a0 : WL rw_uuuu) (a1 : WL rw_L) (a2 : NL) (a3 : NL) : List Value := [(Value.agg #[(wlV a0), (wlV a1), (nlV a2)]), (nlV a3)]
def H_nfaRuleq1 (a0 : WL rw_uuuu) (a1 : WL rw_L) (a2 : NL) (a3 : NL) : AH := ⟨sB [], 0, 0⟩
def V_nfaRuleq1 (a0 : WL rw_uuuu) (a1 : WL rw_L) (a2 : NL) (a3 : NL) (r : Int) : Value := match r with
 | o0 => (i6 o0)
def R_nfaRuleq1 (a0 : WL rw_uuuu) (a1 : WL rw_L) (a2 : NL) (a3 : NL) (r : Int) : AH := match r with
 | o0 => ⟨sB [], 0, 0⟩
abbrev G_nfaRuleq1 (a0 : WL rw_uuuu) (a1 : WL rw_L) (a2 : NL) (a3 : NL) (r : Int) : Prop := Gv P (.func 11) (A_nfaRuleq1 a0 a1 a2 a3) (H_nfaRuleq1 a0 a1 a2 a3) (V_nfaRuleq1 a0 a1 a2 a3 r) (R_nfaRuleq1 a0 a1 a2 a3 r)
abbrev C_nfaRuleq1 (a0 : WL rw_uuuu) (a1 : WL rw_L) (a2 : NL) (a3 : NL) (r : Int) (ins outs : BL) : CallA := ⟨0, ins, V_nfaRuleq1 a0 a1 a2 a3 r, R_nfaRuleq1 a0 a1 a2 a3 r, outs⟩
def m_nfaRuleq1 (n : Nat) (a0 : WL rw_uuuu) (a1 : WL rw_L) (a2 : NL) (a3 : NL) : Option (Int) :=
 (m_nfaCheckq1 n a0 a1 a2).bind fun c1_ =>
 if c1_ = (0 : Int) then
  (m_nfaruleq1 n a0 a1 a2 a3).bind fun c3_ =>
  some c3_
 else
  some (-1)
theorem m_nfaRuleq1_ok (n : Nat) (a0 : WL rw_uuuu) (a1 : WL rw_L) (a2 : NL) (a3 : NL) (r : Int) (h : m_nfaRuleq1 n a0 a1 a2 a3 = some r) : Gv P (.func 11) (A_nfaRuleq1 a0 a1 a2 a3) (H_nfaRuleq1 a0 a1 a2 a3) (V_nfaRuleq1 a0 a1 a2 a3 r) (R_nfaRuleq1 a0 a1 a2 a3 r) := by
 unfold m_nfaRuleq1 at h
 obtain ⟨c1_, hc1, h⟩ := oB h
 have k0 := fun {A L l} (k : PL A L l) => yy 6 (.call (C_nfaCheckq1 a0 a1 a2 c1_ [] [])) <|
  ww (m_nfaCheckq1_ok n a0 a1 a2 c1_ hc1) <|
  k
 by_cases hc2 : c1_ = (0 : Int)
 ·rw [if_pos hc2] at h
  obtain ⟨c3_, hc3, h⟩ := oB h
  obtain rfl := oI h
  exact runF2 hm ⟨[4], [], 0, 0, [], false, [], [], []⟩ (k0 <|
   zz 7 (xnF hc2) <|
   yy 12 (.call (C_nfaruleq1 a0 a1 a2 a3 c3_ [] [])) <|
   ww (m_nfaruleq1_ok n a0 a1 a2 a3 c3_ hc3) <|
   ee) (by kernel_rfl)
 ·rw [if_neg hc2] at h
  obtain rfl := oI h
  exact runF2 hm ⟨[4], [], 0, 0, [], false, [], [], []⟩ (k0 <|
   zz 7 (xnT hc2) <|
   ee) (by kernel_rfl)

def A_nfaruleq2 (a0 : WL rw_uuuu) (a1 : WL rw_L) (a2 : NL) (a3 : List Int) : List Value := [(Value.agg #[(wlV a0), (wlV a1), (nlV a2)]), (sN 0 0 (a3).length (Nat.add big 1))]
def H_nfaruleq2 (a0 : WL rw_uuuu) (a1 : WL rw_L) (a2 : NL) (a3 : List Int) : AH := ⟨sB [(0, (some (.cells (layT (iv a3)) 3)))], 1, 1⟩
def V_nfaruleq2 (a0 : WL rw_uuuu) (a1 : WL rw_L) (a2 : NL) (a3 : List Int) (r : Int) : Value := match r with
 | o0 => (i6 o0)
def R_nfaruleq2 (a0 : WL rw_uuuu) (a1 : WL rw_L) (a2 : NL) (a3 : List Int) (r : Int) : AH := match r with
 | o0 => ⟨sB [], 1, 1⟩
abbrev G_nfaruleq2 (a0 : WL rw_uuuu) (a1 : WL rw_L) (a2 : NL) (a3 : List Int) (r : Int) : Prop := Gv P (.func 19) (A_nfaruleq2 a0 a1 a2 a3) (H_nfaruleq2 a0 a1 a2 a3) (V_nfaruleq2 a0 a1 a2 a3 r) (R_nfaruleq2 a0 a1 a2 a3 r)
abbrev C_nfaruleq2 (a0 : WL rw_uuuu) (a1 : WL rw_L) (a2 : NL) (a3 : List Int) (r : Int) (ins outs : BL) : CallA := ⟨1, ins, V_nfaruleq2 a0 a1 a2 a3 r, R_nfaruleq2 a0 a1 a2 a3 r, outs⟩
def S_nfaruleq2_1 (x1_0 : List Int) (x1_1 : WL rw_uuuu) (x1_2 : WL rw_L) (x1_3 : NL) (x1_5 : Int) (st : Int × Int) : XSt := match st with
 | (x1_4, x1_6) => (sT 49 [(2, (pN 1 0)), (5, (i6 x1_4)), (8, (sN 0 0 (x1_0).length (Nat.add big 1))), (9, (i6 x1_5)), (10, (i6 x1_6))], [], ⟨sB [(0, (some (.cells (layT (iv x1_0)) 3))), (1, (some (.cells (layT [(wlV x1_1), (wlV x1_2), (nlV x1_3)]) 26)))], 2, 1⟩)
def X_nfaruleq2_1 (x1_0 : List Int) (x1_1 : WL rw_uuuu) (x1_2 : WL rw_L) (x1_3 : NL) (x1_5 : Int) (r : Int) : Ex × XSt := match r with
 | z1_0 => (.exit 0, (sT 49 [(5, (i6 z1_0))], [], ⟨sB [(0, (some (.cells (layT (iv x1_0)) 3)))], 1, 1⟩))
abbrev Q_nfaruleq2_1 (rnd : Option Nat) (x1_0 : List Int) (x1_1 : WL rw_uuuu) (x1_2 : WL rw_L) (x1_3 : NL) (x1_5 : Int) (st : Int × Int) (c : Ex × XSt) : Prop := CG P rnd (fnN P 19) 1 (codeOf P 19 [false, false, true, false, true, true]) (S_nfaruleq2_1 x1_0 x1_1 x1_2 x1_3 x1_5 st) c
abbrev U_nfaruleq2_1 (rd : Option Nat) (x1_0 : List Int) (x1_1 : WL rw_uuuu) (x1_2 : WL rw_L) (x1_3 : NL) (x1_5 : Int) (st : Int × Int) (r : Int) : Prop := CG P rd (fnN P 19) 1 (codeOf P 19 [false, true, false, true, true]) (S_nfaruleq2_1 x1_0 x1_1 x1_2 x1_3 x1_5 st) (X_nfaruleq2_1 x1_0 x1_1 x1_2 x1_3 x1_5 r)
def B_nfaruleq2_1 (n : Nat) (x1_0 : List Int) (x1_1 : WL rw_uuuu) (x1_2 : WL rw_L) (x1_3 : NL) (x1_5 : Int) (st : Int × Int) : Option ((Int × Int) ⊕ (Int)) := match st with
 | (x1_4, x1_6) =>
  if x1_6 < x1_5 then
   if 0 ≤ x1_6 ∧ x1_6 < (((x1_0).length : Nat) : Int) then
    ((some ((x1_0).getD (x1_6).toNat 0))).bind fun y1_3_ =>
    if y1_3_ < (0 : Int) then
     some (.inl (x1_4, (w64 (x1_6 + (1 : Int)))))
    else
     if y1_3_ ≥ (((x1_3).l.length : Nat) : Int) then
      some (.inl (x1_4, (w64 (x1_6 + (1 : Int)))))
     else
      if 0 ≤ y1_3_ ∧ y1_3_ < (((x1_3).l.length : Nat) : Int) then
       if (y1_3_).toNat < ((x1_3).l).length then
        ((some (((x1_3).l).getD (y1_3_).toNat 0))).bind fun y1_8_ =>
        if y1_8_ < (0 : Int) then
         some (.inl (x1_4, (w64 (x1_6 + (1 : Int)))))
        else
         if x1_4 < (0 : Int) then
          some (.inl (y1_8_, (w64 (x1_6 + (1 : Int)))))
         else
          if y1_8_ < x1_4 then
           some (.inl (y1_8_, (w64 (x1_6 + (1 : Int)))))
          else
           some (.inl (x1_4, (w64 (x1_6 + (1 : Int)))))
       else none
      else none
   else none
  else
   some (.inr x1_4)
def m_nfaruleq2_1 (n : Nat) (x1_0 : List Int) (x1_1 : WL rw_uuuu) (x1_2 : WL rw_L) (x1_3 : NL) (x1_5 : Int) (st : Int × Int) : Option (Int) := iterM (B_nfaruleq2_1 n x1_0 x1_1 x1_2 x1_3 x1_5) n st
theorem b_nfaruleq2_1 (n : Nat) {rnd : Option Nat} (x1_0 : List Int) (x1_1 : WL rw_uuuu) (x1_2 : WL rw_L) (x1_3 : NL) (x1_5 : Int) (st : Int × Int) (o : (Int × Int) ⊕ (Int)) (h : B_nfaruleq2_1 n x1_0 x1_1 x1_2 x1_3 x1_5 st = some o) : CG P rnd (fnN P 19) 1 (codeOf P 19 [false, false, true, false, true, true]) (S_nfaruleq2_1 x1_0 x1_1 x1_2 x1_3 x1_5 st) (Sum.elim (fun s => (.normal, S_nfaruleq2_1 x1_0 x1_1 x1_2 x1_3 x1_5 s)) (fun r => X_nfaruleq2_1 x1_0 x1_1 x1_2 x1_3 x1_5 r) o) := by
 obtain ⟨x1_4, x1_6⟩ := st
 unfold B_nfaruleq2_1 at h
 dsimp only at h
 by_cases hy1_1 : x1_6 < x1_5
 ·rw [if_pos hy1_1] at h
  obtain ⟨hy1_2, h⟩ := gd h
  obtain ⟨y1_3_, hy1_3, h⟩ := oB h
  have k0 := fun {A L l} (k : PL A L l) => zz 1 (xdT hy1_1) <|
   zz 7 (xk8 0 U1 hy1_2) <|
   zz 8 (xivN hy1_3 (toNatLt hy1_2)) <|
   k
  by_cases hy1_4 : y1_3_ < (0 : Int)
  ·rw [if_pos hy1_4] at h
   obtain rfl := oI h
   exact runC2 hm ⟨[2, 5, 8, 9, 10], [(0, 0, true), (1, 1, false)], 2, 1, [], false, [], [], []⟩ (k0 <|
    zz 13 (xdT hy1_4) <|
    ww (iv_flat x1_0 3) <|
    ee) (by kernel_rfl)
  ·rw [if_neg hy1_4] at h
   have k3 := fun {A L l} (k : PL A L l) => zz 13 (xdF hy1_4) <|
    k
   by_cases hy1_5 : y1_3_ ≥ (((x1_3).l.length : Nat) : Int)
   ·rw [if_pos hy1_5] at h
    obtain rfl := oI h
    exact runC2 hm ⟨[2, 5, 8, 9, 10], [(0, 0, true), (1, 1, false)], 2, 1, [], false, [], [], []⟩ (k0 <|
     k3 <|
     zz 19 (xdT hy1_5) <|
     ww (iv_flat x1_0 3) <|
     ee) (by kernel_rfl)
   ·rw [if_neg hy1_5] at h
    obtain ⟨hy1_6, h⟩ := gd h
    obtain ⟨hy1_7, h⟩ := gd h
    obtain ⟨y1_8_, hy1_8, h⟩ := oB h
    have k4 := fun {A L l} (k : PL A L l) => zz 19 (xdF hy1_5) <|
     zz 25 (xk5 (Nat.add (x1_3).num 64) (x1_3).off (x1_3).cap hy1_6) <|
     zz 26 (nk6 hy1_8 hy1_7) <|
     k
    by_cases hy1_9 : y1_8_ < (0 : Int)
    ·rw [if_pos hy1_9] at h
     obtain rfl := oI h
     exact runC2 hm ⟨[2, 5, 8, 9, 10], [(0, 0, true), (1, 1, false)], 2, 1, [], false, [], [], []⟩ (k0 <|
      k3 <|
      k4 <|
      zz 27 (xdT hy1_9) <|
      ww (iv_flat x1_0 3) <|
      ee) (by kernel_rfl)
    ·rw [if_neg hy1_9] at h
     have k7 := fun {A L l} (k : PL A L l) => zz 27 (xdF hy1_9) <|
      k
     by_cases hy1_10 : x1_4 < (0 : Int)
     ·rw [if_pos hy1_10] at h
      obtain rfl := oI h
      exact runC2 hm ⟨[2, 5, 8, 9, 10], [(0, 0, true), (1, 1, false)], 2, 1, [], false, [], [], []⟩ (k0 <|
       k3 <|
       k4 <|
       k7 <|
       zz 32 (xdT hy1_10) <|
       zz 46 (xk5 (Nat.add (x1_3).num 64) (x1_3).off (x1_3).cap hy1_6) <|
       zz 47 (nk6 hy1_8 hy1_7) <|
       ww (iv_flat x1_0 3) <|
       ee) (by kernel_rfl)
     ·rw [if_neg hy1_10] at h
      have k8 := fun {A L l} (k : PL A L l) => zz 32 (xdF hy1_10) <|
       zz 37 (xk5 (Nat.add (x1_3).num 64) (x1_3).off (x1_3).cap hy1_6) <|
       zz 38 (nk6 hy1_8 hy1_7) <|
       k
      by_cases hy1_11 : y1_8_ < x1_4
      ·rw [if_pos hy1_11] at h
       obtain rfl := oI h
       exact runC2 hm ⟨[2, 5, 8, 9, 10], [(0, 0, true), (1, 1, false)], 2, 1, [], false, [], [], []⟩ (k0 <|
        k3 <|
        k4 <|
        k7 <|
        k8 <|
        zz 40 (xdT hy1_11) <|
        zz 46 (xk5 (Nat.add (x1_3).num 64) (x1_3).off (x1_3).cap hy1_6) <|
        zz 47 (nk6 hy1_8 hy1_7) <|
        ww (iv_flat x1_0 3) <|
        ee) (by kernel_rfl)
      ·rw [if_neg hy1_11] at h
       obtain rfl := oI h
       exact runC2 hm ⟨[2, 5, 8, 9, 10], [(0, 0, true), (1, 1, false)], 2, 1, [], false, [], [], []⟩ (k0 <|
        k3 <|
        k4 <|
        k7 <|
        k8 <|
        zz 40 (xdF hy1_11) <|
        ww (iv_flat x1_0 3) <|
        ee) (by kernel_rfl)
 ·rw [if_neg hy1_1] at h
  obtain rfl := oI h
  exact runC2 hm ⟨[5], [(0, 0, true)], 1, 1, [], false, [], [], []⟩ (zz 1 (xdF hy1_1) <|
   ww (iv_flat x1_0 3) <|
   ee) (by kernel_rfl)
theorem m_nfaruleq2_1_ok (n : Nat) {rnd : Option Nat} (x1_0 : List Int) (x1_1 : WL rw_uuuu) (x1_2 : WL rw_L) (x1_3 : NL) (x1_5 : Int) (st : Int × Int) (r : Int) (h : m_nfaruleq2_1 n x1_0 x1_1 x1_2 x1_3 x1_5 st = some r) : CG P rnd (fnN P 19) 1 (codeOf P 19 [false, true, false, true, true]) (S_nfaruleq2_1 x1_0 x1_1 x1_2 x1_3 x1_5 st) (X_nfaruleq2_1 x1_0 x1_1 x1_2 x1_3 x1_5 r) :=
 CG.iter (b := codeOf P 19 [false, false, true, false, true, true]) (by kernel_rfl) (body := B_nfaruleq2_1 n x1_0 x1_1 x1_2 x1_3 x1_5) (S := S_nfaruleq2_1 x1_0 x1_1 x1_2 x1_3 x1_5) (X := X_nfaruleq2_1 x1_0 x1_1 x1_2 x1_3 x1_5)
  (fun s s' h => b_nfaruleq2_1 n x1_0 x1_1 x1_2 x1_3 x1_5 s (.inl s') h)
  (fun s r h => b_nfaruleq2_1 n x1_0 x1_1 x1_2 x1_3 x1_5 s (.inr r) h)
  (fun r => by intro hx; cases hx) h
def m_nfaruleq2 (n : Nat) (a0 : WL rw_uuuu) (a1 : WL rw_L) (a2 : NL) (a3 : List Int) : Option (Int) :=
 (m_nfaruleq2_1 n a3 a0 a1 a2 (((a3).length : Nat) : Int) ((-1), 0)).bind fun c1_ =>
 some c1_
theorem m_nfaruleq2_ok (n : Nat) (a0 : WL rw_uuuu) (a1 : WL rw_L) (a2 : NL) (a3 : List Int) (r : Int) (h : m_nfaruleq2 n a0 a1 a2 a3 = some r) : Gv P (.func 19) (A_nfaruleq2 a0 a1 a2 a3) (H_nfaruleq2 a0 a1 a2 a3) (V_nfaruleq2 a0 a1 a2 a3 r) (R_nfaruleq2 a0 a1 a2 a3 r) := by
 unfold m_nfaruleq2 at h
 obtain ⟨c1_, hc1, h⟩ := oB h
 obtain rfl := oI h
 exact runF2 hm ⟨[4], [], 1, 1, [], false, [], [], []⟩ (ww (p := U_nfaruleq2_1 none a3 a0 a1 a2 (((a3).length : Nat) : Int) ((-1), 0) c1_) (m_nfaruleq2_1_ok n a3 a0 a1 a2 (((a3).length : Nat) : Int) ((-1), 0) c1_ hc1) <|
  ww (iv_flat a3 3) <|
  ll 11 ⟨⟨[2, 5, 8, 9, 10], [(0, 0, true), (1, 1, false)], 2, 1, [], false, [], [], []⟩, (X_nfaruleq2_1 a3 a0 a1 a2 (((a3).length : Nat) : Int) c1_).1, (X_nfaruleq2_1 a3 a0 a1 a2 (((a3).length : Nat) : Int) c1_).2⟩ <|
  ee) (by kernel_rfl)

def A_nfaRuleq2 (a0 : WL rw_uuuu) (a1 : WL rw_L) (a2 : NL) (a3 : List Int) : List Value := [(Value.agg #[(wlV a0), (wlV a1), (nlV a2)]), (sN 0 0 (a3).length (Nat.add big 1))]
def H_nfaRuleq2 (a0 : WL rw_uuuu) (a1 : WL rw_L) (a2 : NL) (a3 : List Int) : AH := ⟨sB [(0, (some (.cells (layT (iv a3)) 3)))], 1, 1⟩
def V_nfaRuleq2 (a0 : WL rw_uuuu) (a1 : WL rw_L) (a2 : NL) (a3 : List Int) (r : Int) : Value := match r with
 | o0 => (i6 o0)
def R_nfaRuleq2 (a0 : WL rw_uuuu) (a1 : WL rw_L) (a2 : NL) (a3 : List Int) (r : Int) : AH := match r with
 | o0 => ⟨sB [], 1, 1⟩
abbrev G_nfaRuleq2 (a0 : WL rw_uuuu) (a1 : WL rw_L) (a2 : NL) (a3 : List Int) (r : Int) : Prop := Gv P (.func 11) (A_nfaRuleq2 a0 a1 a2 a3) (H_nfaRuleq2 a0 a1 a2 a3) (V_nfaRuleq2 a0 a1 a2 a3 r) (R_nfaRuleq2 a0 a1 a2 a3 r)
abbrev C_nfaRuleq2 (a0 : WL rw_uuuu) (a1 : WL rw_L) (a2 : NL) (a3 : List Int) (r : Int) (ins outs : BL) : CallA := ⟨1, ins, V_nfaRuleq2 a0 a1 a2 a3 r, R_nfaRuleq2 a0 a1 a2 a3 r, outs⟩
def m_nfaRuleq2 (n : Nat) (a0 : WL rw_uuuu) (a1 : WL rw_L) (a2 : NL) (a3 : List Int) : Option (Int) :=
 (m_nfaCheckq1 n a0 a1 a2).bind fun c1_ =>
 if c1_ = (0 : Int) then
  (m_nfaruleq2 n a0 a1 a2 a3).bind fun c3_ =>
  some c3_
 else
  some (-1)
theorem m_nfaRuleq2_ok (n : Nat) (a0 : WL rw_uuuu) (a1 : WL rw_L) (a2 : NL) (a3 : List Int) (r : Int) (h : m_nfaRuleq2 n a0 a1 a2 a3 = some r) : Gv P (.func 11) (A_nfaRuleq2 a0 a1 a2 a3) (H_nfaRuleq2 a0 a1 a2 a3) (V_nfaRuleq2 a0 a1 a2 a3 r) (R_nfaRuleq2 a0 a1 a2 a3 r) := by
 unfold m_nfaRuleq2 at h
 obtain ⟨c1_, hc1, h⟩ := oB h
 have k0 := fun {A L l} (k : PL A L l) => yy 6 (.call (C_nfaCheckq1 a0 a1 a2 c1_ [] [])) <|
  ww (m_nfaCheckq1_ok n a0 a1 a2 c1_ hc1) <|
  k
 by_cases hc2 : c1_ = (0 : Int)
 ·rw [if_pos hc2] at h
  obtain ⟨c3_, hc3, h⟩ := oB h
  obtain rfl := oI h
  exact runF2 hm ⟨[4], [], 1, 1, [], false, [], [], []⟩ (k0 <|
   zz 7 (xnF hc2) <|
   yy 12 (.call (C_nfaruleq2 a0 a1 a2 a3 c3_ [(0, 0, true)] [])) <|
   ww (m_nfaruleq2_ok n a0 a1 a2 a3 c3_ hc3) <|
   ww (iv_flat a3 3) <|
   ee) (by kernel_rfl)
 ·rw [if_neg hc2] at h
  obtain rfl := oI h
  exact runF2 hm ⟨[4], [], 1, 1, [], false, [], [], []⟩ (k0 <|
   zz 7 (xnT hc2) <|
   ee) (by kernel_rfl)

def A_nfaruleq3 (a0 : WL rw_uuuu) (a1 : WL rw_L) (a2 : NL) : List Value := [(Value.agg #[(wlV a0), (wlV a1), (nlV a2)]), (sN 0 0 0 0)]
def H_nfaruleq3 (a0 : WL rw_uuuu) (a1 : WL rw_L) (a2 : NL) : AH := ⟨sB [(0, (some (.cells (layT []) 3)))], 1, 1⟩
def V_nfaruleq3 (a0 : WL rw_uuuu) (a1 : WL rw_L) (a2 : NL) (r : Unit) : Value := match r with
 | _ => (i6 (-1 : Int))
def R_nfaruleq3 (a0 : WL rw_uuuu) (a1 : WL rw_L) (a2 : NL) (r : Unit) : AH := match r with
 | _ => ⟨sB [], 1, 1⟩
abbrev G_nfaruleq3 (a0 : WL rw_uuuu) (a1 : WL rw_L) (a2 : NL) (r : Unit) : Prop := Gv P (.func 19) (A_nfaruleq3 a0 a1 a2) (H_nfaruleq3 a0 a1 a2) (V_nfaruleq3 a0 a1 a2 r) (R_nfaruleq3 a0 a1 a2 r)
abbrev C_nfaruleq3 (a0 : WL rw_uuuu) (a1 : WL rw_L) (a2 : NL) (r : Unit) (ins outs : BL) : CallA := ⟨1, ins, V_nfaruleq3 a0 a1 a2 r, R_nfaruleq3 a0 a1 a2 r, outs⟩
def S_nfaruleq3_1 (x1_0 : WL rw_uuuu) (x1_1 : WL rw_L) (x1_2 : NL) (st : Unit) : XSt := match st with
 | _ => (sT 49 [(2, (pN 1 0)), (5, (i6 (-1 : Int))), (8, (sN 0 0 0 0)), (9, (i6 (0 : Int))), (10, (i6 (0 : Int)))], [], ⟨sB [(0, (some (.cells (layT []) 3))), (1, (some (.cells (layT [(wlV x1_0), (wlV x1_1), (nlV x1_2)]) 26)))], 2, 1⟩)
def X_nfaruleq3_1 (x1_0 : WL rw_uuuu) (x1_1 : WL rw_L) (x1_2 : NL) (r : Unit) : Ex × XSt := match r with
 | _ => (.exit 0, (sT 49 [(5, (i6 (-1 : Int)))], [], ⟨sB [(0, (some (.cells (layT []) 3)))], 1, 1⟩))
abbrev Q_nfaruleq3_1 (rnd : Option Nat) (x1_0 : WL rw_uuuu) (x1_1 : WL rw_L) (x1_2 : NL) (st : Unit) (c : Ex × XSt) : Prop := CG P rnd (fnN P 19) 1 (codeOf P 19 [false, false, true, false, true, true]) (S_nfaruleq3_1 x1_0 x1_1 x1_2 st) c
abbrev U_nfaruleq3_1 (rd : Option Nat) (x1_0 : WL rw_uuuu) (x1_1 : WL rw_L) (x1_2 : NL) (st : Unit) (r : Unit) : Prop := CG P rd (fnN P 19) 1 (codeOf P 19 [false, true, false, true, true]) (S_nfaruleq3_1 x1_0 x1_1 x1_2 st) (X_nfaruleq3_1 x1_0 x1_1 x1_2 r)
def B_nfaruleq3_1 (n : Nat) (x1_0 : WL rw_uuuu) (x1_1 : WL rw_L) (x1_2 : NL) (st : Unit) : Option ((Unit) ⊕ (Unit)) := match st with
 | _ =>
  some (.inr ())
def m_nfaruleq3_1 (n : Nat) (x1_0 : WL rw_uuuu) (x1_1 : WL rw_L) (x1_2 : NL) (st : Unit) : Option (Unit) := iterM (B_nfaruleq3_1 n x1_0 x1_1 x1_2) n st
theorem b_nfaruleq3_1 (n : Nat) {rnd : Option Nat} (x1_0 : WL rw_uuuu) (x1_1 : WL rw_L) (x1_2 : NL) (st : Unit) (o : (Unit) ⊕ (Unit)) (h : B_nfaruleq3_1 n x1_0 x1_1 x1_2 st = some o) : CG P rnd (fnN P 19) 1 (codeOf P 19 [false, false, true, false, true, true]) (S_nfaruleq3_1 x1_0 x1_1 x1_2 st) (Sum.elim (fun s => (.normal, S_nfaruleq3_1 x1_0 x1_1 x1_2 s)) (fun r => X_nfaruleq3_1 x1_0 x1_1 x1_2 r) o) := by
 unfold B_nfaruleq3_1 at h
 dsimp only at h
 obtain rfl := oI h
 exact runC2 hm ⟨[5], [(0, 0, false)], 1, 1, [], false, [], [], []⟩ (ee) (by kernel_rfl)
theorem m_nfaruleq3_1_ok (n : Nat) {rnd : Option Nat} (x1_0 : WL rw_uuuu) (x1_1 : WL rw_L) (x1_2 : NL) (st : Unit) (r : Unit) (h : m_nfaruleq3_1 n x1_0 x1_1 x1_2 st = some r) : CG P rnd (fnN P 19) 1 (codeOf P 19 [false, true, false, true, true]) (S_nfaruleq3_1 x1_0 x1_1 x1_2 st) (X_nfaruleq3_1 x1_0 x1_1 x1_2 r) :=
 CG.iter (b := codeOf P 19 [false, false, true, false, true, true]) (by kernel_rfl) (body := B_nfaruleq3_1 n x1_0 x1_1 x1_2) (S := S_nfaruleq3_1 x1_0 x1_1 x1_2) (X := X_nfaruleq3_1 x1_0 x1_1 x1_2)
  (fun s s' h => b_nfaruleq3_1 n x1_0 x1_1 x1_2 s (.inl s') h)
  (fun s r h => b_nfaruleq3_1 n x1_0 x1_1 x1_2 s (.inr r) h)
  (fun r => by intro hx; cases hx) h
def m_nfaruleq3 (n : Nat) (a0 : WL rw_uuuu) (a1 : WL rw_L) (a2 : NL) : Option (Unit) :=
 (m_nfaruleq3_1 n a0 a1 a2 ()).bind fun _ =>
 some ()
theorem m_nfaruleq3_ok (n : Nat) (a0 : WL rw_uuuu) (a1 : WL rw_L) (a2 : NL) (r : Unit) (h : m_nfaruleq3 n a0 a1 a2 = some r) : Gv P (.func 19) (A_nfaruleq3 a0 a1 a2) (H_nfaruleq3 a0 a1 a2) (V_nfaruleq3 a0 a1 a2 r) (R_nfaruleq3 a0 a1 a2 r) := by
 unfold m_nfaruleq3 at h
 obtain ⟨_, hc1, h⟩ := oB h
 obtain rfl := oI h
 exact runF2 hm ⟨[4], [], 1, 1, [], false, [], [], []⟩ (ww (p := U_nfaruleq3_1 none a0 a1 a2 () ()) (m_nfaruleq3_1_ok n a0 a1 a2 () () hc1) <|
  ll 11 ⟨⟨[2, 5, 8, 9, 10], [(0, 0, false), (1, 1, false)], 2, 1, [], false, [], [], []⟩, (X_nfaruleq3_1 a0 a1 a2 ()).1, (X_nfaruleq3_1 a0 a1 a2 ()).2⟩ <|
  ee) (by kernel_rfl)

def A_nfaRuleq3 (a0 : WL rw_uuuu) (a1 : WL rw_L) (a2 : NL) : List Value := [(Value.agg #[(wlV a0), (wlV a1), (nlV a2)]), (sN 0 0 0 0)]
def H_nfaRuleq3 (a0 : WL rw_uuuu) (a1 : WL rw_L) (a2 : NL) : AH := ⟨sB [(0, (some (.cells (layT []) 3)))], 1, 1⟩
def V_nfaRuleq3 (a0 : WL rw_uuuu) (a1 : WL rw_L) (a2 : NL) (r : Unit) : Value := match r with
 | _ => (i6 (-1 : Int))
def R_nfaRuleq3 (a0 : WL rw_uuuu) (a1 : WL rw_L) (a2 : NL) (r : Unit) : AH := match r with
 | _ => ⟨sB [], 1, 1⟩
abbrev G_nfaRuleq3 (a0 : WL rw_uuuu) (a1 : WL rw_L) (a2 : NL) (r : Unit) : Prop := Gv P (.func 11) (A_nfaRuleq3 a0 a1 a2) (H_nfaRuleq3 a0 a1 a2) (V_nfaRuleq3 a0 a1 a2 r) (R_nfaRuleq3 a0 a1 a2 r)
abbrev C_nfaRuleq3 (a0 : WL rw_uuuu) (a1 : WL rw_L) (a2 : NL) (r : Unit) (ins outs : BL) : CallA := ⟨1, ins, V_nfaRuleq3 a0 a1 a2 r, R_nfaRuleq3 a0 a1 a2 r, outs⟩
def m_nfaRuleq3 (n : Nat) (a0 : WL rw_uuuu) (a1 : WL rw_L) (a2 : NL) : Option (Unit) :=
 (m_nfaCheckq1 n a0 a1 a2).bind fun c1_ =>
 if c1_ = (0 : Int) then
  (m_nfaruleq3 n a0 a1 a2).bind fun _ =>
  some ()
 else
  some ()
theorem m_nfaRuleq3_ok (n : Nat) (a0 : WL rw_uuuu) (a1 : WL rw_L) (a2 : NL) (r : Unit) (h : m_nfaRuleq3 n a0 a1 a2 = some r) : Gv P (.func 11) (A_nfaRuleq3 a0 a1 a2) (H_nfaRuleq3 a0 a1 a2) (V_nfaRuleq3 a0 a1 a2 r) (R_nfaRuleq3 a0 a1 a2 r) := by
 unfold m_nfaRuleq3 at h
 obtain ⟨c1_, hc1, h⟩ := oB h
 have k0 := fun {A L l} (k : PL A L l) => yy 6 (.call (C_nfaCheckq1 a0 a1 a2 c1_ [] [])) <|
  ww (m_nfaCheckq1_ok n a0 a1 a2 c1_ hc1) <|
  k
 by_cases hc2 : c1_ = (0 : Int)
 ·rw [if_pos hc2] at h
  obtain ⟨_, hc3, h⟩ := oB h
  obtain rfl := oI h
  exact runF2 hm ⟨[4], [], 1, 1, [], false, [], [], []⟩ (k0 <|
   zz 7 (xnF hc2) <|
   yy 12 (.call (C_nfaruleq3 a0 a1 a2 () [(0, 0, false)] [])) <|
   ww (m_nfaruleq3_ok n a0 a1 a2 () hc3) <|
   ee) (by kernel_rfl)
 ·rw [if_neg hc2] at h
  obtain rfl := oI h
  exact runF2 hm ⟨[4], [], 1, 1, [], false, [], [], []⟩ (k0 <|
   zz 7 (xnT hc2) <|
   ee) (by kernel_rfl)

def A_nfastepq3 (a0 : WL rw_uuuu) (a1 : WL rw_L) (a2 : NL) (a3 : Int) : List Value := [(Value.agg #[(wlV a0), (wlV a1), (nlV a2)]), (sN 0 0 0 0), (Value.int .u8 a3)]
def H_nfastepq3 (a0 : WL rw_uuuu) (a1 : WL rw_L) (a2 : NL) (a3 : Int) : AH := ⟨sB [(0, (some (.cells (layT []) 3)))], 1, 1⟩
def V_nfastepq3 (a0 : WL rw_uuuu) (a1 : WL rw_L) (a2 : NL) (a3 : Int) (r : NL) : Value := match r with
 | o0 => (nlV o0)
def R_nfastepq3 (a0 : WL rw_uuuu) (a1 : WL rw_L) (a2 : NL) (a3 : Int) (r : NL) : AH := match r with
 | o0 => ⟨sB [], 1, 1⟩
abbrev G_nfastepq3 (a0 : WL rw_uuuu) (a1 : WL rw_L) (a2 : NL) (a3 : Int) (r : NL) : Prop := Gv P (.func 18) (A_nfastepq3 a0 a1 a2 a3) (H_nfastepq3 a0 a1 a2 a3) (V_nfastepq3 a0 a1 a2 a3 r) (R_nfastepq3 a0 a1 a2 a3 r)
abbrev C_nfastepq3 (a0 : WL rw_uuuu) (a1 : WL rw_L) (a2 : NL) (a3 : Int) (r : NL) (ins outs : BL) : CallA := ⟨1, ins, V_nfastepq3 a0 a1 a2 a3 r, R_nfastepq3 a0 a1 a2 a3 r, outs⟩
def S_nfastepq3_1 (x1_0 : Int) (x1_1 : WL rw_uuuu) (x1_2 : WL rw_L) (x1_3 : NL) (st : Unit) : XSt := match st with
 | _ => (sT 52 [(2, (Value.int .u8 x1_0)), (3, (pN 1 0)), (7, (Value.map (some 2))), (13, (sN 0 0 0 0)), (14, (i6 (0 : Int))), (15, (i6 (0 : Int)))], [], ⟨sB [(0, (some (.cells (layT []) 3))), (1, (some (.cells (layT [(wlV x1_1), (wlV x1_2), (nlV x1_3)]) 26))), (2, (some (.map (mEs mvU (mNil : MapI Unit)) (mLen (mNil : MapI Unit)))))], 3, 1⟩)
def X_nfastepq3_1 (x1_0 : Int) (x1_1 : WL rw_uuuu) (x1_2 : WL rw_L) (x1_3 : NL) (r : Unit) : Ex × XSt := match r with
 | _ => (.exit 0, (sT 52 [(7, (Value.map (some 1)))], [], ⟨sB [(0, (some (.cells (layT []) 3))), (1, (some (.map (mEs mvU (mNil : MapI Unit)) (mLen (mNil : MapI Unit)))))], 2, 1⟩))
abbrev Q_nfastepq3_1 (rnd : Option Nat) (x1_0 : Int) (x1_1 : WL rw_uuuu) (x1_2 : WL rw_L) (x1_3 : NL) (st : Unit) (c : Ex × XSt) : Prop := CG P rnd (fnN P 18) 1 (codeOf P 18 [false, false, true, false, true, true]) (S_nfastepq3_1 x1_0 x1_1 x1_2 x1_3 st) c
abbrev U_nfastepq3_1 (rd : Option Nat) (x1_0 : Int) (x1_1 : WL rw_uuuu) (x1_2 : WL rw_L) (x1_3 : NL) (st : Unit) (r : Unit) : Prop := CG P rd (fnN P 18) 1 (codeOf P 18 [false, true, false, true, true]) (S_nfastepq3_1 x1_0 x1_1 x1_2 x1_3 st) (X_nfastepq3_1 x1_0 x1_1 x1_2 x1_3 r)
def B_nfastepq3_1 (n : Nat) (x1_0 : Int) (x1_1 : WL rw_uuuu) (x1_2 : WL rw_L) (x1_3 : NL) (st : Unit) : Option ((Unit) ⊕ (Unit)) := match st with
 | _ =>
  some (.inr ())
def m_nfastepq3_1 (n : Nat) (x1_0 : Int) (x1_1 : WL rw_uuuu) (x1_2 : WL rw_L) (x1_3 : NL) (st : Unit) : Option (Unit) := iterM (B_nfastepq3_1 n x1_0 x1_1 x1_2 x1_3) n st
theorem b_nfastepq3_1 (n : Nat) {rnd : Option Nat} (x1_0 : Int) (x1_1 : WL rw_uuuu) (x1_2 : WL rw_L) (x1_3 : NL) (st : Unit) (o : (Unit) ⊕ (Unit)) (h : B_nfastepq3_1 n x1_0 x1_1 x1_2 x1_3 st = some o) : CG P rnd (fnN P 18) 1 (codeOf P 18 [false, false, true, false, true, true]) (S_nfastepq3_1 x1_0 x1_1 x1_2 x1_3 st) (Sum.elim (fun s => (.normal, S_nfastepq3_1 x1_0 x1_1 x1_2 x1_3 s)) (fun r => X_nfastepq3_1 x1_0 x1_1 x1_2 x1_3 r) o) := by
 unfold B_nfastepq3_1 at h
 dsimp only at h
 obtain rfl := oI h
 exact runC2 hm ⟨[7], [(0, 0, false), (1, 2, true)], 2, 1, [], false, [], [], []⟩ (ww (mflat mvU (fun _ => rfl) (mNil : MapI Unit) (mLen (mNil : MapI Unit))) <|
  ee) (by kernel_rfl)
theorem m_nfastepq3_1_ok (n : Nat) {rnd : Option Nat} (x1_0 : Int) (x1_1 : WL rw_uuuu) (x1_2 : WL rw_L) (x1_3 : NL) (st : Unit) (r : Unit) (h : m_nfastepq3_1 n x1_0 x1_1 x1_2 x1_3 st = some r) : CG P rnd (fnN P 18) 1 (codeOf P 18 [false, true, false, true, true]) (S_nfastepq3_1 x1_0 x1_1 x1_2 x1_3 st) (X_nfastepq3_1 x1_0 x1_1 x1_2 x1_3 r) :=
 CG.iter (b := codeOf P 18 [false, false, true, false, true, true]) (by kernel_rfl) (body := B_nfastepq3_1 n x1_0 x1_1 x1_2 x1_3) (S := S_nfastepq3_1 x1_0 x1_1 x1_2 x1_3) (X := X_nfastepq3_1 x1_0 x1_1 x1_2 x1_3)
  (fun s s' h => b_nfastepq3_1 n x1_0 x1_1 x1_2 x1_3 s (.inl s') h)
  (fun s r h => b_nfastepq3_1 n x1_0 x1_1 x1_2 x1_3 s (.inr r) h)
  (fun r => by intro hx; cases hx) h
def m_nfastepq3 (n : Nat) (a0 : WL rw_uuuu) (a1 : WL rw_L) (a2 : NL) (a3 : Int) : Option (NL) :=
 (m_nfastepq3_1 n a3 a0 a1 a2 ()).bind fun _ =>
 (m_nfasetsortedq1 n mNil).bind fun c2_ =>
 some c2_
theorem m_nfastepq3_ok (n : Nat) (a0 : WL rw_uuuu) (a1 : WL rw_L) (a2 : NL) (a3 : Int) (r : NL) (h : m_nfastepq3 n a0 a1 a2 a3 = some r) : Gv P (.func 18) (A_nfastepq3 a0 a1 a2 a3) (H_nfastepq3 a0 a1 a2 a3) (V_nfastepq3 a0 a1 a2 a3 r) (R_nfastepq3 a0 a1 a2 a3 r) := by
 unfold m_nfastepq3 at h
 obtain ⟨_, hc1, h⟩ := oB h
 obtain ⟨c2_, hc2, h⟩ := oB h
 obtain rfl := oI h
 exact runF2 hm ⟨[6], [], 1, 1, [], false, [], [], []⟩ (ww (p := U_nfastepq3_1 none a3 a0 a1 a2 () ()) (m_nfastepq3_1_ok n a3 a0 a1 a2 () () hc1) <|
  ww (mflat mvU (fun _ => rfl) (mNil : MapI Unit) (mLen (mNil : MapI Unit))) <|
  ll 12 ⟨⟨[2, 3, 7, 13, 14, 15], [(0, 0, false), (1, 1, false), (2, 2, true)], 3, 1, [], false, [], [], []⟩, (X_nfastepq3_1 a3 a0 a1 a2 ()).1, (X_nfastepq3_1 a3 a0 a1 a2 ()).2⟩ <|
  yy 15 (.call (C_nfasetsortedq1 mNil c2_ [(0, 1, true)] [])) <|
  ww (m_nfasetsortedq1_ok n mNil c2_ hc2) <|
  ww (mflat mvU (fun _ => rfl) (mNil : MapI Unit) (mLen (mNil : MapI Unit))) <|
  ee) (by kernel_rfl)

def A_nfaStepq3 (a0 : WL rw_uuuu) (a1 : WL rw_L) (a2 : NL) (a3 : Int) : List Value := [(Value.agg #[(wlV a0), (wlV a1), (nlV a2)]), (sN 0 0 0 0), (Value.int .u8 a3)]
def H_nfaStepq3 (a0 : WL rw_uuuu) (a1 : WL rw_L) (a2 : NL) (a3 : Int) : AH := ⟨sB [(0, (some (.cells (layT []) 3)))], 1, 1⟩
def V_nfaStepq3 (a0 : WL rw_uuuu) (a1 : WL rw_L) (a2 : NL) (a3 : Int) (r : NL) : Value := match r with
 | o0 => (nlV o0)
def R_nfaStepq3 (a0 : WL rw_uuuu) (a1 : WL rw_L) (a2 : NL) (a3 : Int) (r : NL) : AH := match r with
 | o0 => ⟨sB [], 1, 1⟩
abbrev G_nfaStepq3 (a0 : WL rw_uuuu) (a1 : WL rw_L) (a2 : NL) (a3 : Int) (r : NL) : Prop := Gv P (.func 8) (A_nfaStepq3 a0 a1 a2 a3) (H_nfaStepq3 a0 a1 a2 a3) (V_nfaStepq3 a0 a1 a2 a3 r) (R_nfaStepq3 a0 a1 a2 a3 r)
abbrev C_nfaStepq3 (a0 : WL rw_uuuu) (a1 : WL rw_L) (a2 : NL) (a3 : Int) (r : NL) (ins outs : BL) : CallA := ⟨1, ins, V_nfaStepq3 a0 a1 a2 a3 r, R_nfaStepq3 a0 a1 a2 a3 r, outs⟩
def m_nfaStepq3 (n : Nat) (a0 : WL rw_uuuu) (a1 : WL rw_L) (a2 : NL) (a3 : Int) : Option (NL) :=
 (m_nfaCheckq1 n a0 a1 a2).bind fun c1_ =>
 if c1_ = (0 : Int) then
  (m_nfastepq3 n a0 a1 a2 a3).bind fun c3_ =>
  some c3_
 else
  some nl0
theorem m_nfaStepq3_ok (n : Nat) (a0 : WL rw_uuuu) (a1 : WL rw_L) (a2 : NL) (a3 : Int) (r : NL) (h : m_nfaStepq3 n a0 a1 a2 a3 = some r) : Gv P (.func 8) (A_nfaStepq3 a0 a1 a2 a3) (H_nfaStepq3 a0 a1 a2 a3) (V_nfaStepq3 a0 a1 a2 a3 r) (R_nfaStepq3 a0 a1 a2 a3 r) := by
 unfold m_nfaStepq3 at h
 obtain ⟨c1_, hc1, h⟩ := oB h
 have k0 := fun {A L l} (k : PL A L l) => yy 6 (.call (C_nfaCheckq1 a0 a1 a2 c1_ [] [])) <|
  ww (m_nfaCheckq1_ok n a0 a1 a2 c1_ hc1) <|
  k
 by_cases hc2 : c1_ = (0 : Int)
 ·rw [if_pos hc2] at h
  obtain ⟨c3_, hc3, h⟩ := oB h
  obtain rfl := oI h
  exact runF2 hm ⟨[6], [], 1, 1, [], false, [], [], []⟩ (k0 <|
   zz 7 (xnF hc2) <|
   yy 13 (.call (C_nfastepq3 a0 a1 a2 a3 c3_ [(0, 0, false)] [])) <|
   ww (m_nfastepq3_ok n a0 a1 a2 a3 c3_ hc3) <|
   ee) (by kernel_rfl)
 ·rw [if_neg hc2] at h
  obtain rfl := oI h
  exact runF2 hm ⟨[6], [], 1, 1, [], true, [], [], [6]⟩ (k0 <|
   zz 7 (xnT hc2) <|
   ee) (by kernel_rfl)

def A_viewportlaw03NfaSets (g02 : NL) (g1 : NL) (g2 : NL) (g3 : Int) : List Value := [(Value.agg #[(wlV wA), (wlV wB), (nlV g02)]), (nlV g1), (nlV g2), (Value.int .u8 g3)]
def H_viewportlaw03NfaSets (g02 : NL) (g1 : NL) (g2 : NL) (g3 : Int) : AH := ⟨sB [], 0, 0⟩
def V_viewportlaw03NfaSets (g02 : NL) (g1 : NL) (g2 : NL) (g3 : Int) (r : Unit) : Value := match r with
 | _ => (bO true)
def R_viewportlaw03NfaSets (g02 : NL) (g1 : NL) (g2 : NL) (g3 : Int) (r : Unit) : AH := match r with
 | _ => ⟨sB [], 0, 0⟩
abbrev G_viewportlaw03NfaSets (g02 : NL) (g1 : NL) (g2 : NL) (g3 : Int) (r : Unit) : Prop := Gv P (.func 3) (A_viewportlaw03NfaSets g02 g1 g2 g3) (H_viewportlaw03NfaSets g02 g1 g2 g3) (V_viewportlaw03NfaSets g02 g1 g2 g3 r) (R_viewportlaw03NfaSets g02 g1 g2 g3 r)
abbrev C_viewportlaw03NfaSets (g02 : NL) (g1 : NL) (g2 : NL) (g3 : Int) (r : Unit) (ins outs : BL) : CallA := ⟨0, ins, V_viewportlaw03NfaSets g02 g1 g2 g3 r, R_viewportlaw03NfaSets g02 g1 g2 g3 r, outs⟩
def S_viewportlaw03NfaSets_4 (x4_0 : NL) (x4_1 : NL) (x4_2 : WL rw_uuuu) (x4_3 : WL rw_L) (x4_4 : NL) (x4_5 : NL) (x4_6 : MapI Int) (st : Int) : XSt := match st with
 | x4_7 => (sT 177 [(1, (nlV x4_0)), (2, (nlV x4_1)), (4, (pN 0 0)), (11, (nlV x4_5)), (13, (Value.map (some 1))), (16, (i6 x4_7))], [], ⟨sB [(0, (some (.cells (layT [(wlV x4_2), (wlV x4_3), (nlV x4_4)]) 26))), (1, (some (.map (mEs mvI x4_6) (mLen x4_6))))], 2, 0⟩)
def X_viewportlaw03NfaSets_4 (x4_0 : NL) (x4_1 : NL) (x4_2 : WL rw_uuuu) (x4_3 : WL rw_L) (x4_4 : NL) (x4_5 : NL) (x4_6 : MapI Int) (r : Unit) : Ex × XSt := match r with
 | _ => (.exit 6, (sT 177 [(1, (nlV x4_0)), (2, (nlV x4_1)), (4, (pN 0 0)), (11, (nlV x4_5)), (13, (Value.map (some 1)))], [], ⟨sB [(0, (some (.cells (layT [(wlV x4_2), (wlV x4_3), (nlV x4_4)]) 26))), (1, (some (.map (mEs mvI x4_6) (mLen x4_6))))], 2, 0⟩))
abbrev Q_viewportlaw03NfaSets_4 (rnd : Option Nat) (x4_0 : NL) (x4_1 : NL) (x4_2 : WL rw_uuuu) (x4_3 : WL rw_L) (x4_4 : NL) (x4_5 : NL) (x4_6 : MapI Int) (st : Int) (c : Ex × XSt) : Prop := CG P rnd (fnN P 3) 0 (codeOf P 3 [false, false, true, false, true, true, true, true, true, true, true, true, true]) (S_viewportlaw03NfaSets_4 x4_0 x4_1 x4_2 x4_3 x4_4 x4_5 x4_6 st) c
abbrev U_viewportlaw03NfaSets_4 (rd : Option Nat) (x4_0 : NL) (x4_1 : NL) (x4_2 : WL rw_uuuu) (x4_3 : WL rw_L) (x4_4 : NL) (x4_5 : NL) (x4_6 : MapI Int) (st : Int) (r : Unit) : Prop := CG P rd (fnN P 3) 0 (codeOf P 3 [false, true, false, true, true, true, true, true, true, true, true, true]) (S_viewportlaw03NfaSets_4 x4_0 x4_1 x4_2 x4_3 x4_4 x4_5 x4_6 st) (X_viewportlaw03NfaSets_4 x4_0 x4_1 x4_2 x4_3 x4_4 x4_5 x4_6 r)
def B_viewportlaw03NfaSets_4 (n : Nat) (x4_0 : NL) (x4_1 : NL) (x4_2 : WL rw_uuuu) (x4_3 : WL rw_L) (x4_4 : NL) (x4_5 : NL) (x4_6 : MapI Int) (st : Int) : Option ((Int) ⊕ (Unit)) := match st with
 | x4_7 =>
  if x4_7 < (((x4_5).l.length : Nat) : Int) then
   if 0 ≤ x4_7 ∧ x4_7 < (((x4_5).l.length : Nat) : Int) then
    if (x4_7).toNat < ((x4_5).l).length then
     ((some (((x4_5).l).getD (x4_7).toNat 0))).bind fun y4_4_ =>
     if (mGetI x4_6 y4_4_) = (0 : Int) then
      none
     else
      some (.inl (w64 (x4_7 + (1 : Int))))
    else none
   else none
  else
   some (.inr ())
def m_viewportlaw03NfaSets_4 (n : Nat) (x4_0 : NL) (x4_1 : NL) (x4_2 : WL rw_uuuu) (x4_3 : WL rw_L) (x4_4 : NL) (x4_5 : NL) (x4_6 : MapI Int) (st : Int) : Option (Unit) := iterM (B_viewportlaw03NfaSets_4 n x4_0 x4_1 x4_2 x4_3 x4_4 x4_5 x4_6) n st
theorem b_viewportlaw03NfaSets_4 (n : Nat) {rnd : Option Nat} (x4_0 : NL) (x4_1 : NL) (x4_2 : WL rw_uuuu) (x4_3 : WL rw_L) (x4_4 : NL) (x4_5 : NL) (x4_6 : MapI Int) (x4_7 : Int) (o : (Int) ⊕ (Unit)) (h : B_viewportlaw03NfaSets_4 n x4_0 x4_1 x4_2 x4_3 x4_4 x4_5 x4_6 x4_7 = some o) : CG P rnd (fnN P 3) 0 (codeOf P 3 [false, false, true, false, true, true, true, true, true, true, true, true, true]) (S_viewportlaw03NfaSets_4 x4_0 x4_1 x4_2 x4_3 x4_4 x4_5 x4_6 x4_7) (Sum.elim (fun s => (.normal, S_viewportlaw03NfaSets_4 x4_0 x4_1 x4_2 x4_3 x4_4 x4_5 x4_6 s)) (fun r => X_viewportlaw03NfaSets_4 x4_0 x4_1 x4_2 x4_3 x4_4 x4_5 x4_6 r) o) := by
 unfold B_viewportlaw03NfaSets_4 at h
 dsimp only at h
 by_cases hy4_1 : x4_7 < (((x4_5).l.length : Nat) : Int)
 ·rw [if_pos hy4_1] at h
  obtain ⟨hy4_2, h⟩ := gd h
  obtain ⟨hy4_3, h⟩ := gd h
  obtain ⟨y4_4_, hy4_4, h⟩ := oB h
  have k0 := fun {A L l} (k : PL A L l) => zz 5 (xdT hy4_1) <|
   zz 13 (xk5 (Nat.add (x4_5).num 64) (x4_5).off (x4_5).cap hy4_2) <|
   zz 14 (nk6 hy4_4 hy4_3) <|
   yy 15 (.mlk (i6 (mGetI x4_6 y4_4_))) <|
   ww (p := ∀ H : AH, oc (findU (.int .i64) (i6 y4_4_) (mEs mvI x4_6) 0) none (fun r => lookRes P 3 false H r) = some ((i6 (mGetI x4_6 y4_4_)), H)) (mlookI (by kernel_rfl) _ _) <|
   k
  by_cases hy4_5 : (mGetI x4_6 y4_4_) = (0 : Int)
  ·rw [if_pos hy4_5] at h
   cases h
  ·rw [if_neg hy4_5] at h
   obtain rfl := oI h
   exact runC2 hm ⟨[1, 2, 4, 11, 13, 16], [(0, 0, false), (1, 1, true)], 2, 0, [], false, [], [], []⟩ (k0 <|
    zz 16 (xeF hy4_5) <|
    ww (mflat mvI (fun _ => rfl) x4_6 (mLen x4_6)) <|
    ee) (by kernel_rfl)
 ·rw [if_neg hy4_1] at h
  obtain rfl := oI h
  exact runC2 hm ⟨[1, 2, 4, 11, 13], [(0, 0, false), (1, 1, true)], 2, 0, [], false, [], [], []⟩ (zz 5 (xdF hy4_1) <|
   ww (mflat mvI (fun _ => rfl) x4_6 (mLen x4_6)) <|
   ee) (by kernel_rfl)
theorem m_viewportlaw03NfaSets_4_ok (n : Nat) {rnd : Option Nat} (x4_0 : NL) (x4_1 : NL) (x4_2 : WL rw_uuuu) (x4_3 : WL rw_L) (x4_4 : NL) (x4_5 : NL) (x4_6 : MapI Int) (st : Int) (r : Unit) (h : m_viewportlaw03NfaSets_4 n x4_0 x4_1 x4_2 x4_3 x4_4 x4_5 x4_6 st = some r) : CG P rnd (fnN P 3) 0 (codeOf P 3 [false, true, false, true, true, true, true, true, true, true, true, true]) (S_viewportlaw03NfaSets_4 x4_0 x4_1 x4_2 x4_3 x4_4 x4_5 x4_6 st) (X_viewportlaw03NfaSets_4 x4_0 x4_1 x4_2 x4_3 x4_4 x4_5 x4_6 r) :=
 CG.iter (b := codeOf P 3 [false, false, true, false, true, true, true, true, true, true, true, true, true]) (by kernel_rfl) (body := B_viewportlaw03NfaSets_4 n x4_0 x4_1 x4_2 x4_3 x4_4 x4_5 x4_6) (S := S_viewportlaw03NfaSets_4 x4_0 x4_1 x4_2 x4_3 x4_4 x4_5 x4_6) (X := X_viewportlaw03NfaSets_4 x4_0 x4_1 x4_2 x4_3 x4_4 x4_5 x4_6)
  (fun s s' h => b_viewportlaw03NfaSets_4 n x4_0 x4_1 x4_2 x4_3 x4_4 x4_5 x4_6 s (.inl s') h)
  (fun s r h => b_viewportlaw03NfaSets_4 n x4_0 x4_1 x4_2 x4_3 x4_4 x4_5 x4_6 s (.inr r) h)
  (fun r => by intro hx; cases hx) h
def S_viewportlaw03NfaSets_3 (x3_0 : NL) (x3_1 : NL) (x3_2 : WL rw_uuuu) (x3_3 : WL rw_L) (x3_4 : NL) (x3_5 : NL) (x3_6 : NL) (st : MapI Int × Int) : XSt := match st with
 | (x3_7, x3_8) => (sT 177 [(1, (nlV x3_0)), (2, (nlV x3_1)), (4, (pN 0 0)), (10, (nlV x3_5)), (11, (nlV x3_6)), (13, (Value.map (some 1))), (15, (i6 x3_8))], [], ⟨sB [(0, (some (.cells (layT [(wlV x3_2), (wlV x3_3), (nlV x3_4)]) 26))), (1, (some (.map (mEs mvI x3_7) (mLen x3_7))))], 2, 0⟩)
def X_viewportlaw03NfaSets_3 (x3_0 : NL) (x3_1 : NL) (x3_2 : WL rw_uuuu) (x3_3 : WL rw_L) (x3_4 : NL) (x3_5 : NL) (x3_6 : NL) (r : MapI Int) : Ex × XSt := match r with
 | z3_0 => (.exit 4, (sT 177 [(1, (nlV x3_0)), (2, (nlV x3_1)), (4, (pN 0 0)), (11, (nlV x3_6)), (13, (Value.map (some 1)))], [], ⟨sB [(0, (some (.cells (layT [(wlV x3_2), (wlV x3_3), (nlV x3_4)]) 26))), (1, (some (.map (mEs mvI z3_0) (mLen z3_0))))], 2, 0⟩))
abbrev Q_viewportlaw03NfaSets_3 (rnd : Option Nat) (x3_0 : NL) (x3_1 : NL) (x3_2 : WL rw_uuuu) (x3_3 : WL rw_L) (x3_4 : NL) (x3_5 : NL) (x3_6 : NL) (st : MapI Int × Int) (c : Ex × XSt) : Prop := CG P rnd (fnN P 3) 0 (codeOf P 3 [false, false, true, false, true, true, true, true, true, true, true, true]) (S_viewportlaw03NfaSets_3 x3_0 x3_1 x3_2 x3_3 x3_4 x3_5 x3_6 st) c
abbrev U_viewportlaw03NfaSets_3 (rd : Option Nat) (x3_0 : NL) (x3_1 : NL) (x3_2 : WL rw_uuuu) (x3_3 : WL rw_L) (x3_4 : NL) (x3_5 : NL) (x3_6 : NL) (st : MapI Int × Int) (r : MapI Int) : Prop := CG P rd (fnN P 3) 0 (codeOf P 3 [false, true, false, true, true, true, true, true, true, true, true]) (S_viewportlaw03NfaSets_3 x3_0 x3_1 x3_2 x3_3 x3_4 x3_5 x3_6 st) (X_viewportlaw03NfaSets_3 x3_0 x3_1 x3_2 x3_3 x3_4 x3_5 x3_6 r)
def B_viewportlaw03NfaSets_3 (n : Nat) (x3_0 : NL) (x3_1 : NL) (x3_2 : WL rw_uuuu) (x3_3 : WL rw_L) (x3_4 : NL) (x3_5 : NL) (x3_6 : NL) (st : MapI Int × Int) : Option ((MapI Int × Int) ⊕ (MapI Int)) := match st with
 | (x3_7, x3_8) =>
  if x3_8 < (((x3_5).l.length : Nat) : Int) then
   if 0 ≤ x3_8 ∧ x3_8 < (((x3_5).l.length : Nat) : Int) then
    if (x3_8).toNat < ((x3_5).l).length then
     ((some (((x3_5).l).getD (x3_8).toNat 0))).bind fun y3_4_ =>
     some (.inl ((mPut x3_7 y3_4_ (1 : Int)), (w64 (x3_8 + (1 : Int)))))
    else none
   else none
  else
   some (.inr x3_7)
def m_viewportlaw03NfaSets_3 (n : Nat) (x3_0 : NL) (x3_1 : NL) (x3_2 : WL rw_uuuu) (x3_3 : WL rw_L) (x3_4 : NL) (x3_5 : NL) (x3_6 : NL) (st : MapI Int × Int) : Option (MapI Int) := iterM (B_viewportlaw03NfaSets_3 n x3_0 x3_1 x3_2 x3_3 x3_4 x3_5 x3_6) n st
theorem b_viewportlaw03NfaSets_3 (n : Nat) {rnd : Option Nat} (x3_0 : NL) (x3_1 : NL) (x3_2 : WL rw_uuuu) (x3_3 : WL rw_L) (x3_4 : NL) (x3_5 : NL) (x3_6 : NL) (st : MapI Int × Int) (o : (MapI Int × Int) ⊕ (MapI Int)) (h : B_viewportlaw03NfaSets_3 n x3_0 x3_1 x3_2 x3_3 x3_4 x3_5 x3_6 st = some o) : CG P rnd (fnN P 3) 0 (codeOf P 3 [false, false, true, false, true, true, true, true, true, true, true, true]) (S_viewportlaw03NfaSets_3 x3_0 x3_1 x3_2 x3_3 x3_4 x3_5 x3_6 st) (Sum.elim (fun s => (.normal, S_viewportlaw03NfaSets_3 x3_0 x3_1 x3_2 x3_3 x3_4 x3_5 x3_6 s)) (fun r => X_viewportlaw03NfaSets_3 x3_0 x3_1 x3_2 x3_3 x3_4 x3_5 x3_6 r) o) := by
 obtain ⟨x3_7, x3_8⟩ := st
 unfold B_viewportlaw03NfaSets_3 at h
 dsimp only at h
 by_cases hy3_1 : x3_8 < (((x3_5).l.length : Nat) : Int)
 ·rw [if_pos hy3_1] at h
  obtain ⟨hy3_2, h⟩ := gd h
  obtain ⟨hy3_3, h⟩ := gd h
  obtain ⟨y3_4_, hy3_4, h⟩ := oB h
  obtain rfl := oI h
  exact runC2 hm ⟨[1, 2, 4, 10, 11, 13, 15], [(0, 0, false), (1, 1, true)], 2, 0, [], false, [], [], []⟩ (zz 5 (xdT hy3_1) <|
   zz 12 (xk5 (Nat.add (x3_5).num 64) (x3_5).off (x3_5).cap hy3_2) <|
   zz 13 (nk6 hy3_4 hy3_3) <|
   yy 14 (.mup (mEs mvI (mPut x3_7 y3_4_ (1 : Int))) (mLen (mPut x3_7 y3_4_ (1 : Int)))) <|
   ww (p := oc (findU (.int .i64) (i6 y3_4_) (mEs mvI x3_7) 0) none (fun r => some (updEs (mEs mvI x3_7, mLen x3_7) (i6 y3_4_) (i6 (1 : Int)) r)) = some (.map (mEs mvI (mPut x3_7 y3_4_ (1 : Int))) (mLen (mPut x3_7 y3_4_ (1 : Int))))) (mput_ok mvI _ _ _) <|
   ww (mflat mvI (fun _ => rfl) (mPut x3_7 y3_4_ (1 : Int)) (mLen (mPut x3_7 y3_4_ (1 : Int)))) <|
   ee) (by kernel_rfl)
 ·rw [if_neg hy3_1] at h
  obtain rfl := oI h
  exact runC2 hm ⟨[1, 2, 4, 11, 13], [(0, 0, false), (1, 1, true)], 2, 0, [], false, [], [], []⟩ (zz 5 (xdF hy3_1) <|
   ww (mflat mvI (fun _ => rfl) x3_7 (mLen x3_7)) <|
   ee) (by kernel_rfl)
theorem m_viewportlaw03NfaSets_3_ok (n : Nat) {rnd : Option Nat} (x3_0 : NL) (x3_1 : NL) (x3_2 : WL rw_uuuu) (x3_3 : WL rw_L) (x3_4 : NL) (x3_5 : NL) (x3_6 : NL) (st : MapI Int × Int) (r : MapI Int) (h : m_viewportlaw03NfaSets_3 n x3_0 x3_1 x3_2 x3_3 x3_4 x3_5 x3_6 st = some r) : CG P rnd (fnN P 3) 0 (codeOf P 3 [false, true, false, true, true, true, true, true, true, true, true]) (S_viewportlaw03NfaSets_3 x3_0 x3_1 x3_2 x3_3 x3_4 x3_5 x3_6 st) (X_viewportlaw03NfaSets_3 x3_0 x3_1 x3_2 x3_3 x3_4 x3_5 x3_6 r) :=
 CG.iter (b := codeOf P 3 [false, false, true, false, true, true, true, true, true, true, true, true]) (by kernel_rfl) (body := B_viewportlaw03NfaSets_3 n x3_0 x3_1 x3_2 x3_3 x3_4 x3_5 x3_6) (S := S_viewportlaw03NfaSets_3 x3_0 x3_1 x3_2 x3_3 x3_4 x3_5 x3_6) (X := X_viewportlaw03NfaSets_3 x3_0 x3_1 x3_2 x3_3 x3_4 x3_5 x3_6)
  (fun s s' h => b_viewportlaw03NfaSets_3 n x3_0 x3_1 x3_2 x3_3 x3_4 x3_5 x3_6 s (.inl s') h)
  (fun s r h => b_viewportlaw03NfaSets_3 n x3_0 x3_1 x3_2 x3_3 x3_4 x3_5 x3_6 s (.inr r) h)
  (fun r => by intro hx; cases hx) h
def S_viewportlaw03NfaSets_2 (x2_0 : NL) (x2_1 : NL) (x2_2 : WL rw_uuuu) (x2_3 : WL rw_L) (x2_4 : NL) (x2_5 : NL) (x2_6 : NL) (x2_7 : NL) (st : MapI Int × Int) : XSt := match st with
 | (x2_8, x2_9) => (sT 177 [(1, (nlV x2_0)), (2, (nlV x2_1)), (4, (pN 0 0)), (9, (nlV x2_5)), (10, (nlV x2_6)), (11, (nlV x2_7)), (13, (Value.map (some 1))), (14, (i6 x2_9))], [], ⟨sB [(0, (some (.cells (layT [(wlV x2_2), (wlV x2_3), (nlV x2_4)]) 26))), (1, (some (.map (mEs mvI x2_8) (mLen x2_8))))], 2, 0⟩)
def X_viewportlaw03NfaSets_2 (x2_0 : NL) (x2_1 : NL) (x2_2 : WL rw_uuuu) (x2_3 : WL rw_L) (x2_4 : NL) (x2_5 : NL) (x2_6 : NL) (x2_7 : NL) (r : MapI Int) : Ex × XSt := match r with
 | z2_0 => (.exit 2, (sT 177 [(1, (nlV x2_0)), (2, (nlV x2_1)), (4, (pN 0 0)), (10, (nlV x2_6)), (11, (nlV x2_7)), (13, (Value.map (some 1)))], [], ⟨sB [(0, (some (.cells (layT [(wlV x2_2), (wlV x2_3), (nlV x2_4)]) 26))), (1, (some (.map (mEs mvI z2_0) (mLen z2_0))))], 2, 0⟩))
abbrev Q_viewportlaw03NfaSets_2 (rnd : Option Nat) (x2_0 : NL) (x2_1 : NL) (x2_2 : WL rw_uuuu) (x2_3 : WL rw_L) (x2_4 : NL) (x2_5 : NL) (x2_6 : NL) (x2_7 : NL) (st : MapI Int × Int) (c : Ex × XSt) : Prop := CG P rnd (fnN P 3) 0 (codeOf P 3 [false, false, true, false, true, true, true, true, true, true, true]) (S_viewportlaw03NfaSets_2 x2_0 x2_1 x2_2 x2_3 x2_4 x2_5 x2_6 x2_7 st) c
abbrev U_viewportlaw03NfaSets_2 (rd : Option Nat) (x2_0 : NL) (x2_1 : NL) (x2_2 : WL rw_uuuu) (x2_3 : WL rw_L) (x2_4 : NL) (x2_5 : NL) (x2_6 : NL) (x2_7 : NL) (st : MapI Int × Int) (r : MapI Int) : Prop := CG P rd (fnN P 3) 0 (codeOf P 3 [false, true, false, true, true, true, true, true, true, true]) (S_viewportlaw03NfaSets_2 x2_0 x2_1 x2_2 x2_3 x2_4 x2_5 x2_6 x2_7 st) (X_viewportlaw03NfaSets_2 x2_0 x2_1 x2_2 x2_3 x2_4 x2_5 x2_6 x2_7 r)
def B_viewportlaw03NfaSets_2 (n : Nat) (x2_0 : NL) (x2_1 : NL) (x2_2 : WL rw_uuuu) (x2_3 : WL rw_L) (x2_4 : NL) (x2_5 : NL) (x2_6 : NL) (x2_7 : NL) (st : MapI Int × Int) : Option ((MapI Int × Int) ⊕ (MapI Int)) := match st with
 | (x2_8, x2_9) =>
  if x2_9 < (((x2_5).l.length : Nat) : Int) then
   if 0 ≤ x2_9 ∧ x2_9 < (((x2_5).l.length : Nat) : Int) then
    if (x2_9).toNat < ((x2_5).l).length then
     ((some (((x2_5).l).getD (x2_9).toNat 0))).bind fun y2_4_ =>
     some (.inl ((mPut x2_8 y2_4_ (1 : Int)), (w64 (x2_9 + (1 : Int)))))
    else none
   else none
  else
   some (.inr x2_8)
def m_viewportlaw03NfaSets_2 (n : Nat) (x2_0 : NL) (x2_1 : NL) (x2_2 : WL rw_uuuu) (x2_3 : WL rw_L) (x2_4 : NL) (x2_5 : NL) (x2_6 : NL) (x2_7 : NL) (st : MapI Int × Int) : Option (MapI Int) := iterM (B_viewportlaw03NfaSets_2 n x2_0 x2_1 x2_2 x2_3 x2_4 x2_5 x2_6 x2_7) n st
theorem b_viewportlaw03NfaSets_2 (n : Nat) {rnd : Option Nat} (x2_0 : NL) (x2_1 : NL) (x2_2 : WL rw_uuuu) (x2_3 : WL rw_L) (x2_4 : NL) (x2_5 : NL) (x2_6 : NL) (x2_7 : NL) (st : MapI Int × Int) (o : (MapI Int × Int) ⊕ (MapI Int)) (h : B_viewportlaw03NfaSets_2 n x2_0 x2_1 x2_2 x2_3 x2_4 x2_5 x2_6 x2_7 st = some o) : CG P rnd (fnN P 3) 0 (codeOf P 3 [false, false, true, false, true, true, true, true, true, true, true]) (S_viewportlaw03NfaSets_2 x2_0 x2_1 x2_2 x2_3 x2_4 x2_5 x2_6 x2_7 st) (Sum.elim (fun s => (.normal, S_viewportlaw03NfaSets_2 x2_0 x2_1 x2_2 x2_3 x2_4 x2_5 x2_6 x2_7 s)) (fun r => X_viewportlaw03NfaSets_2 x2_0 x2_1 x2_2 x2_3 x2_4 x2_5 x2_6 x2_7 r) o) := by
 obtain ⟨x2_8, x2_9⟩ := st
 unfold B_viewportlaw03NfaSets_2 at h
 dsimp only at h
 by_cases hy2_1 : x2_9 < (((x2_5).l.length : Nat) : Int)
 ·rw [if_pos hy2_1] at h
  obtain ⟨hy2_2, h⟩ := gd h
  obtain ⟨hy2_3, h⟩ := gd h
  obtain ⟨y2_4_, hy2_4, h⟩ := oB h
  obtain rfl := oI h
  exact runC2 hm ⟨[1, 2, 4, 9, 10, 11, 13, 14], [(0, 0, false), (1, 1, true)], 2, 0, [], false, [], [], []⟩ (zz 5 (xdT hy2_1) <|
   zz 12 (xk5 (Nat.add (x2_5).num 64) (x2_5).off (x2_5).cap hy2_2) <|
   zz 13 (nk6 hy2_4 hy2_3) <|
   yy 14 (.mup (mEs mvI (mPut x2_8 y2_4_ (1 : Int))) (mLen (mPut x2_8 y2_4_ (1 : Int)))) <|
   ww (p := oc (findU (.int .i64) (i6 y2_4_) (mEs mvI x2_8) 0) none (fun r => some (updEs (mEs mvI x2_8, mLen x2_8) (i6 y2_4_) (i6 (1 : Int)) r)) = some (.map (mEs mvI (mPut x2_8 y2_4_ (1 : Int))) (mLen (mPut x2_8 y2_4_ (1 : Int))))) (mput_ok mvI _ _ _) <|
   ww (mflat mvI (fun _ => rfl) (mPut x2_8 y2_4_ (1 : Int)) (mLen (mPut x2_8 y2_4_ (1 : Int)))) <|
   ee) (by kernel_rfl)
 ·rw [if_neg hy2_1] at h
  obtain rfl := oI h
  exact runC2 hm ⟨[1, 2, 4, 10, 11, 13], [(0, 0, false), (1, 1, true)], 2, 0, [], false, [], [], []⟩ (zz 5 (xdF hy2_1) <|
   ww (mflat mvI (fun _ => rfl) x2_8 (mLen x2_8)) <|
   ee) (by kernel_rfl)
theorem m_viewportlaw03NfaSets_2_ok (n : Nat) {rnd : Option Nat} (x2_0 : NL) (x2_1 : NL) (x2_2 : WL rw_uuuu) (x2_3 : WL rw_L) (x2_4 : NL) (x2_5 : NL) (x2_6 : NL) (x2_7 : NL) (st : MapI Int × Int) (r : MapI Int) (h : m_viewportlaw03NfaSets_2 n x2_0 x2_1 x2_2 x2_3 x2_4 x2_5 x2_6 x2_7 st = some r) : CG P rnd (fnN P 3) 0 (codeOf P 3 [false, true, false, true, true, true, true, true, true, true]) (S_viewportlaw03NfaSets_2 x2_0 x2_1 x2_2 x2_3 x2_4 x2_5 x2_6 x2_7 st) (X_viewportlaw03NfaSets_2 x2_0 x2_1 x2_2 x2_3 x2_4 x2_5 x2_6 x2_7 r) :=
 CG.iter (b := codeOf P 3 [false, false, true, false, true, true, true, true, true, true, true]) (by kernel_rfl) (body := B_viewportlaw03NfaSets_2 n x2_0 x2_1 x2_2 x2_3 x2_4 x2_5 x2_6 x2_7) (S := S_viewportlaw03NfaSets_2 x2_0 x2_1 x2_2 x2_3 x2_4 x2_5 x2_6 x2_7) (X := X_viewportlaw03NfaSets_2 x2_0 x2_1 x2_2 x2_3 x2_4 x2_5 x2_6 x2_7)
  (fun s s' h => b_viewportlaw03NfaSets_2 n x2_0 x2_1 x2_2 x2_3 x2_4 x2_5 x2_6 x2_7 s (.inl s') h)
  (fun s r h => b_viewportlaw03NfaSets_2 n x2_0 x2_1 x2_2 x2_3 x2_4 x2_5 x2_6 x2_7 s (.inr r) h)
  (fun r => by intro hx; cases hx) h
def S_viewportlaw03NfaSets_1 (x1_0 : NL) (x1_1 : NL) (x1_2 : Int) (x1_3 : WL rw_uuuu) (x1_4 : WL rw_L) (x1_5 : NL) (x1_6 : NL) (x1_7 : NL) (x1_8 : NL) (st : Int) : XSt := match st with
 | x1_9 => (sT 177 [(1, (nlV x1_0)), (2, (nlV x1_1)), (3, (Value.int .u8 x1_2)), (4, (pN 0 0)), (9, (nlV x1_6)), (10, (nlV x1_7)), (11, (nlV x1_8)), (12, (i6 x1_9))], [], ⟨sB [(0, (some (.cells (layT [(wlV x1_3), (wlV x1_4), (nlV x1_5)]) 26)))], 1, 0⟩)
def X_viewportlaw03NfaSets_1 (x1_0 : NL) (x1_1 : NL) (x1_2 : Int) (x1_3 : WL rw_uuuu) (x1_4 : WL rw_L) (x1_5 : NL) (x1_6 : NL) (x1_7 : NL) (x1_8 : NL) (r : Unit) : Ex × XSt := match r with
 | _ => (.exit 0, (sT 177 [(1, (nlV x1_0)), (2, (nlV x1_1)), (4, (pN 0 0)), (9, (nlV x1_6)), (10, (nlV x1_7)), (11, (nlV x1_8))], [], ⟨sB [(0, (some (.cells (layT [(wlV x1_3), (wlV x1_4), (nlV x1_5)]) 26)))], 1, 0⟩))
abbrev Q_viewportlaw03NfaSets_1 (rnd : Option Nat) (x1_0 : NL) (x1_1 : NL) (x1_2 : Int) (x1_3 : WL rw_uuuu) (x1_4 : WL rw_L) (x1_5 : NL) (x1_6 : NL) (x1_7 : NL) (x1_8 : NL) (st : Int) (c : Ex × XSt) : Prop := CG P rnd (fnN P 3) 0 (codeOf P 3 [false, false, true, false, true, true, true, true, true]) (S_viewportlaw03NfaSets_1 x1_0 x1_1 x1_2 x1_3 x1_4 x1_5 x1_6 x1_7 x1_8 st) c
abbrev U_viewportlaw03NfaSets_1 (rd : Option Nat) (x1_0 : NL) (x1_1 : NL) (x1_2 : Int) (x1_3 : WL rw_uuuu) (x1_4 : WL rw_L) (x1_5 : NL) (x1_6 : NL) (x1_7 : NL) (x1_8 : NL) (st : Int) (r : Unit) : Prop := CG P rd (fnN P 3) 0 (codeOf P 3 [false, true, false, true, true, true, true, true]) (S_viewportlaw03NfaSets_1 x1_0 x1_1 x1_2 x1_3 x1_4 x1_5 x1_6 x1_7 x1_8 st) (X_viewportlaw03NfaSets_1 x1_0 x1_1 x1_2 x1_3 x1_4 x1_5 x1_6 x1_7 x1_8 r)
def B_viewportlaw03NfaSets_1 (n : Nat) (x1_0 : NL) (x1_1 : NL) (x1_2 : Int) (x1_3 : WL rw_uuuu) (x1_4 : WL rw_L) (x1_5 : NL) (x1_6 : NL) (x1_7 : NL) (x1_8 : NL) (st : Int) : Option ((Int) ⊕ (Unit)) := match st with
 | x1_9 =>
  if x1_9 < (((x1_8).l.length : Nat) : Int) then
   if 0 ≤ x1_9 ∧ x1_9 < (((x1_8).l.length : Nat) : Int) then
    if (x1_9).toNat < ((x1_8).l).length then
     ((some (((x1_8).l).getD (x1_9).toNat 0))).bind fun y1_4_ =>
     if y1_4_ < (1 : Int) then
      none
     else
      if y1_4_ ≥ (((x1_3).l.length : Nat) : Int) then
       none
      else
       if x1_9 > (0 : Int) then
        if 0 ≤ (w64 (x1_9 - (1 : Int))) ∧ (w64 (x1_9 - (1 : Int))) < (((x1_8).l.length : Nat) : Int) then
         if ((w64 (x1_9 - (1 : Int)))).toNat < ((x1_8).l).length then
          ((some (((x1_8).l).getD ((w64 (x1_9 - (1 : Int)))).toNat 0))).bind fun y1_10_ =>
          if y1_10_ ≥ y1_4_ then
           none
          else
           if 0 ≤ y1_4_ ∧ y1_4_ < (((x1_3).l.length : Nat) : Int) then
            ((some (((x1_3).l).getD (y1_4_).toNat (0, 0, 0, 0)))).bind fun y1_13_ =>
            (m_viewportref01Hasq1 n (y1_13_.1) (y1_13_.2.1) (y1_13_.2.2.1) (y1_13_.2.2.2) x1_2).bind fun y1_14_ =>
            if y1_14_ = true then
             some (.inl (w64 (x1_9 + (1 : Int))))
            else
             none
           else none
         else none
        else none
       else
        if 0 ≤ y1_4_ ∧ y1_4_ < (((x1_3).l.length : Nat) : Int) then
         ((some (((x1_3).l).getD (y1_4_).toNat (0, 0, 0, 0)))).bind fun y1_9_ =>
         (m_viewportref01Hasq1 n (y1_9_.1) (y1_9_.2.1) (y1_9_.2.2.1) (y1_9_.2.2.2) x1_2).bind fun y1_10_ =>
         if y1_10_ = true then
          some (.inl (w64 (x1_9 + (1 : Int))))
         else
          none
        else none
    else none
   else none
  else
   some (.inr ())
def m_viewportlaw03NfaSets_1 (n : Nat) (x1_0 : NL) (x1_1 : NL) (x1_2 : Int) (x1_3 : WL rw_uuuu) (x1_4 : WL rw_L) (x1_5 : NL) (x1_6 : NL) (x1_7 : NL) (x1_8 : NL) (st : Int) : Option (Unit) := iterM (B_viewportlaw03NfaSets_1 n x1_0 x1_1 x1_2 x1_3 x1_4 x1_5 x1_6 x1_7 x1_8) n st
theorem b_viewportlaw03NfaSets_1 (n : Nat) {rnd : Option Nat} (x1_0 : NL) (x1_1 : NL) (x1_2 : Int) (x1_3 : WL rw_uuuu) (x1_4 : WL rw_L) (x1_5 : NL) (x1_6 : NL) (x1_7 : NL) (x1_8 : NL) (x1_9 : Int) (o : (Int) ⊕ (Unit)) (h : B_viewportlaw03NfaSets_1 n x1_0 x1_1 x1_2 x1_3 x1_4 x1_5 x1_6 x1_7 x1_8 x1_9 = some o) : CG P rnd (fnN P 3) 0 (codeOf P 3 [false, false, true, false, true, true, true, true, true]) (S_viewportlaw03NfaSets_1 x1_0 x1_1 x1_2 x1_3 x1_4 x1_5 x1_6 x1_7 x1_8 x1_9) (Sum.elim (fun s => (.normal, S_viewportlaw03NfaSets_1 x1_0 x1_1 x1_2 x1_3 x1_4 x1_5 x1_6 x1_7 x1_8 s)) (fun r => X_viewportlaw03NfaSets_1 x1_0 x1_1 x1_2 x1_3 x1_4 x1_5 x1_6 x1_7 x1_8 r) o) := by
 unfold B_viewportlaw03NfaSets_1 at h
 dsimp only at h
 by_cases hy1_1 : x1_9 < (((x1_8).l.length : Nat) : Int)
 ·rw [if_pos hy1_1] at h
  obtain ⟨hy1_2, h⟩ := gd h
  obtain ⟨hy1_3, h⟩ := gd h
  obtain ⟨y1_4_, hy1_4, h⟩ := oB h
  have k0 := fun {A L l} (k : PL A L l) => zz 5 (xdT hy1_1) <|
   zz 12 (xk5 (Nat.add (x1_8).num 64) (x1_8).off (x1_8).cap hy1_2) <|
   zz 13 (nk6 hy1_4 hy1_3) <|
   k
  by_cases hy1_5 : y1_4_ < (1 : Int)
  ·rw [if_pos hy1_5] at h
   cases h
  ·rw [if_neg hy1_5] at h
   have k3 := fun {A L l} (k : PL A L l) => zz 14 (xdF hy1_5) <|
    zz 18 (xk5 (Nat.add (x1_8).num 64) (x1_8).off (x1_8).cap hy1_2) <|
    zz 19 (nk6 hy1_4 hy1_3) <|
    k
   by_cases hy1_6 : y1_4_ ≥ (((x1_3).l.length : Nat) : Int)
   ·rw [if_pos hy1_6] at h
    cases h
   ·rw [if_neg hy1_6] at h
    have k6 := fun {A L l} (k : PL A L l) => zz 23 (xdF hy1_6) <|
     k
    by_cases hy1_7 : x1_9 > (0 : Int)
    ·rw [if_pos hy1_7] at h
     obtain ⟨hy1_8, h⟩ := gd h
     obtain ⟨hy1_9, h⟩ := gd h
     obtain ⟨y1_10_, hy1_10, h⟩ := oB h
     have k7 := fun {A L l} (k : PL A L l) => zz 27 (xdT hy1_7) <|
      zz 32 (xk5 (Nat.add (x1_8).num 64) (x1_8).off (x1_8).cap hy1_8) <|
      zz 33 (nk6 hy1_10 hy1_9) <|
      zz 36 (xk5 (Nat.add (x1_8).num 64) (x1_8).off (x1_8).cap hy1_2) <|
      zz 37 (nk6 hy1_4 hy1_3) <|
      k
     by_cases hy1_11 : y1_10_ ≥ y1_4_
     ·rw [if_pos hy1_11] at h
      cases h
     ·rw [if_neg hy1_11] at h
      obtain ⟨hy1_12, h⟩ := gd h
      obtain ⟨y1_13_, hy1_13, h⟩ := oB h
      obtain ⟨y1_14_, hy1_14, h⟩ := oB h
      have k12 := fun {A L l} (k : PL A L l) => zz 38 (xdF hy1_11) <|
       zz 46 (xk5 (Nat.add (x1_8).num 64) (x1_8).off (x1_8).cap hy1_2) <|
       zz 47 (nk6 hy1_4 hy1_3) <|
       zz 48 (xk3 (x1_3).num (x1_3).off (x1_3).cap hy1_12) <|
       zz 49 (lk4 hy1_13 (toNatLt hy1_12)) <|
       yy 51 (.call (C_viewportref01Hasq1 (y1_13_.1) (y1_13_.2.1) (y1_13_.2.2.1) (y1_13_.2.2.2) x1_2 y1_14_ [] [])) <|
       ww (m_viewportref01Hasq1_ok n (y1_13_.1) (y1_13_.2.1) (y1_13_.2.2.1) (y1_13_.2.2.2) x1_2 y1_14_ hy1_14) <|
       k
      by_cases hy1_15 : y1_14_ = true
      ·rw [if_pos hy1_15] at h
       obtain rfl := oI h
       exact runC2 hm ⟨[1, 2, 3, 4, 9, 10, 11, 12], [(0, 0, false)], 1, 0, [], false, [], [], []⟩ (k0 <|
        k3 <|
        k6 <|
        k7 <|
        k12 <|
        yy 52 (vf) <|
        ww (p := (Value.bool (!y1_14_)) = (Value.bool false)) (vBn hy1_15) <|
        ee) (by kernel_rfl)
      ·rw [if_neg hy1_15] at h
       cases h
    ·rw [if_neg hy1_7] at h
     obtain ⟨hy1_8, h⟩ := gd h
     obtain ⟨y1_9_, hy1_9, h⟩ := oB h
     obtain ⟨y1_10_, hy1_10, h⟩ := oB h
     have k7 := fun {A L l} (k : PL A L l) => zz 27 (xdF hy1_7) <|
      zz 46 (xk5 (Nat.add (x1_8).num 64) (x1_8).off (x1_8).cap hy1_2) <|
      zz 47 (nk6 hy1_4 hy1_3) <|
      zz 48 (xk3 (x1_3).num (x1_3).off (x1_3).cap hy1_8) <|
      zz 49 (lk4 hy1_9 (toNatLt hy1_8)) <|
      yy 51 (.call (C_viewportref01Hasq1 (y1_9_.1) (y1_9_.2.1) (y1_9_.2.2.1) (y1_9_.2.2.2) x1_2 y1_10_ [] [])) <|
      ww (m_viewportref01Hasq1_ok n (y1_9_.1) (y1_9_.2.1) (y1_9_.2.2.1) (y1_9_.2.2.2) x1_2 y1_10_ hy1_10) <|
      k
     by_cases hy1_11 : y1_10_ = true
     ·rw [if_pos hy1_11] at h
      obtain rfl := oI h
      exact runC2 hm ⟨[1, 2, 3, 4, 9, 10, 11, 12], [(0, 0, false)], 1, 0, [], false, [], [], []⟩ (k0 <|
       k3 <|
       k6 <|
       k7 <|
       yy 52 (vf) <|
       ww (p := (Value.bool (!y1_10_)) = (Value.bool false)) (vBn hy1_11) <|
       ee) (by kernel_rfl)
     ·rw [if_neg hy1_11] at h
      cases h
 ·rw [if_neg hy1_1] at h
  obtain rfl := oI h
  exact runC2 hm ⟨[1, 2, 4, 9, 10, 11], [(0, 0, false)], 1, 0, [], false, [], [], []⟩ (zz 5 (xdF hy1_1) <|
   ee) (by kernel_rfl)
theorem m_viewportlaw03NfaSets_1_ok (n : Nat) {rnd : Option Nat} (x1_0 : NL) (x1_1 : NL) (x1_2 : Int) (x1_3 : WL rw_uuuu) (x1_4 : WL rw_L) (x1_5 : NL) (x1_6 : NL) (x1_7 : NL) (x1_8 : NL) (st : Int) (r : Unit) (h : m_viewportlaw03NfaSets_1 n x1_0 x1_1 x1_2 x1_3 x1_4 x1_5 x1_6 x1_7 x1_8 st = some r) : CG P rnd (fnN P 3) 0 (codeOf P 3 [false, true, false, true, true, true, true, true]) (S_viewportlaw03NfaSets_1 x1_0 x1_1 x1_2 x1_3 x1_4 x1_5 x1_6 x1_7 x1_8 st) (X_viewportlaw03NfaSets_1 x1_0 x1_1 x1_2 x1_3 x1_4 x1_5 x1_6 x1_7 x1_8 r) :=
 CG.iter (b := codeOf P 3 [false, false, true, false, true, true, true, true, true]) (by kernel_rfl) (body := B_viewportlaw03NfaSets_1 n x1_0 x1_1 x1_2 x1_3 x1_4 x1_5 x1_6 x1_7 x1_8) (S := S_viewportlaw03NfaSets_1 x1_0 x1_1 x1_2 x1_3 x1_4 x1_5 x1_6 x1_7 x1_8) (X := X_viewportlaw03NfaSets_1 x1_0 x1_1 x1_2 x1_3 x1_4 x1_5 x1_6 x1_7 x1_8)
  (fun s s' h => b_viewportlaw03NfaSets_1 n x1_0 x1_1 x1_2 x1_3 x1_4 x1_5 x1_6 x1_7 x1_8 s (.inl s') h)
  (fun s r h => b_viewportlaw03NfaSets_1 n x1_0 x1_1 x1_2 x1_3 x1_4 x1_5 x1_6 x1_7 x1_8 s (.inr r) h)
  (fun r => by intro hx; cases hx) h
def m_viewportlaw03NfaSets (n : Nat) (g02 : NL) (g1 : NL) (g2 : NL) (g3 : Int) : Option (Unit) :=
 (m_viewportlaw03lives n).bind fun _ =>
 (m_viewportkitLightNfaq1 n wA wB g02 40).bind fun c2_ =>
 if c2_ = true then
  if (((g1).l.length : Nat) : Int) > (40 : Int) then
   some ()
  else
   if (((g2).l.length : Nat) : Int) > (40 : Int) then
    some ()
   else
    (m_nfaCheckq1 n wA wB g02).bind fun c6_ =>
    if c6_ = (0 : Int) then
     (m_nfaStepq1 n wA wB g02 g1 g3).bind fun c8_ =>
     (m_nfaStepq1 n wA wB g02 g2 g3).bind fun c9_ =>
     match m_viewportkitOwnintq1 n g1 with
     | none => none
     | some (.inl _) =>
      if 0 < (g2).l.length then
       if (((([] : List Int) ++ (g1).l)).length + (g2).l.length) * 8 ≤ 140737488355328 then
        (m_nfaStepq2 n wA wB g02 ((([] : List Int) ++ (g1).l) ++ (g2).l) g3).bind fun c13_ =>
        (m_viewportlaw03NfaSets_1 n g1 g2 g3 wA wB g02 c8_ c9_ c13_ 0).bind fun _ =>
        (m_viewportlaw03NfaSets_2 n g1 g2 wA wB g02 c8_ c9_ c13_ (mNil, 0)).bind fun c15_ =>
        (m_viewportlaw03NfaSets_3 n g1 g2 wA wB g02 c9_ c13_ (c15_, 0)).bind fun c16_ =>
        (m_viewportlaw03NfaSets_4 n g1 g2 wA wB g02 c13_ c16_ 0).bind fun _ =>
        (m_nfaRuleq1 n wA wB g02 g1).bind fun c18_ =>
        (m_nfaRuleq1 n wA wB g02 g2).bind fun c19_ =>
        match m_viewportkitOwnintq1 n g1 with
        | none => none
        | some (.inl _) =>
         (m_nfaRuleq2 n wA wB g02 ((([] : List Int) ++ (g1).l) ++ (g2).l)).bind fun c21_ =>
         if c18_ < (0 : Int) then
          if ((mLen c16_ : Nat) : Int) = (((c13_).l.length : Nat) : Int) then
           if c21_ = c19_ then
            some ()
           else
            none
          else
           none
         else
          if c19_ ≥ (0 : Int) then
           if c19_ < c18_ then
            if ((mLen c16_ : Nat) : Int) = (((c13_).l.length : Nat) : Int) then
             if c21_ = c19_ then
              some ()
             else
              none
            else
             none
           else
            if ((mLen c16_ : Nat) : Int) = (((c13_).l.length : Nat) : Int) then
             if c21_ = c18_ then
              some ()
             else
              none
            else
             none
          else
           if ((mLen c16_ : Nat) : Int) = (((c13_).l.length : Nat) : Int) then
            if c21_ = c18_ then
             some ()
            else
             none
           else
            none
        | some (.inr _) =>
         if (0 + (g2).l.length) * 8 ≤ 140737488355328 then
          if 0 < 0 + (g2).l.length then
           (m_nfaRuleq2 n wA wB g02 (([] : List Int) ++ (g2).l)).bind fun c23_ =>
           if c18_ < (0 : Int) then
            if ((mLen c16_ : Nat) : Int) = (((c13_).l.length : Nat) : Int) then
             if c23_ = c19_ then
              some ()
             else
              none
            else
             none
           else
            if c19_ ≥ (0 : Int) then
             if c19_ < c18_ then
              if ((mLen c16_ : Nat) : Int) = (((c13_).l.length : Nat) : Int) then
               if c23_ = c19_ then
                some ()
               else
                none
              else
               none
             else
              if ((mLen c16_ : Nat) : Int) = (((c13_).l.length : Nat) : Int) then
               if c23_ = c18_ then
                some ()
               else
                none
              else
               none
            else
             if ((mLen c16_ : Nat) : Int) = (((c13_).l.length : Nat) : Int) then
              if c23_ = c18_ then
               some ()
              else
               none
             else
              none
          else none
         else none
       else none
      else
       if ((([] : List Int) ++ (g1).l)).length * 8 ≤ 140737488355328 then
        (m_nfaStepq2 n wA wB g02 (([] : List Int) ++ (g1).l) g3).bind fun c13_ =>
        (m_viewportlaw03NfaSets_1 n g1 g2 g3 wA wB g02 c8_ c9_ c13_ 0).bind fun _ =>
        (m_viewportlaw03NfaSets_2 n g1 g2 wA wB g02 c8_ c9_ c13_ (mNil, 0)).bind fun c15_ =>
        (m_viewportlaw03NfaSets_3 n g1 g2 wA wB g02 c9_ c13_ (c15_, 0)).bind fun c16_ =>
        (m_viewportlaw03NfaSets_4 n g1 g2 wA wB g02 c13_ c16_ 0).bind fun _ =>
        (m_nfaRuleq1 n wA wB g02 g1).bind fun c18_ =>
        (m_nfaRuleq1 n wA wB g02 g2).bind fun c19_ =>
        match m_viewportkitOwnintq1 n g1 with
        | none => none
        | some (.inl _) =>
         (m_nfaRuleq2 n wA wB g02 (([] : List Int) ++ (g1).l)).bind fun c21_ =>
         if c18_ < (0 : Int) then
          if ((mLen c16_ : Nat) : Int) = (((c13_).l.length : Nat) : Int) then
           if c21_ = c19_ then
            some ()
           else
            none
          else
           none
         else
          if c19_ ≥ (0 : Int) then
           if c19_ < c18_ then
            if ((mLen c16_ : Nat) : Int) = (((c13_).l.length : Nat) : Int) then
             if c21_ = c19_ then
              some ()
             else
              none
            else
             none
           else
            if ((mLen c16_ : Nat) : Int) = (((c13_).l.length : Nat) : Int) then
             if c21_ = c18_ then
              some ()
             else
              none
            else
             none
          else
           if ((mLen c16_ : Nat) : Int) = (((c13_).l.length : Nat) : Int) then
            if c21_ = c18_ then
             some ()
            else
             none
           else
            none
        | some (.inr _) =>
         (m_nfaRuleq3 n wA wB g02).bind fun _ =>
         if c18_ < (0 : Int) then
          if ((mLen c16_ : Nat) : Int) = (((c13_).l.length : Nat) : Int) then
           if (-1 : Int) = c19_ then
            some ()
           else
            none
          else
           none
         else
          if c19_ ≥ (0 : Int) then
           if c19_ < c18_ then
            if ((mLen c16_ : Nat) : Int) = (((c13_).l.length : Nat) : Int) then
             if (-1 : Int) = c19_ then
              some ()
             else
              none
            else
             none
           else
            if ((mLen c16_ : Nat) : Int) = (((c13_).l.length : Nat) : Int) then
             if (-1 : Int) = c18_ then
              some ()
             else
              none
            else
             none
          else
           if ((mLen c16_ : Nat) : Int) = (((c13_).l.length : Nat) : Int) then
            if (-1 : Int) = c18_ then
             some ()
            else
             none
           else
            none
       else none
     | some (.inr _) =>
      if 0 < (g2).l.length then
       if (0 + (g2).l.length) * 8 ≤ 140737488355328 then
        if 0 < 0 + (g2).l.length then
         (m_nfaStepq2 n wA wB g02 (([] : List Int) ++ (g2).l) g3).bind fun c14_ =>
         (m_viewportlaw03NfaSets_1 n g1 g2 g3 wA wB g02 c8_ c9_ c14_ 0).bind fun _ =>
         (m_viewportlaw03NfaSets_2 n g1 g2 wA wB g02 c8_ c9_ c14_ (mNil, 0)).bind fun c16_ =>
         (m_viewportlaw03NfaSets_3 n g1 g2 wA wB g02 c9_ c14_ (c16_, 0)).bind fun c17_ =>
         (m_viewportlaw03NfaSets_4 n g1 g2 wA wB g02 c14_ c17_ 0).bind fun _ =>
         (m_nfaRuleq1 n wA wB g02 g1).bind fun c19_ =>
         (m_nfaRuleq1 n wA wB g02 g2).bind fun c20_ =>
         match m_viewportkitOwnintq1 n g1 with
         | none => none
         | some (.inl _) =>
          if (((([] : List Int) ++ (g1).l)).length + (g2).l.length) * 8 ≤ 140737488355328 then
           (m_nfaRuleq2 n wA wB g02 ((([] : List Int) ++ (g1).l) ++ (g2).l)).bind fun c23_ =>
           if c19_ < (0 : Int) then
            if ((mLen c17_ : Nat) : Int) = (((c14_).l.length : Nat) : Int) then
             if c23_ = c20_ then
              some ()
             else
              none
            else
             none
           else
            if c20_ ≥ (0 : Int) then
             if c20_ < c19_ then
              if ((mLen c17_ : Nat) : Int) = (((c14_).l.length : Nat) : Int) then
               if c23_ = c20_ then
                some ()
               else
                none
              else
               none
             else
              if ((mLen c17_ : Nat) : Int) = (((c14_).l.length : Nat) : Int) then
               if c23_ = c19_ then
                some ()
               else
                none
              else
               none
            else
             if ((mLen c17_ : Nat) : Int) = (((c14_).l.length : Nat) : Int) then
              if c23_ = c19_ then
               some ()
              else
               none
             else
              none
          else none
         | some (.inr _) =>
          (m_nfaRuleq2 n wA wB g02 (([] : List Int) ++ (g2).l)).bind fun c22_ =>
          if c19_ < (0 : Int) then
           if ((mLen c17_ : Nat) : Int) = (((c14_).l.length : Nat) : Int) then
            if c22_ = c20_ then
             some ()
            else
             none
           else
            none
          else
           if c20_ ≥ (0 : Int) then
            if c20_ < c19_ then
             if ((mLen c17_ : Nat) : Int) = (((c14_).l.length : Nat) : Int) then
              if c22_ = c20_ then
               some ()
              else
               none
             else
              none
            else
             if ((mLen c17_ : Nat) : Int) = (((c14_).l.length : Nat) : Int) then
              if c22_ = c19_ then
               some ()
              else
               none
             else
              none
           else
            if ((mLen c17_ : Nat) : Int) = (((c14_).l.length : Nat) : Int) then
             if c22_ = c19_ then
              some ()
             else
              none
            else
             none
        else none
       else none
      else
       (m_nfaStepq3 n wA wB g02 g3).bind fun c12_ =>
       (m_viewportlaw03NfaSets_1 n g1 g2 g3 wA wB g02 c8_ c9_ c12_ 0).bind fun _ =>
       (m_viewportlaw03NfaSets_2 n g1 g2 wA wB g02 c8_ c9_ c12_ (mNil, 0)).bind fun c14_ =>
       (m_viewportlaw03NfaSets_3 n g1 g2 wA wB g02 c9_ c12_ (c14_, 0)).bind fun c15_ =>
       (m_viewportlaw03NfaSets_4 n g1 g2 wA wB g02 c12_ c15_ 0).bind fun _ =>
       (m_nfaRuleq1 n wA wB g02 g1).bind fun c17_ =>
       (m_nfaRuleq1 n wA wB g02 g2).bind fun c18_ =>
       match m_viewportkitOwnintq1 n g1 with
       | none => none
       | some (.inl _) =>
        if ((([] : List Int) ++ (g1).l)).length * 8 ≤ 140737488355328 then
         (m_nfaRuleq2 n wA wB g02 (([] : List Int) ++ (g1).l)).bind fun c21_ =>
         if c17_ < (0 : Int) then
          if ((mLen c15_ : Nat) : Int) = (((c12_).l.length : Nat) : Int) then
           if c21_ = c18_ then
            some ()
           else
            none
          else
           none
         else
          if c18_ ≥ (0 : Int) then
           if c18_ < c17_ then
            if ((mLen c15_ : Nat) : Int) = (((c12_).l.length : Nat) : Int) then
             if c21_ = c18_ then
              some ()
             else
              none
            else
             none
           else
            if ((mLen c15_ : Nat) : Int) = (((c12_).l.length : Nat) : Int) then
             if c21_ = c17_ then
              some ()
             else
              none
            else
             none
          else
           if ((mLen c15_ : Nat) : Int) = (((c12_).l.length : Nat) : Int) then
            if c21_ = c17_ then
             some ()
            else
             none
           else
            none
        else none
       | some (.inr _) =>
        (m_nfaRuleq3 n wA wB g02).bind fun _ =>
        if c17_ < (0 : Int) then
         if ((mLen c15_ : Nat) : Int) = (((c12_).l.length : Nat) : Int) then
          if (-1 : Int) = c18_ then
           some ()
          else
           none
         else
          none
        else
         if c18_ ≥ (0 : Int) then
          if c18_ < c17_ then
           if ((mLen c15_ : Nat) : Int) = (((c12_).l.length : Nat) : Int) then
            if (-1 : Int) = c18_ then
             some ()
            else
             none
           else
            none
          else
           if ((mLen c15_ : Nat) : Int) = (((c12_).l.length : Nat) : Int) then
            if (-1 : Int) = c17_ then
             some ()
            else
             none
           else
            none
         else
          if ((mLen c15_ : Nat) : Int) = (((c12_).l.length : Nat) : Int) then
           if (-1 : Int) = c17_ then
            some ()
           else
            none
          else
           none
    else
     some ()
 else
  some ()
theorem m_viewportlaw03NfaSets_ok (n : Nat) (g02 : NL) (g1 : NL) (g2 : NL) (g3 : Int) (r : Unit) (h : m_viewportlaw03NfaSets n g02 g1 g2 g3 = some r) : Gv P (.func 3) (A_viewportlaw03NfaSets g02 g1 g2 g3) (H_viewportlaw03NfaSets g02 g1 g2 g3) (V_viewportlaw03NfaSets g02 g1 g2 g3 r) (R_viewportlaw03NfaSets g02 g1 g2 g3 r) := by
 unfold m_viewportlaw03NfaSets at h
 obtain ⟨_, hc1, h⟩ := oB h
 obtain ⟨c2_, hc2, h⟩ := oB h
 have k0 := fun {A L l} (k : PL A L l) => yy 5 (.call ⟨0, [], (Value.bool true), Ax.h0, []⟩) <|
  ww (m_viewportlaw03lives_ok n  () hc1) <|
  yy 11 (.call (C_viewportkitLightNfaq1 wA wB g02 40 c2_ [] [])) <|
  ww (m_viewportkitLightNfaq1_ok n wA wB g02 40 c2_ hc2) <|
  k
 by_cases hc3 : c2_ = true
 ·rw [if_pos hc3] at h
  have k4 := fun {A L l} (k : PL A L l) => yy 12 (vf) <|
   ww (p := (Value.bool (!c2_)) = (Value.bool false)) (vBn hc3) <|
   k
  by_cases hc4 : (((g1).l.length : Nat) : Int) > (40 : Int)
  ·rw [if_pos hc4] at h
   obtain rfl := oI h
   exact runF2 hm ⟨[8], [], 0, 0, [], false, [], [], []⟩ (k0 <|
    k4 <|
    zz 16 (xdT hc4) <|
    ee) (by kernel_rfl)
  ·rw [if_neg hc4] at h
   have k6 := fun {A L l} (k : PL A L l) => zz 16 (xdF hc4) <|
    k
   by_cases hc5 : (((g2).l.length : Nat) : Int) > (40 : Int)
   ·rw [if_pos hc5] at h
    obtain rfl := oI h
    exact runF2 hm ⟨[8], [], 0, 0, [], false, [], [], []⟩ (k0 <|
     k4 <|
     k6 <|
     zz 21 (xdT hc5) <|
     ee) (by kernel_rfl)
   ·rw [if_neg hc5] at h
    obtain ⟨c6_, hc6, h⟩ := oB h
    have k7 := fun {A L l} (k : PL A L l) => zz 21 (xdF hc5) <|
     yy 25 (.call (C_nfaCheckq1 wA wB g02 c6_ [] [])) <|
     ww (m_nfaCheckq1_ok n wA wB g02 c6_ hc6) <|
     k
    by_cases hc7 : c6_ = (0 : Int)
    ·rw [if_pos hc7] at h
     obtain ⟨c8_, hc8, h⟩ := oB h
     obtain ⟨c9_, hc9, h⟩ := oB h
     have k10 := fun {A L l} (k : PL A L l) => zz 26 (xnF hc7) <|
      yy 33 (.call (C_nfaStepq1 wA wB g02 g1 g3 c8_ [] [])) <|
      ww (m_nfaStepq1_ok n wA wB g02 g1 g3 c8_ hc8) <|
      yy 37 (.call (C_nfaStepq1 wA wB g02 g2 g3 c9_ [] [])) <|
      ww (m_nfaStepq1_ok n wA wB g02 g2 g3 c9_ hc9) <|
      k
     rcases hc10 : m_viewportkitOwnintq1 n g1 with _ | (⟨⟩ | ⟨⟩)
     ·rw [hc10] at h; cases h
     ·rw [hc10] at h
      dsimp only at h
      have k15 := fun {A L l} (k : PL A L l) => yy 43 (.call (C_viewportkitOwnintq1 g1 (.inl ()) [] [(1, 0, true)])) <|
       ww (m_viewportkitOwnintq1_ok n g1 (.inl ()) hc10) <|
       ww (iv_flat (([] : List Int) ++ (g1).l) 3) <|
       k
      by_cases hc11 : 0 < (g2).l.length
      ·rw [if_pos hc11] at h
       obtain ⟨hc12, h⟩ := gd h
       obtain ⟨c13_, hc13, h⟩ := oB h
       obtain ⟨_, hc14, h⟩ := oB h
       obtain ⟨c15_, hc15, h⟩ := oB h
       obtain ⟨c16_, hc16, h⟩ := oB h
       obtain ⟨_, hc17, h⟩ := oB h
       obtain ⟨c18_, hc18, h⟩ := oB h
       obtain ⟨c19_, hc19, h⟩ := oB h
       have k18 := fun {A L l} (k : PL A L l) => ww (p := (g2).l.length = (g2).l.length) (rfl) <|
        ww (p := ((g2).l.length = 0 ∧ (iv (g2).l) = []) ∨ ∃ y, Tabs.win (Nat.add (g2).num 64) = some y ∧ rdL y.2.2 (Nat.mul (g2).l.length 1) (g2).off = some (iv (g2).l)) (srcN g2) <|
        yy 45 (.app ⟨some ((g2).l.length, (iv (g2).l)), iv (([] : List Int) ++ (g1).l), (iv ((([] : List Int) ++ (g1).l) ++ (g2).l)), (((([] : List Int) ++ (g1).l) ++ (g2).l)).length, false⟩) <|
        ww (p := 0 < (g2).l.length) (hc11) <|
        ww (p := rdT (layT (iv (([] : List Int) ++ (g1).l))) (Nat.mul ((([] : List Int) ++ (g1).l)).length 1) 0 = some (iv (([] : List Int) ++ (g1).l))) (iv_rd _) <|
        ww (p := fits (Nat.add ((([] : List Int) ++ (g1).l)).length (g2).l.length) 8 = true) (fits_ok hc12 (by have := hc12; show (_ : Nat) + _ ≤ _; omega)) <|
        ww (p := allCells (iv (g2).l) = true) (iv_cells _) <|
        ww (p := allCells (iv (([] : List Int) ++ (g1).l)) = true) (iv_cells _) <|
        ww (p := iv (([] : List Int) ++ (g1).l) ++ (iv (g2).l) = (iv ((([] : List Int) ++ (g1).l) ++ (g2).l))) (by simp [iv]) <|
        ww (p := Nat.add ((([] : List Int) ++ (g1).l)).length (g2).l.length = (((([] : List Int) ++ (g1).l) ++ (g2).l)).length) (by simp <;> (try simp only [List.length_cons] at *) <;> omega) <|
        yy 47 (.call (C_nfaStepq2 wA wB g02 ((([] : List Int) ++ (g1).l) ++ (g2).l) g3 c13_ [(0, 2, true)] [])) <|
        ww (m_nfaStepq2_ok n wA wB g02 ((([] : List Int) ++ (g1).l) ++ (g2).l) g3 c13_ hc13) <|
        ww (iv_flat ((([] : List Int) ++ (g1).l) ++ (g2).l) 3) <|
        ww (p := U_viewportlaw03NfaSets_1 none g1 g2 g3 wA wB g02 c8_ c9_ c13_ 0 ()) (m_viewportlaw03NfaSets_1_ok n g1 g2 g3 wA wB g02 c8_ c9_ c13_ 0 () hc14) <|
        ll 53 ⟨⟨[1, 2, 3, 4, 9, 10, 11, 12], [(0, 0, false)], 1, 0, [], false, [], [], []⟩, (X_viewportlaw03NfaSets_1 g1 g2 g3 wA wB g02 c8_ c9_ c13_ ()).1, (X_viewportlaw03NfaSets_1 g1 g2 g3 wA wB g02 c8_ c9_ c13_ ()).2⟩ <|
        ww (p := U_viewportlaw03NfaSets_2 none g1 g2 wA wB g02 c8_ c9_ c13_ (mNil, 0) c15_) (m_viewportlaw03NfaSets_2_ok n g1 g2 wA wB g02 c8_ c9_ c13_ (mNil, 0) c15_ hc15) <|
        ww (mflat mvI (fun _ => rfl) (mNil : MapI Int) (mLen (mNil : MapI Int))) <|
        ll 61 ⟨⟨[1, 2, 4, 9, 10, 11, 13, 14], [(0, 0, false), (1, 1, true)], 2, 0, [], false, [], [], []⟩, (X_viewportlaw03NfaSets_2 g1 g2 wA wB g02 c8_ c9_ c13_ c15_).1, (X_viewportlaw03NfaSets_2 g1 g2 wA wB g02 c8_ c9_ c13_ c15_).2⟩ <|
        ww (p := U_viewportlaw03NfaSets_3 none g1 g2 wA wB g02 c9_ c13_ (c15_, 0) c16_) (m_viewportlaw03NfaSets_3_ok n g1 g2 wA wB g02 c9_ c13_ (c15_, 0) c16_ hc16) <|
        ww (mflat mvI (fun _ => rfl) c15_ (mLen c15_)) <|
        ll 66 ⟨⟨[1, 2, 4, 10, 11, 13, 15], [(0, 0, false), (1, 1, true)], 2, 0, [], false, [], [], []⟩, (X_viewportlaw03NfaSets_3 g1 g2 wA wB g02 c9_ c13_ c16_).1, (X_viewportlaw03NfaSets_3 g1 g2 wA wB g02 c9_ c13_ c16_).2⟩ <|
        ww (p := U_viewportlaw03NfaSets_4 none g1 g2 wA wB g02 c13_ c16_ 0 ()) (m_viewportlaw03NfaSets_4_ok n g1 g2 wA wB g02 c13_ c16_ 0 () hc17) <|
        ww (mflat mvI (fun _ => rfl) c16_ (mLen c16_)) <|
        ll 71 ⟨⟨[1, 2, 4, 11, 13, 16], [(0, 0, false), (1, 1, true)], 2, 0, [], false, [], [], []⟩, (X_viewportlaw03NfaSets_4 g1 g2 wA wB g02 c13_ c16_ ()).1, (X_viewportlaw03NfaSets_4 g1 g2 wA wB g02 c13_ c16_ ()).2⟩ <|
        yy 75 (.call (C_nfaRuleq1 wA wB g02 g1 c18_ [] [])) <|
        ww (m_nfaRuleq1_ok n wA wB g02 g1 c18_ hc18) <|
        yy 78 (.call (C_nfaRuleq1 wA wB g02 g2 c19_ [] [])) <|
        ww (m_nfaRuleq1_ok n wA wB g02 g2 c19_ hc19) <|
        k
       rcases hc20 : m_viewportkitOwnintq1 n g1 with _ | (⟨⟩ | ⟨⟩)
       ·cases hc10.symm.trans hc20
       ·obtain ⟨c21_, hc21, h⟩ := oB h
        have k46 := fun {A L l} (k : PL A L l) => yy 81 (.call (C_viewportkitOwnintq1 g1 (.inl ()) [] [(2, 0, true)])) <|
         ww (m_viewportkitOwnintq1_ok n g1 (.inl ()) hc20) <|
         ww (iv_flat (([] : List Int) ++ (g1).l) 3) <|
         ww (p := (g2).l.length = (g2).l.length) (rfl) <|
         ww (p := ((g2).l.length = 0 ∧ (iv (g2).l) = []) ∨ ∃ y, Tabs.win (Nat.add (g2).num 64) = some y ∧ rdL y.2.2 (Nat.mul (g2).l.length 1) (g2).off = some (iv (g2).l)) (srcN g2) <|
         yy 83 (.app ⟨some ((g2).l.length, (iv (g2).l)), iv (([] : List Int) ++ (g1).l), (iv ((([] : List Int) ++ (g1).l) ++ (g2).l)), (((([] : List Int) ++ (g1).l) ++ (g2).l)).length, false⟩) <|
         ww (p := 0 < (g2).l.length) (hc11) <|
         ww (p := rdT (layT (iv (([] : List Int) ++ (g1).l))) (Nat.mul ((([] : List Int) ++ (g1).l)).length 1) 0 = some (iv (([] : List Int) ++ (g1).l))) (iv_rd _) <|
         ww (p := fits (Nat.add ((([] : List Int) ++ (g1).l)).length (g2).l.length) 8 = true) (fits_ok hc12 (by have := hc12; show (_ : Nat) + _ ≤ _; omega)) <|
         ww (p := allCells (iv (g2).l) = true) (iv_cells _) <|
         ww (p := allCells (iv (([] : List Int) ++ (g1).l)) = true) (iv_cells _) <|
         ww (p := iv (([] : List Int) ++ (g1).l) ++ (iv (g2).l) = (iv ((([] : List Int) ++ (g1).l) ++ (g2).l))) (by simp [iv]) <|
         ww (p := Nat.add ((([] : List Int) ++ (g1).l)).length (g2).l.length = (((([] : List Int) ++ (g1).l) ++ (g2).l)).length) (by simp <;> (try simp only [List.length_cons] at *) <;> omega) <|
         yy 84 (.call (C_nfaRuleq2 wA wB g02 ((([] : List Int) ++ (g1).l) ++ (g2).l) c21_ [(0, 3, true)] [])) <|
         ww (m_nfaRuleq2_ok n wA wB g02 ((([] : List Int) ++ (g1).l) ++ (g2).l) c21_ hc21) <|
         ww (iv_flat ((([] : List Int) ++ (g1).l) ++ (g2).l) 3) <|
         k
        by_cases hc22 : c18_ < (0 : Int)
        ·rw [if_pos hc22] at h
         have k62 := fun {A L l} (k : PL A L l) => zz 94 (xdT hc22) <|
          yy 109 (.val (i6 ((mLen c16_ : Nat) : Int))) <|
          ww (p := (Value.int .i64 (.ofNat (mEs mvI c16_).length)) = ((i6 ((mLen c16_ : Nat) : Int)))) (mLen_ok mvI c16_) <|
          k
         by_cases hc23 : ((mLen c16_ : Nat) : Int) = (((c13_).l.length : Nat) : Int)
         ·rw [if_pos hc23] at h
          have k65 := fun {A L l} (k : PL A L l) => zz 112 (xeT hc23) <|
           k
          by_cases hc24 : c21_ = c19_
          ·rw [if_pos hc24] at h
           obtain rfl := oI h
           exact runF2 hm ⟨[8], [], 0, 0, [], false, [], [], []⟩ (k0 <|
            k4 <|
            k6 <|
            k7 <|
            k10 <|
            k15 <|
            k18 <|
            k46 <|
            k62 <|
            k65 <|
            zz 116 (xeT hc24) <|
            ee) (by kernel_rfl)
          ·rw [if_neg hc24] at h
           cases h
         ·rw [if_neg hc23] at h
          cases h
        ·rw [if_neg hc22] at h
         have k62 := fun {A L l} (k : PL A L l) => zz 94 (xdF hc22) <|
          k
         by_cases hc23 : c19_ ≥ (0 : Int)
         ·rw [if_pos hc23] at h
          have k63 := fun {A L l} (k : PL A L l) => zz 97 (xdT hc23) <|
           k
          by_cases hc24 : c19_ < c18_
          ·rw [if_pos hc24] at h
           have k64 := fun {A L l} (k : PL A L l) => zz 101 (xdT hc24) <|
            yy 109 (.val (i6 ((mLen c16_ : Nat) : Int))) <|
            ww (p := (Value.int .i64 (.ofNat (mEs mvI c16_).length)) = ((i6 ((mLen c16_ : Nat) : Int)))) (mLen_ok mvI c16_) <|
            k
           by_cases hc25 : ((mLen c16_ : Nat) : Int) = (((c13_).l.length : Nat) : Int)
           ·rw [if_pos hc25] at h
            have k67 := fun {A L l} (k : PL A L l) => zz 112 (xeT hc25) <|
             k
            by_cases hc26 : c21_ = c19_
            ·rw [if_pos hc26] at h
             obtain rfl := oI h
             exact runF2 hm ⟨[8], [], 0, 0, [], false, [], [], []⟩ (k0 <|
              k4 <|
              k6 <|
              k7 <|
              k10 <|
              k15 <|
              k18 <|
              k46 <|
              k62 <|
              k63 <|
              k64 <|
              k67 <|
              zz 116 (xeT hc26) <|
              ee) (by kernel_rfl)
            ·rw [if_neg hc26] at h
             cases h
           ·rw [if_neg hc25] at h
            cases h
          ·rw [if_neg hc24] at h
           have k64 := fun {A L l} (k : PL A L l) => zz 101 (xdF hc24) <|
            yy 107 (.val (i6 ((mLen c16_ : Nat) : Int))) <|
            ww (p := (Value.int .i64 (.ofNat (mEs mvI c16_).length)) = ((i6 ((mLen c16_ : Nat) : Int)))) (mLen_ok mvI c16_) <|
            k
           by_cases hc25 : ((mLen c16_ : Nat) : Int) = (((c13_).l.length : Nat) : Int)
           ·rw [if_pos hc25] at h
            have k67 := fun {A L l} (k : PL A L l) => zz 110 (xeT hc25) <|
             k
            by_cases hc26 : c21_ = c18_
            ·rw [if_pos hc26] at h
             obtain rfl := oI h
             exact runF2 hm ⟨[8], [], 0, 0, [], false, [], [], []⟩ (k0 <|
              k4 <|
              k6 <|
              k7 <|
              k10 <|
              k15 <|
              k18 <|
              k46 <|
              k62 <|
              k63 <|
              k64 <|
              k67 <|
              zz 114 (xeT hc26) <|
              ee) (by kernel_rfl)
            ·rw [if_neg hc26] at h
             cases h
           ·rw [if_neg hc25] at h
            cases h
         ·rw [if_neg hc23] at h
          have k63 := fun {A L l} (k : PL A L l) => zz 97 (xdF hc23) <|
           yy 107 (.val (i6 ((mLen c16_ : Nat) : Int))) <|
           ww (p := (Value.int .i64 (.ofNat (mEs mvI c16_).length)) = ((i6 ((mLen c16_ : Nat) : Int)))) (mLen_ok mvI c16_) <|
           k
          by_cases hc24 : ((mLen c16_ : Nat) : Int) = (((c13_).l.length : Nat) : Int)
          ·rw [if_pos hc24] at h
           have k66 := fun {A L l} (k : PL A L l) => zz 110 (xeT hc24) <|
            k
           by_cases hc25 : c21_ = c18_
           ·rw [if_pos hc25] at h
            obtain rfl := oI h
            exact runF2 hm ⟨[8], [], 0, 0, [], false, [], [], []⟩ (k0 <|
             k4 <|
             k6 <|
             k7 <|
             k10 <|
             k15 <|
             k18 <|
             k46 <|
             k62 <|
             k63 <|
             k66 <|
             zz 114 (xeT hc25) <|
             ee) (by kernel_rfl)
           ·rw [if_neg hc25] at h
            cases h
          ·rw [if_neg hc24] at h
           cases h
       ·cases hc10.symm.trans hc20
      ·rw [if_neg hc11] at h
       obtain ⟨hc12, h⟩ := gd h
       obtain ⟨c13_, hc13, h⟩ := oB h
       obtain ⟨_, hc14, h⟩ := oB h
       obtain ⟨c15_, hc15, h⟩ := oB h
       obtain ⟨c16_, hc16, h⟩ := oB h
       obtain ⟨_, hc17, h⟩ := oB h
       obtain ⟨c18_, hc18, h⟩ := oB h
       obtain ⟨c19_, hc19, h⟩ := oB h
       have k18 := fun {A L l} (k : PL A L l) => yy 45 (.app0) <|
        ww (p := 0 = (g2).l.length) ((by have := hc11; omega)) <|
        ww (p := ((g2).l.length = 0 ∧ ([] : List Value) = []) ∨ ∃ y, Tabs.win (Nat.add (g2).num 64) = some y ∧ rdL y.2.2 (Nat.mul (g2).l.length 1) (g2).off = some ([] : List Value)) (.inl ⟨(by have := hc11; omega), rfl⟩) <|
        ww (p := ∀ H : AH, appTop H 1 3 8 (0, []) (sN 1 0 ((([] : List Int) ++ (g1).l)).length (Nat.add big 1)) = some ((sN 1 0 ((([] : List Int) ++ (g1).l)).length (Nat.add big 1)), H)) (fun H => top0 (by decide) (by have := hc12; show (_ : Nat) ≤ 1180591620717411303424 + 1; omega) H) <|
        yy 47 (.call (C_nfaStepq2 wA wB g02 (([] : List Int) ++ (g1).l) g3 c13_ [(0, 1, true)] [])) <|
        ww (m_nfaStepq2_ok n wA wB g02 (([] : List Int) ++ (g1).l) g3 c13_ hc13) <|
        ww (iv_flat (([] : List Int) ++ (g1).l) 3) <|
        ww (p := U_viewportlaw03NfaSets_1 none g1 g2 g3 wA wB g02 c8_ c9_ c13_ 0 ()) (m_viewportlaw03NfaSets_1_ok n g1 g2 g3 wA wB g02 c8_ c9_ c13_ 0 () hc14) <|
        ll 53 ⟨⟨[1, 2, 3, 4, 9, 10, 11, 12], [(0, 0, false)], 1, 0, [], false, [], [], []⟩, (X_viewportlaw03NfaSets_1 g1 g2 g3 wA wB g02 c8_ c9_ c13_ ()).1, (X_viewportlaw03NfaSets_1 g1 g2 g3 wA wB g02 c8_ c9_ c13_ ()).2⟩ <|
        ww (p := U_viewportlaw03NfaSets_2 none g1 g2 wA wB g02 c8_ c9_ c13_ (mNil, 0) c15_) (m_viewportlaw03NfaSets_2_ok n g1 g2 wA wB g02 c8_ c9_ c13_ (mNil, 0) c15_ hc15) <|
        ww (mflat mvI (fun _ => rfl) (mNil : MapI Int) (mLen (mNil : MapI Int))) <|
        ll 61 ⟨⟨[1, 2, 4, 9, 10, 11, 13, 14], [(0, 0, false), (1, 1, true)], 2, 0, [], false, [], [], []⟩, (X_viewportlaw03NfaSets_2 g1 g2 wA wB g02 c8_ c9_ c13_ c15_).1, (X_viewportlaw03NfaSets_2 g1 g2 wA wB g02 c8_ c9_ c13_ c15_).2⟩ <|
        ww (p := U_viewportlaw03NfaSets_3 none g1 g2 wA wB g02 c9_ c13_ (c15_, 0) c16_) (m_viewportlaw03NfaSets_3_ok n g1 g2 wA wB g02 c9_ c13_ (c15_, 0) c16_ hc16) <|
        ww (mflat mvI (fun _ => rfl) c15_ (mLen c15_)) <|
        ll 66 ⟨⟨[1, 2, 4, 10, 11, 13, 15], [(0, 0, false), (1, 1, true)], 2, 0, [], false, [], [], []⟩, (X_viewportlaw03NfaSets_3 g1 g2 wA wB g02 c9_ c13_ c16_).1, (X_viewportlaw03NfaSets_3 g1 g2 wA wB g02 c9_ c13_ c16_).2⟩ <|
        ww (p := U_viewportlaw03NfaSets_4 none g1 g2 wA wB g02 c13_ c16_ 0 ()) (m_viewportlaw03NfaSets_4_ok n g1 g2 wA wB g02 c13_ c16_ 0 () hc17) <|
        ww (mflat mvI (fun _ => rfl) c16_ (mLen c16_)) <|
        ll 71 ⟨⟨[1, 2, 4, 11, 13, 16], [(0, 0, false), (1, 1, true)], 2, 0, [], false, [], [], []⟩, (X_viewportlaw03NfaSets_4 g1 g2 wA wB g02 c13_ c16_ ()).1, (X_viewportlaw03NfaSets_4 g1 g2 wA wB g02 c13_ c16_ ()).2⟩ <|
        yy 75 (.call (C_nfaRuleq1 wA wB g02 g1 c18_ [] [])) <|
        ww (m_nfaRuleq1_ok n wA wB g02 g1 c18_ hc18) <|
        yy 78 (.call (C_nfaRuleq1 wA wB g02 g2 c19_ [] [])) <|
        ww (m_nfaRuleq1_ok n wA wB g02 g2 c19_ hc19) <|
        k
       rcases hc20 : m_viewportkitOwnintq1 n g1 with _ | (⟨⟩ | ⟨⟩)
       ·cases hc10.symm.trans hc20
       ·obtain ⟨c21_, hc21, h⟩ := oB h
        have k40 := fun {A L l} (k : PL A L l) => yy 81 (.call (C_viewportkitOwnintq1 g1 (.inl ()) [] [(2, 0, true)])) <|
         ww (m_viewportkitOwnintq1_ok n g1 (.inl ()) hc20) <|
         ww (iv_flat (([] : List Int) ++ (g1).l) 3) <|
         yy 83 (.app0) <|
         ww (p := 0 = (g2).l.length) ((by have := hc11; omega)) <|
         ww (p := ((g2).l.length = 0 ∧ ([] : List Value) = []) ∨ ∃ y, Tabs.win (Nat.add (g2).num 64) = some y ∧ rdL y.2.2 (Nat.mul (g2).l.length 1) (g2).off = some ([] : List Value)) (.inl ⟨(by have := hc11; omega), rfl⟩) <|
         ww (p := ∀ H : AH, appTop H 1 3 8 (0, []) (sN 2 0 ((([] : List Int) ++ (g1).l)).length (Nat.add big 1)) = some ((sN 2 0 ((([] : List Int) ++ (g1).l)).length (Nat.add big 1)), H)) (fun H => top0 (by decide) (by have := hc12; show (_ : Nat) ≤ 1180591620717411303424 + 1; omega) H) <|
         yy 84 (.call (C_nfaRuleq2 wA wB g02 (([] : List Int) ++ (g1).l) c21_ [(0, 2, true)] [])) <|
         ww (m_nfaRuleq2_ok n wA wB g02 (([] : List Int) ++ (g1).l) c21_ hc21) <|
         ww (iv_flat (([] : List Int) ++ (g1).l) 3) <|
         k
        by_cases hc22 : c18_ < (0 : Int)
        ·rw [if_pos hc22] at h
         have k50 := fun {A L l} (k : PL A L l) => zz 94 (xdT hc22) <|
          yy 109 (.val (i6 ((mLen c16_ : Nat) : Int))) <|
          ww (p := (Value.int .i64 (.ofNat (mEs mvI c16_).length)) = ((i6 ((mLen c16_ : Nat) : Int)))) (mLen_ok mvI c16_) <|
          k
         by_cases hc23 : ((mLen c16_ : Nat) : Int) = (((c13_).l.length : Nat) : Int)
         ·rw [if_pos hc23] at h
          have k53 := fun {A L l} (k : PL A L l) => zz 112 (xeT hc23) <|
           k
          by_cases hc24 : c21_ = c19_
          ·rw [if_pos hc24] at h
           obtain rfl := oI h
           exact runF2 hm ⟨[8], [], 0, 0, [], false, [], [], []⟩ (k0 <|
            k4 <|
            k6 <|
            k7 <|
            k10 <|
            k15 <|
            k18 <|
            k40 <|
            k50 <|
            k53 <|
            zz 116 (xeT hc24) <|
            ee) (by kernel_rfl)
          ·rw [if_neg hc24] at h
           cases h
         ·rw [if_neg hc23] at h
          cases h
        ·rw [if_neg hc22] at h
         have k50 := fun {A L l} (k : PL A L l) => zz 94 (xdF hc22) <|
          k
         by_cases hc23 : c19_ ≥ (0 : Int)
         ·rw [if_pos hc23] at h
          have k51 := fun {A L l} (k : PL A L l) => zz 97 (xdT hc23) <|
           k
          by_cases hc24 : c19_ < c18_
          ·rw [if_pos hc24] at h
           have k52 := fun {A L l} (k : PL A L l) => zz 101 (xdT hc24) <|
            yy 109 (.val (i6 ((mLen c16_ : Nat) : Int))) <|
            ww (p := (Value.int .i64 (.ofNat (mEs mvI c16_).length)) = ((i6 ((mLen c16_ : Nat) : Int)))) (mLen_ok mvI c16_) <|
            k
           by_cases hc25 : ((mLen c16_ : Nat) : Int) = (((c13_).l.length : Nat) : Int)
           ·rw [if_pos hc25] at h
            have k55 := fun {A L l} (k : PL A L l) => zz 112 (xeT hc25) <|
             k
            by_cases hc26 : c21_ = c19_
            ·rw [if_pos hc26] at h
             obtain rfl := oI h
             exact runF2 hm ⟨[8], [], 0, 0, [], false, [], [], []⟩ (k0 <|
              k4 <|
              k6 <|
              k7 <|
              k10 <|
              k15 <|
              k18 <|
              k40 <|
              k50 <|
              k51 <|
              k52 <|
              k55 <|
              zz 116 (xeT hc26) <|
              ee) (by kernel_rfl)
            ·rw [if_neg hc26] at h
             cases h
           ·rw [if_neg hc25] at h
            cases h
          ·rw [if_neg hc24] at h
           have k52 := fun {A L l} (k : PL A L l) => zz 101 (xdF hc24) <|
            yy 107 (.val (i6 ((mLen c16_ : Nat) : Int))) <|
            ww (p := (Value.int .i64 (.ofNat (mEs mvI c16_).length)) = ((i6 ((mLen c16_ : Nat) : Int)))) (mLen_ok mvI c16_) <|
            k
           by_cases hc25 : ((mLen c16_ : Nat) : Int) = (((c13_).l.length : Nat) : Int)
           ·rw [if_pos hc25] at h
            have k55 := fun {A L l} (k : PL A L l) => zz 110 (xeT hc25) <|
             k
            by_cases hc26 : c21_ = c18_
            ·rw [if_pos hc26] at h
             obtain rfl := oI h
             exact runF2 hm ⟨[8], [], 0, 0, [], false, [], [], []⟩ (k0 <|
              k4 <|
              k6 <|
              k7 <|
              k10 <|
              k15 <|
              k18 <|
              k40 <|
              k50 <|
              k51 <|
              k52 <|
              k55 <|
              zz 114 (xeT hc26) <|
              ee) (by kernel_rfl)
            ·rw [if_neg hc26] at h
             cases h
           ·rw [if_neg hc25] at h
            cases h
         ·rw [if_neg hc23] at h
          have k51 := fun {A L l} (k : PL A L l) => zz 97 (xdF hc23) <|
           yy 107 (.val (i6 ((mLen c16_ : Nat) : Int))) <|
           ww (p := (Value.int .i64 (.ofNat (mEs mvI c16_).length)) = ((i6 ((mLen c16_ : Nat) : Int)))) (mLen_ok mvI c16_) <|
           k
          by_cases hc24 : ((mLen c16_ : Nat) : Int) = (((c13_).l.length : Nat) : Int)
          ·rw [if_pos hc24] at h
           have k54 := fun {A L l} (k : PL A L l) => zz 110 (xeT hc24) <|
            k
           by_cases hc25 : c21_ = c18_
           ·rw [if_pos hc25] at h
            obtain rfl := oI h
            exact runF2 hm ⟨[8], [], 0, 0, [], false, [], [], []⟩ (k0 <|
             k4 <|
             k6 <|
             k7 <|
             k10 <|
             k15 <|
             k18 <|
             k40 <|
             k50 <|
             k51 <|
             k54 <|
             zz 114 (xeT hc25) <|
             ee) (by kernel_rfl)
           ·rw [if_neg hc25] at h
            cases h
          ·rw [if_neg hc24] at h
           cases h
       ·cases hc10.symm.trans hc20
     ·rw [hc10] at h
      dsimp only at h
      have k15 := fun {A L l} (k : PL A L l) => yy 43 (.call (C_viewportkitOwnintq1 g1 (.inr ()) [] [(1, 0, false)])) <|
       ww (m_viewportkitOwnintq1_ok n g1 (.inr ()) hc10) <|
       k
      by_cases hc11 : 0 < (g2).l.length
      ·rw [if_pos hc11] at h
       obtain ⟨hc12, h⟩ := gd h
       obtain ⟨hc13, h⟩ := gd h
       obtain ⟨c14_, hc14, h⟩ := oB h
       obtain ⟨_, hc15, h⟩ := oB h
       obtain ⟨c16_, hc16, h⟩ := oB h
       obtain ⟨c17_, hc17, h⟩ := oB h
       obtain ⟨_, hc18, h⟩ := oB h
       obtain ⟨c19_, hc19, h⟩ := oB h
       obtain ⟨c20_, hc20, h⟩ := oB h
       have k17 := fun {A L l} (k : PL A L l) => ww (p := (g2).l.length = (g2).l.length) (rfl) <|
        ww (p := ((g2).l.length = 0 ∧ (iv (g2).l) = []) ∨ ∃ y, Tabs.win (Nat.add (g2).num 64) = some y ∧ rdL y.2.2 (Nat.mul (g2).l.length 1) (g2).off = some (iv (g2).l)) (srcN g2) <|
        yy 45 (.app ⟨some ((g2).l.length, (iv (g2).l)), ([] : List Value), (iv (([] : List Int) ++ (g2).l)), ((([] : List Int) ++ (g2).l)).length, true⟩) <|
        ww (p := 0 < (g2).l.length) (hc11) <|
        ww (p := 0 < big) ((by decide)) <|
        ww (p := 0 < Nat.add 0 (g2).l.length) (hc13) <|
        ww (p := rdT (layT ([] : List Value)) (Nat.mul 0 1) 0 = some (([] : List Value))) (rfl) <|
        ww (p := fits (Nat.add 0 (g2).l.length) 8 = true) (fits_ok hc12 (by have := hc12; show (_ : Nat) + _ ≤ _; omega)) <|
        ww (p := ([] : List Value) ++ (iv (g2).l) = (iv (([] : List Int) ++ (g2).l))) (by simp [iv]) <|
        ww (p := Nat.add 0 (g2).l.length = ((([] : List Int) ++ (g2).l)).length) (by simp <;> (try simp only [List.length_cons] at *) <;> omega) <|
        yy 47 (.call (C_nfaStepq2 wA wB g02 (([] : List Int) ++ (g2).l) g3 c14_ [(0, 2, true)] [])) <|
        ww (m_nfaStepq2_ok n wA wB g02 (([] : List Int) ++ (g2).l) g3 c14_ hc14) <|
        ww (iv_flat (([] : List Int) ++ (g2).l) 3) <|
        ww (p := U_viewportlaw03NfaSets_1 none g1 g2 g3 wA wB g02 c8_ c9_ c14_ 0 ()) (m_viewportlaw03NfaSets_1_ok n g1 g2 g3 wA wB g02 c8_ c9_ c14_ 0 () hc15) <|
        ll 53 ⟨⟨[1, 2, 3, 4, 9, 10, 11, 12], [(0, 0, false)], 1, 0, [], false, [], [], []⟩, (X_viewportlaw03NfaSets_1 g1 g2 g3 wA wB g02 c8_ c9_ c14_ ()).1, (X_viewportlaw03NfaSets_1 g1 g2 g3 wA wB g02 c8_ c9_ c14_ ()).2⟩ <|
        ww (p := U_viewportlaw03NfaSets_2 none g1 g2 wA wB g02 c8_ c9_ c14_ (mNil, 0) c16_) (m_viewportlaw03NfaSets_2_ok n g1 g2 wA wB g02 c8_ c9_ c14_ (mNil, 0) c16_ hc16) <|
        ww (mflat mvI (fun _ => rfl) (mNil : MapI Int) (mLen (mNil : MapI Int))) <|
        ll 61 ⟨⟨[1, 2, 4, 9, 10, 11, 13, 14], [(0, 0, false), (1, 1, true)], 2, 0, [], false, [], [], []⟩, (X_viewportlaw03NfaSets_2 g1 g2 wA wB g02 c8_ c9_ c14_ c16_).1, (X_viewportlaw03NfaSets_2 g1 g2 wA wB g02 c8_ c9_ c14_ c16_).2⟩ <|
        ww (p := U_viewportlaw03NfaSets_3 none g1 g2 wA wB g02 c9_ c14_ (c16_, 0) c17_) (m_viewportlaw03NfaSets_3_ok n g1 g2 wA wB g02 c9_ c14_ (c16_, 0) c17_ hc17) <|
        ww (mflat mvI (fun _ => rfl) c16_ (mLen c16_)) <|
        ll 66 ⟨⟨[1, 2, 4, 10, 11, 13, 15], [(0, 0, false), (1, 1, true)], 2, 0, [], false, [], [], []⟩, (X_viewportlaw03NfaSets_3 g1 g2 wA wB g02 c9_ c14_ c17_).1, (X_viewportlaw03NfaSets_3 g1 g2 wA wB g02 c9_ c14_ c17_).2⟩ <|
        ww (p := U_viewportlaw03NfaSets_4 none g1 g2 wA wB g02 c14_ c17_ 0 ()) (m_viewportlaw03NfaSets_4_ok n g1 g2 wA wB g02 c14_ c17_ 0 () hc18) <|
        ww (mflat mvI (fun _ => rfl) c17_ (mLen c17_)) <|
        ll 71 ⟨⟨[1, 2, 4, 11, 13, 16], [(0, 0, false), (1, 1, true)], 2, 0, [], false, [], [], []⟩, (X_viewportlaw03NfaSets_4 g1 g2 wA wB g02 c14_ c17_ ()).1, (X_viewportlaw03NfaSets_4 g1 g2 wA wB g02 c14_ c17_ ()).2⟩ <|
        yy 75 (.call (C_nfaRuleq1 wA wB g02 g1 c19_ [] [])) <|
        ww (m_nfaRuleq1_ok n wA wB g02 g1 c19_ hc19) <|
        yy 78 (.call (C_nfaRuleq1 wA wB g02 g2 c20_ [] [])) <|
        ww (m_nfaRuleq1_ok n wA wB g02 g2 c20_ hc20) <|
        k
       rcases hc21 : m_viewportkitOwnintq1 n g1 with _ | (⟨⟩ | ⟨⟩)
       ·cases hc10.symm.trans hc21
       ·cases hc10.symm.trans hc21
       ·obtain ⟨c22_, hc22, h⟩ := oB h
        have k45 := fun {A L l} (k : PL A L l) => yy 81 (.call (C_viewportkitOwnintq1 g1 (.inr ()) [] [(2, 0, false)])) <|
         ww (m_viewportkitOwnintq1_ok n g1 (.inr ()) hc21) <|
         ww (p := (g2).l.length = (g2).l.length) (rfl) <|
         ww (p := ((g2).l.length = 0 ∧ (iv (g2).l) = []) ∨ ∃ y, Tabs.win (Nat.add (g2).num 64) = some y ∧ rdL y.2.2 (Nat.mul (g2).l.length 1) (g2).off = some (iv (g2).l)) (srcN g2) <|
         yy 83 (.app ⟨some ((g2).l.length, (iv (g2).l)), ([] : List Value), (iv (([] : List Int) ++ (g2).l)), ((([] : List Int) ++ (g2).l)).length, true⟩) <|
         ww (p := 0 < (g2).l.length) (hc11) <|
         ww (p := 0 < big) ((by decide)) <|
         ww (p := 0 < Nat.add 0 (g2).l.length) (hc13) <|
         ww (p := rdT (layT ([] : List Value)) (Nat.mul 0 1) 0 = some (([] : List Value))) (rfl) <|
         ww (p := fits (Nat.add 0 (g2).l.length) 8 = true) (fits_ok hc12 (by have := hc12; show (_ : Nat) + _ ≤ _; omega)) <|
         ww (p := ([] : List Value) ++ (iv (g2).l) = (iv (([] : List Int) ++ (g2).l))) (by simp [iv]) <|
         ww (p := Nat.add 0 (g2).l.length = ((([] : List Int) ++ (g2).l)).length) (by simp <;> (try simp only [List.length_cons] at *) <;> omega) <|
         yy 84 (.call (C_nfaRuleq2 wA wB g02 (([] : List Int) ++ (g2).l) c22_ [(0, 3, true)] [])) <|
         ww (m_nfaRuleq2_ok n wA wB g02 (([] : List Int) ++ (g2).l) c22_ hc22) <|
         ww (iv_flat (([] : List Int) ++ (g2).l) 3) <|
         k
        by_cases hc23 : c19_ < (0 : Int)
        ·rw [if_pos hc23] at h
         have k60 := fun {A L l} (k : PL A L l) => zz 94 (xdT hc23) <|
          yy 109 (.val (i6 ((mLen c17_ : Nat) : Int))) <|
          ww (p := (Value.int .i64 (.ofNat (mEs mvI c17_).length)) = ((i6 ((mLen c17_ : Nat) : Int)))) (mLen_ok mvI c17_) <|
          k
         by_cases hc24 : ((mLen c17_ : Nat) : Int) = (((c14_).l.length : Nat) : Int)
         ·rw [if_pos hc24] at h
          have k63 := fun {A L l} (k : PL A L l) => zz 112 (xeT hc24) <|
           k
          by_cases hc25 : c22_ = c20_
          ·rw [if_pos hc25] at h
           obtain rfl := oI h
           exact runF2 hm ⟨[8], [], 0, 0, [], false, [], [], []⟩ (k0 <|
            k4 <|
            k6 <|
            k7 <|
            k10 <|
            k15 <|
            k17 <|
            k45 <|
            k60 <|
            k63 <|
            zz 116 (xeT hc25) <|
            ee) (by kernel_rfl)
          ·rw [if_neg hc25] at h
           cases h
         ·rw [if_neg hc24] at h
          cases h
        ·rw [if_neg hc23] at h
         have k60 := fun {A L l} (k : PL A L l) => zz 94 (xdF hc23) <|
          k
         by_cases hc24 : c20_ ≥ (0 : Int)
         ·rw [if_pos hc24] at h
          have k61 := fun {A L l} (k : PL A L l) => zz 97 (xdT hc24) <|
           k
          by_cases hc25 : c20_ < c19_
          ·rw [if_pos hc25] at h
           have k62 := fun {A L l} (k : PL A L l) => zz 101 (xdT hc25) <|
            yy 109 (.val (i6 ((mLen c17_ : Nat) : Int))) <|
            ww (p := (Value.int .i64 (.ofNat (mEs mvI c17_).length)) = ((i6 ((mLen c17_ : Nat) : Int)))) (mLen_ok mvI c17_) <|
            k
           by_cases hc26 : ((mLen c17_ : Nat) : Int) = (((c14_).l.length : Nat) : Int)
           ·rw [if_pos hc26] at h
            have k65 := fun {A L l} (k : PL A L l) => zz 112 (xeT hc26) <|
             k
            by_cases hc27 : c22_ = c20_
            ·rw [if_pos hc27] at h
             obtain rfl := oI h
             exact runF2 hm ⟨[8], [], 0, 0, [], false, [], [], []⟩ (k0 <|
              k4 <|
              k6 <|
              k7 <|
              k10 <|
              k15 <|
              k17 <|
              k45 <|
              k60 <|
              k61 <|
              k62 <|
              k65 <|
              zz 116 (xeT hc27) <|
              ee) (by kernel_rfl)
            ·rw [if_neg hc27] at h
             cases h
           ·rw [if_neg hc26] at h
            cases h
          ·rw [if_neg hc25] at h
           have k62 := fun {A L l} (k : PL A L l) => zz 101 (xdF hc25) <|
            yy 107 (.val (i6 ((mLen c17_ : Nat) : Int))) <|
            ww (p := (Value.int .i64 (.ofNat (mEs mvI c17_).length)) = ((i6 ((mLen c17_ : Nat) : Int)))) (mLen_ok mvI c17_) <|
            k
           by_cases hc26 : ((mLen c17_ : Nat) : Int) = (((c14_).l.length : Nat) : Int)
           ·rw [if_pos hc26] at h
            have k65 := fun {A L l} (k : PL A L l) => zz 110 (xeT hc26) <|
             k
            by_cases hc27 : c22_ = c19_
            ·rw [if_pos hc27] at h
             obtain rfl := oI h
             exact runF2 hm ⟨[8], [], 0, 0, [], false, [], [], []⟩ (k0 <|
              k4 <|
              k6 <|
              k7 <|
              k10 <|
              k15 <|
              k17 <|
              k45 <|
              k60 <|
              k61 <|
              k62 <|
              k65 <|
              zz 114 (xeT hc27) <|
              ee) (by kernel_rfl)
            ·rw [if_neg hc27] at h
             cases h
           ·rw [if_neg hc26] at h
            cases h
         ·rw [if_neg hc24] at h
          have k61 := fun {A L l} (k : PL A L l) => zz 97 (xdF hc24) <|
           yy 107 (.val (i6 ((mLen c17_ : Nat) : Int))) <|
           ww (p := (Value.int .i64 (.ofNat (mEs mvI c17_).length)) = ((i6 ((mLen c17_ : Nat) : Int)))) (mLen_ok mvI c17_) <|
           k
          by_cases hc25 : ((mLen c17_ : Nat) : Int) = (((c14_).l.length : Nat) : Int)
          ·rw [if_pos hc25] at h
           have k64 := fun {A L l} (k : PL A L l) => zz 110 (xeT hc25) <|
            k
           by_cases hc26 : c22_ = c19_
           ·rw [if_pos hc26] at h
            obtain rfl := oI h
            exact runF2 hm ⟨[8], [], 0, 0, [], false, [], [], []⟩ (k0 <|
             k4 <|
             k6 <|
             k7 <|
             k10 <|
             k15 <|
             k17 <|
             k45 <|
             k60 <|
             k61 <|
             k64 <|
             zz 114 (xeT hc26) <|
             ee) (by kernel_rfl)
           ·rw [if_neg hc26] at h
            cases h
          ·rw [if_neg hc25] at h
           cases h
      ·rw [if_neg hc11] at h
       obtain ⟨c12_, hc12, h⟩ := oB h
       obtain ⟨_, hc13, h⟩ := oB h
       obtain ⟨c14_, hc14, h⟩ := oB h
       obtain ⟨c15_, hc15, h⟩ := oB h
       obtain ⟨_, hc16, h⟩ := oB h
       obtain ⟨c17_, hc17, h⟩ := oB h
       obtain ⟨c18_, hc18, h⟩ := oB h
       have k17 := fun {A L l} (k : PL A L l) => yy 45 (.app0) <|
        ww (p := 0 = (g2).l.length) ((by have := hc11; omega)) <|
        ww (p := ((g2).l.length = 0 ∧ ([] : List Value) = []) ∨ ∃ y, Tabs.win (Nat.add (g2).num 64) = some y ∧ rdL y.2.2 (Nat.mul (g2).l.length 1) (g2).off = some ([] : List Value)) (.inl ⟨(by have := hc11; omega), rfl⟩) <|
        ww (p := ∀ H : AH, appTop H 1 3 8 (0, []) (sN 1 0 0 0) = some ((sN 1 0 0 0), H)) (fun _ => rfl) <|
        yy 47 (.call (C_nfaStepq3 wA wB g02 g3 c12_ [(0, 1, false)] [])) <|
        ww (m_nfaStepq3_ok n wA wB g02 g3 c12_ hc12) <|
        ww (p := U_viewportlaw03NfaSets_1 none g1 g2 g3 wA wB g02 c8_ c9_ c12_ 0 ()) (m_viewportlaw03NfaSets_1_ok n g1 g2 g3 wA wB g02 c8_ c9_ c12_ 0 () hc13) <|
        ll 53 ⟨⟨[1, 2, 3, 4, 9, 10, 11, 12], [(0, 0, false)], 1, 0, [], false, [], [], []⟩, (X_viewportlaw03NfaSets_1 g1 g2 g3 wA wB g02 c8_ c9_ c12_ ()).1, (X_viewportlaw03NfaSets_1 g1 g2 g3 wA wB g02 c8_ c9_ c12_ ()).2⟩ <|
        ww (p := U_viewportlaw03NfaSets_2 none g1 g2 wA wB g02 c8_ c9_ c12_ (mNil, 0) c14_) (m_viewportlaw03NfaSets_2_ok n g1 g2 wA wB g02 c8_ c9_ c12_ (mNil, 0) c14_ hc14) <|
        ww (mflat mvI (fun _ => rfl) (mNil : MapI Int) (mLen (mNil : MapI Int))) <|
        ll 61 ⟨⟨[1, 2, 4, 9, 10, 11, 13, 14], [(0, 0, false), (1, 1, true)], 2, 0, [], false, [], [], []⟩, (X_viewportlaw03NfaSets_2 g1 g2 wA wB g02 c8_ c9_ c12_ c14_).1, (X_viewportlaw03NfaSets_2 g1 g2 wA wB g02 c8_ c9_ c12_ c14_).2⟩ <|
        ww (p := U_viewportlaw03NfaSets_3 none g1 g2 wA wB g02 c9_ c12_ (c14_, 0) c15_) (m_viewportlaw03NfaSets_3_ok n g1 g2 wA wB g02 c9_ c12_ (c14_, 0) c15_ hc15) <|
        ww (mflat mvI (fun _ => rfl) c14_ (mLen c14_)) <|
        ll 66 ⟨⟨[1, 2, 4, 10, 11, 13, 15], [(0, 0, false), (1, 1, true)], 2, 0, [], false, [], [], []⟩, (X_viewportlaw03NfaSets_3 g1 g2 wA wB g02 c9_ c12_ c15_).1, (X_viewportlaw03NfaSets_3 g1 g2 wA wB g02 c9_ c12_ c15_).2⟩ <|
        ww (p := U_viewportlaw03NfaSets_4 none g1 g2 wA wB g02 c12_ c15_ 0 ()) (m_viewportlaw03NfaSets_4_ok n g1 g2 wA wB g02 c12_ c15_ 0 () hc16) <|
        ww (mflat mvI (fun _ => rfl) c15_ (mLen c15_)) <|
        ll 71 ⟨⟨[1, 2, 4, 11, 13, 16], [(0, 0, false), (1, 1, true)], 2, 0, [], false, [], [], []⟩, (X_viewportlaw03NfaSets_4 g1 g2 wA wB g02 c12_ c15_ ()).1, (X_viewportlaw03NfaSets_4 g1 g2 wA wB g02 c12_ c15_ ()).2⟩ <|
        yy 75 (.call (C_nfaRuleq1 wA wB g02 g1 c17_ [] [])) <|
        ww (m_nfaRuleq1_ok n wA wB g02 g1 c17_ hc17) <|
        yy 78 (.call (C_nfaRuleq1 wA wB g02 g2 c18_ [] [])) <|
        ww (m_nfaRuleq1_ok n wA wB g02 g2 c18_ hc18) <|
        k
       rcases hc19 : m_viewportkitOwnintq1 n g1 with _ | (⟨⟩ | ⟨⟩)
       ·cases hc10.symm.trans hc19
       ·cases hc10.symm.trans hc19
       ·obtain ⟨_, hc20, h⟩ := oB h
        have k38 := fun {A L l} (k : PL A L l) => yy 81 (.call (C_viewportkitOwnintq1 g1 (.inr ()) [] [(2, 0, false)])) <|
         ww (m_viewportkitOwnintq1_ok n g1 (.inr ()) hc19) <|
         yy 83 (.app0) <|
         ww (p := 0 = (g2).l.length) ((by have := hc11; omega)) <|
         ww (p := ((g2).l.length = 0 ∧ ([] : List Value) = []) ∨ ∃ y, Tabs.win (Nat.add (g2).num 64) = some y ∧ rdL y.2.2 (Nat.mul (g2).l.length 1) (g2).off = some ([] : List Value)) (.inl ⟨(by have := hc11; omega), rfl⟩) <|
         ww (p := ∀ H : AH, appTop H 1 3 8 (0, []) (sN 2 0 0 0) = some ((sN 2 0 0 0), H)) (fun _ => rfl) <|
         yy 84 (.call (C_nfaRuleq3 wA wB g02 () [(0, 2, false)] [])) <|
         ww (m_nfaRuleq3_ok n wA wB g02 () hc20) <|
         k
        by_cases hc21 : c17_ < (0 : Int)
        ·rw [if_pos hc21] at h
         have k46 := fun {A L l} (k : PL A L l) => zz 94 (xdT hc21) <|
          yy 109 (.val (i6 ((mLen c15_ : Nat) : Int))) <|
          ww (p := (Value.int .i64 (.ofNat (mEs mvI c15_).length)) = ((i6 ((mLen c15_ : Nat) : Int)))) (mLen_ok mvI c15_) <|
          k
         by_cases hc22 : ((mLen c15_ : Nat) : Int) = (((c12_).l.length : Nat) : Int)
         ·rw [if_pos hc22] at h
          have k49 := fun {A L l} (k : PL A L l) => zz 112 (xeT hc22) <|
           k
          by_cases hc23 : (-1 : Int) = c18_
          ·rw [if_pos hc23] at h
           obtain rfl := oI h
           exact runF2 hm ⟨[8], [], 0, 0, [], false, [], [], []⟩ (k0 <|
            k4 <|
            k6 <|
            k7 <|
            k10 <|
            k15 <|
            k17 <|
            k38 <|
            k46 <|
            k49 <|
            zz 116 (xeT hc23) <|
            ee) (by kernel_rfl)
          ·rw [if_neg hc23] at h
           cases h
         ·rw [if_neg hc22] at h
          cases h
        ·rw [if_neg hc21] at h
         have k46 := fun {A L l} (k : PL A L l) => zz 94 (xdF hc21) <|
          k
         by_cases hc22 : c18_ ≥ (0 : Int)
         ·rw [if_pos hc22] at h
          have k47 := fun {A L l} (k : PL A L l) => zz 97 (xdT hc22) <|
           k
          by_cases hc23 : c18_ < c17_
          ·rw [if_pos hc23] at h
           have k48 := fun {A L l} (k : PL A L l) => zz 101 (xdT hc23) <|
            yy 109 (.val (i6 ((mLen c15_ : Nat) : Int))) <|
            ww (p := (Value.int .i64 (.ofNat (mEs mvI c15_).length)) = ((i6 ((mLen c15_ : Nat) : Int)))) (mLen_ok mvI c15_) <|
            k
           by_cases hc24 : ((mLen c15_ : Nat) : Int) = (((c12_).l.length : Nat) : Int)
           ·rw [if_pos hc24] at h
            have k51 := fun {A L l} (k : PL A L l) => zz 112 (xeT hc24) <|
             k
            by_cases hc25 : (-1 : Int) = c18_
            ·rw [if_pos hc25] at h
             obtain rfl := oI h
             exact runF2 hm ⟨[8], [], 0, 0, [], false, [], [], []⟩ (k0 <|
              k4 <|
              k6 <|
              k7 <|
              k10 <|
              k15 <|
              k17 <|
              k38 <|
              k46 <|
              k47 <|
              k48 <|
              k51 <|
              zz 116 (xeT hc25) <|
              ee) (by kernel_rfl)
            ·rw [if_neg hc25] at h
             cases h
           ·rw [if_neg hc24] at h
            cases h
          ·rw [if_neg hc23] at h
           have k48 := fun {A L l} (k : PL A L l) => zz 101 (xdF hc23) <|
            yy 107 (.val (i6 ((mLen c15_ : Nat) : Int))) <|
            ww (p := (Value.int .i64 (.ofNat (mEs mvI c15_).length)) = ((i6 ((mLen c15_ : Nat) : Int)))) (mLen_ok mvI c15_) <|
            k
           by_cases hc24 : ((mLen c15_ : Nat) : Int) = (((c12_).l.length : Nat) : Int)
           ·rw [if_pos hc24] at h
            have k51 := fun {A L l} (k : PL A L l) => zz 110 (xeT hc24) <|
             k
            by_cases hc25 : (-1 : Int) = c17_
            ·rw [if_pos hc25] at h
             obtain rfl := oI h
             exact runF2 hm ⟨[8], [], 0, 0, [], false, [], [], []⟩ (k0 <|
              k4 <|
              k6 <|
              k7 <|
              k10 <|
              k15 <|
              k17 <|
              k38 <|
              k46 <|
              k47 <|
              k48 <|
              k51 <|
              zz 114 (xeT hc25) <|
              ee) (by kernel_rfl)
            ·rw [if_neg hc25] at h
             cases h
           ·rw [if_neg hc24] at h
            cases h
         ·rw [if_neg hc22] at h
          have k47 := fun {A L l} (k : PL A L l) => zz 97 (xdF hc22) <|
           yy 107 (.val (i6 ((mLen c15_ : Nat) : Int))) <|
           ww (p := (Value.int .i64 (.ofNat (mEs mvI c15_).length)) = ((i6 ((mLen c15_ : Nat) : Int)))) (mLen_ok mvI c15_) <|
           k
          by_cases hc23 : ((mLen c15_ : Nat) : Int) = (((c12_).l.length : Nat) : Int)
          ·rw [if_pos hc23] at h
           have k50 := fun {A L l} (k : PL A L l) => zz 110 (xeT hc23) <|
            k
           by_cases hc24 : (-1 : Int) = c17_
           ·rw [if_pos hc24] at h
            obtain rfl := oI h
            exact runF2 hm ⟨[8], [], 0, 0, [], false, [], [], []⟩ (k0 <|
             k4 <|
             k6 <|
             k7 <|
             k10 <|
             k15 <|
             k17 <|
             k38 <|
             k46 <|
             k47 <|
             k50 <|
             zz 114 (xeT hc24) <|
             ee) (by kernel_rfl)
           ·rw [if_neg hc24] at h
            cases h
          ·rw [if_neg hc23] at h
           cases h
    ·rw [if_neg hc7] at h
     obtain rfl := oI h
     exact runF2 hm ⟨[8], [], 0, 0, [], false, [], [], []⟩ (k0 <|
      k4 <|
      k6 <|
      k7 <|
      zz 26 (xnT hc7) <|
      ee) (by kernel_rfl)
 ·rw [if_neg hc3] at h
  obtain rfl := oI h
  exact runF2 hm ⟨[8], [], 0, 0, [], false, [], [], []⟩ (k0 <|
   yy 12 (vt) <|
   ww (p := (Value.bool (!c2_)) = (Value.bool true)) (vBn (Bool.eq_false_iff.2 hc3)) <|
   ee) (by kernel_rfl)

end Go.Proofs.Ytkdeabcaijfdfaa.nss03
