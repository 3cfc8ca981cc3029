/-
  What functions do, told by pure functions. No condition.
-/
import Derived.Test.YtkdeabcaijfdfaaNfgLives
set_option linter.unusedSimpArgs false
set_option linter.unusedVariables false
set_option linter.unusedSectionVars false
set_option linter.unnecessarySimpa false
set_option maxRecDepth 100000
noncomputable section
namespace Go.Proofs.Ytkdeabcaijfdfaa.nfg03
open Go Go.Proofs.Ytkdeabcaijfdfaa Ax
variable [Args]
def rw_u (x : Int) : List Value := [Value.int .u64 x]
theorem rwf_u : RowF rw_u 1 := ⟨fun _ => rfl, fun a v h => by
 simp only [rw_u, List.mem_cons, List.not_mem_nil, or_false] at h
 rcases h with rfl <;> rfl, fun _ => rfl⟩
abbrev xp1 (b o n k : Nat) (i : Int) : Prop := IA P 23 (sW b o n k) i (pW b (Nat.add o (i.toNat * 1)))
theorem xk1 (b o k : Nat) {n : Nat} {i : Int} (h : 0 ≤ i ∧ i < (n : Int)) : OB (.pur (pW b (Nat.add o (i.toNat * 1)))) (xp1 b o n k i) := ⟨ixWO (e := 24) (by kernel_rfl) (by kernel_rfl) h⟩
abbrev lp2 (x : WL rw_L) (i : Nat) (r : NL) : Prop := Lg P 24 (pW x.num (Nat.add x.off (i * 1))) (nlV r)
theorem lk2 {x : WL rw_L} {i : Nat} {r : NL} (hr : some ((x.l).getD i (nl0)) = some r) (h : i < (x.l).length) : OB (.ld (nlV r)) (lp2 x i r) := by cases hr; exact ⟨ldRS rwf_L (nl0) (i := i) (q := 0) x (Nat.add x.off (i * 1)) rfl (by kernel_rfl) h (by decide) rfl⟩
abbrev xp3 (b o n k : Nat) (i : Int) : Prop := IA P 22 (sW b o n k) i (pW b (Nat.add o (i.toNat * 4)))
theorem xk3 (b o k : Nat) {n : Nat} {i : Int} (h : 0 ≤ i ∧ i < (n : Int)) : OB (.pur (pW b (Nat.add o (i.toNat * 4)))) (xp3 b o n k i) := ⟨ixWO (e := 36) (by kernel_rfl) (by kernel_rfl) h⟩
abbrev lp4 (x : WL rw_uuuu) (i : Nat) (r : Int × Int × Int × Int) : Prop := Lg P 36 (pW x.num (Nat.add x.off (i * 4))) (Value.agg #[(Value.int .u64 (r.1)), (Value.int .u64 (r.2.1)), (Value.int .u64 (r.2.2.1)), (Value.int .u64 (r.2.2.2))])
theorem lk4 {x : WL rw_uuuu} {i : Nat} {r : Int × Int × Int × Int} (hr : some ((x.l).getD i (0, 0, 0, 0)) = some r) (h : i < (x.l).length) : OB (.ld (Value.agg #[(Value.int .u64 (r.1)), (Value.int .u64 (r.2.1)), (Value.int .u64 (r.2.2.1)), (Value.int .u64 (r.2.2.2))])) (lp4 x i r) := by cases hr; exact ⟨ldRA rwf_uuuu (0, 0, 0, 0) (i := i) (q := 0) x (n := 4) (Nat.add x.off (i * 4)) rfl (by kernel_rfl) (by kernel_rfl) h (by decide) (by decide) rfl⟩
abbrev xp5 (b o n k : Nat) (i : Int) : Prop := IA P 24 (sW b o n k) i (pW b (Nat.add o i.toNat))
theorem xk5 (b o k : Nat) {n : Nat} {i : Int} (h : 0 ≤ i ∧ i < (n : Int)) : OB (.pur (pW b (Nat.add o i.toNat))) (xp5 b o n k i) := ⟨ixWO1 (e := 3) (by kernel_rfl) (by kernel_rfl) h⟩
theorem nk6 {x : NL} {i : Nat} {v : Int} (hv : some (x.l.getD i 0) = some v) (h : i < x.l.length) : OB (.ld (i6 v)) (Lg P 3 (pW (Nat.add x.num 64) (Nat.add x.off i)) (i6 v)) := by cases hv; exact ⟨ldN x (by kernel_rfl) h⟩
abbrev xp7 (b n k : Nat) (i : Int) : Prop := IA P 24 (sN b 0 n k) i (pN b i.toNat)
theorem xk7 (b k : Nat) {n : Nat} {i : Int} (h : 0 ≤ i ∧ i < (n : Int)) : OB (.pur (pN b i.toNat)) (xp7 b n k i) := ⟨ixS1 (e := 3) (by kernel_rfl) (by kernel_rfl) h⟩
abbrev op8 (L : List (Int)) (i : Nat) (r : Int) : Prop := (layT (rows rw_u L)).get (i * 1) = some (Value.int .u64 r)
theorem ok8 {L : List (Int)} {i : Nat} {r : Int} (hr : some (L.getD i (0)) = some r) (h : i < L.length) : OB (.ld (Value.int .u64 r)) (op8 L i r) := by cases hr; exact ⟨rows_ld rwf_u (0) (i := i) (j := 0) (i * 1) rfl h (by decide) rfl⟩

def m_viewportlaw03lives (n : Nat) : Option Unit := some ()
theorem m_viewportlaw03lives_ok (n : Nat) (r : Unit) (h : m_viewportlaw03lives n = some r) : Gv P (.func 5) [] Ax.h0 (.bool true) Ax.h0 := lives_gv

def A_mapsKeysnfasetintstructu (M : MapI Unit) : List Value := [(Value.map (some 0))]
def H_mapsKeysnfasetintstructu (M : MapI Unit) : AH := ⟨sB [(0, (some (.map (mEs mvU M) (mLen M))))], 1, 1⟩
def V_mapsKeysnfasetintstructu (M : MapI Unit) (r : Unit) : Value := (Value.func (.func 49) #[] #[(pN 1 0)])
def R_mapsKeysnfasetintstructu (M : MapI Unit) (r : Unit) : AH := ⟨sB [(1, (some (.box (Value.map (some 0)) 60)))], 2, 1⟩
abbrev G_mapsKeysnfasetintstructu (M : MapI Unit) (r : Unit) : Prop := Gv P (.func 38) (A_mapsKeysnfasetintstructu M) (H_mapsKeysnfasetintstructu M) (V_mapsKeysnfasetintstructu M r) (R_mapsKeysnfasetintstructu M r)
abbrev C_mapsKeysnfasetintstructu (M : MapI Unit) (r : Unit) (ins outs : BL) : CallA := ⟨1, ins, V_mapsKeysnfasetintstructu M r, R_mapsKeysnfasetintstructu M r, outs⟩
def m_mapsKeysnfasetintstructu (n : Nat) (M : MapI Unit) : Option Unit := some ()
theorem sk_mapsKeysnfasetintstructu : SKOK P ⟨38, 37, 49, 3, 60, true⟩ := by first | exact sks_ok.1 | exact sks_ok.2.1 | exact sks_ok.2.2.1 | exact sks_ok.2.2.2.1
theorem m_mapsKeysnfasetintstructu_ok (n : Nat) (M : MapI Unit) (r : Unit) (h : m_mapsKeysnfasetintstructu n M = some r) : Gv P (.func 38) (A_mapsKeysnfasetintstructu M) (H_mapsKeysnfasetintstructu M) (V_mapsKeysnfasetintstructu M r) (R_mapsKeysnfasetintstructu M r) := skK sk_mapsKeysnfasetintstructu mvU M

def A_slicesSortedintu (M : MapI Unit) : List Value := [(Value.func (.func 49) #[] #[(pN 0 0)])]
def H_slicesSortedintu (M : MapI Unit) : AH := ⟨sB [(0, (some (.box (Value.map (some 1)) 60))), (1, (some (.map (mEs mvU M) (mLen M))))], 2, 2⟩
def V_slicesSortedintu (M : MapI Unit) (r : (Unit) ⊕ (List Int)) : Value := match r with
 | .inl _ => (Value.slice none 0 0)
 | .inr o0 => (sN 2 0 (o0).length (Nat.add big 1))
def R_slicesSortedintu (M : MapI Unit) (r : (Unit) ⊕ (List Int)) : AH := match r with
 | .inl _ => ⟨sB [], 2, 2⟩
 | .inr o0 => ⟨sB [(2, (some (.cells (layT (iv o0)) 3)))], 3, 2⟩
abbrev G_slicesSortedintu (M : MapI Unit) (r : (Unit) ⊕ (List Int)) : Prop := Gv P (.func 37) (A_slicesSortedintu M) (H_slicesSortedintu M) (V_slicesSortedintu M r) (R_slicesSortedintu M r)
abbrev C_slicesSortedintu (M : MapI Unit) (r : (Unit) ⊕ (List Int)) (ins outs : BL) : CallA := ⟨2, ins, V_slicesSortedintu M r, R_slicesSortedintu M r, outs⟩
def m_slicesSortedintu (n : Nat) (M : MapI Unit) : Option ((Unit) ⊕ (List Int)) :=
 if mWf M = true then
  if mLen M * 8 ≤ 140737488355328 then
   match mKeys M with
   | [] =>
    some (.inl ())
   | a :: t =>
    some (.inr (a :: t))
  else none
 else none
theorem m_slicesSortedintu_ok (n : Nat) (M : MapI Unit) (r : (Unit) ⊕ (List Int)) (h : m_slicesSortedintu n M = some r) : Gv P (.func 37) (A_slicesSortedintu M) (H_slicesSortedintu M) (V_slicesSortedintu M r) (R_slicesSortedintu M r) := by
 unfold m_slicesSortedintu at h
 obtain ⟨h1, h⟩ := gd h
 obtain ⟨h2, h⟩ := gd h
 cases h3 : mKeys M with
 | nil => rw [h3] at h; obtain rfl := oI h; exact skS0 sk_mapsKeysnfasetintstructu rfl mvU h1 h2 h3
 | cons a t => rw [h3] at h; obtain rfl := oI h; exact skS1 sk_mapsKeysnfasetintstructu rfl mvU h1 h2 h3

def A_viewportkitLightNfaq1 (a0 : WL rw_uuuu) (a1 : WL rw_L) (a2 : NL) (a3 : Int) : List Value := [(Value.agg #[(wlV a0), (wlV a1), (nlV a2)]), (i6 a3)]
def H_viewportkitLightNfaq1 (a0 : WL rw_uuuu) (a1 : WL rw_L) (a2 : NL) (a3 : Int) : AH := ⟨sB [], 0, 0⟩
def V_viewportkitLightNfaq1 (a0 : WL rw_uuuu) (a1 : WL rw_L) (a2 : NL) (a3 : Int) (r : Bool) : Value := match r with
 | o0 => (bO o0)
def R_viewportkitLightNfaq1 (a0 : WL rw_uuuu) (a1 : WL rw_L) (a2 : NL) (a3 : Int) (r : Bool) : AH := match r with
 | o0 => ⟨sB [], 0, 0⟩
abbrev G_viewportkitLightNfaq1 (a0 : WL rw_uuuu) (a1 : WL rw_L) (a2 : NL) (a3 : Int) (r : Bool) : Prop := Gv P (.func 6) (A_viewportkitLightNfaq1 a0 a1 a2 a3) (H_viewportkitLightNfaq1 a0 a1 a2 a3) (V_viewportkitLightNfaq1 a0 a1 a2 a3 r) (R_viewportkitLightNfaq1 a0 a1 a2 a3 r)
abbrev C_viewportkitLightNfaq1 (a0 : WL rw_uuuu) (a1 : WL rw_L) (a2 : NL) (a3 : Int) (r : Bool) (ins outs : BL) : CallA := ⟨0, ins, V_viewportkitLightNfaq1 a0 a1 a2 a3 r, R_viewportkitLightNfaq1 a0 a1 a2 a3 r, outs⟩
def S_viewportkitLightNfaq1_1 (x1_0 : Int) (x1_1 : WL rw_uuuu) (x1_2 : WL rw_L) (x1_3 : NL) (st : Int × Int) : XSt := match st with
 | (x1_4, x1_5) => (sT 53 [(1, (i6 x1_0)), (2, (pN 0 0)), (5, (i6 x1_4)), (6, (i6 x1_5))], [], ⟨sB [(0, (some (.cells (layT [(wlV x1_1), (wlV x1_2), (nlV x1_3)]) 26)))], 1, 0⟩)
def X_viewportkitLightNfaq1_1 (x1_0 : Int) (x1_1 : WL rw_uuuu) (x1_2 : WL rw_L) (x1_3 : NL) (r : Int) : Ex × XSt := match r with
 | z1_0 => (.exit 0, (sT 53 [(1, (i6 x1_0)), (2, (pN 0 0)), (5, (i6 z1_0))], [], ⟨sB [(0, (some (.cells (layT [(wlV x1_1), (wlV x1_2), (nlV x1_3)]) 26)))], 1, 0⟩))
abbrev Q_viewportkitLightNfaq1_1 (rnd : Option Nat) (x1_0 : Int) (x1_1 : WL rw_uuuu) (x1_2 : WL rw_L) (x1_3 : NL) (st : Int × Int) (c : Ex × XSt) : Prop := CG P rnd (fnN P 6) 0 (codeOf P 6 [false, false, true, false, true, true]) (S_viewportkitLightNfaq1_1 x1_0 x1_1 x1_2 x1_3 st) c
abbrev U_viewportkitLightNfaq1_1 (rd : Option Nat) (x1_0 : Int) (x1_1 : WL rw_uuuu) (x1_2 : WL rw_L) (x1_3 : NL) (st : Int × Int) (r : Int) : Prop := CG P rd (fnN P 6) 0 (codeOf P 6 [false, true, false, true, true]) (S_viewportkitLightNfaq1_1 x1_0 x1_1 x1_2 x1_3 st) (X_viewportkitLightNfaq1_1 x1_0 x1_1 x1_2 x1_3 r)
def B_viewportkitLightNfaq1_1 (n : Nat) (x1_0 : Int) (x1_1 : WL rw_uuuu) (x1_2 : WL rw_L) (x1_3 : NL) (st : Int × Int) : Option ((Int × Int) ⊕ (Int)) := match st with
 | (x1_4, x1_5) =>
  if x1_5 < (((x1_2).l.length : Nat) : Int) then
   if x1_5 ≤ x1_0 then
    if 0 ≤ x1_5 ∧ x1_5 < (((x1_2).l.length : Nat) : Int) then
     ((some (((x1_2).l).getD (x1_5).toNat (nl0)))).bind fun y1_4_ =>
     ((some (w64 (x1_4 + (((y1_4_).l.length : Nat) : Int))))).bind fun y1_5_ =>
     some (.inl (y1_5_, (w64 (x1_5 + (1 : Int)))))
    else none
   else
    some (.inr x1_4)
  else
   some (.inr x1_4)
def m_viewportkitLightNfaq1_1 (n : Nat) (x1_0 : Int) (x1_1 : WL rw_uuuu) (x1_2 : WL rw_L) (x1_3 : NL) (st : Int × Int) : Option (Int) := iterM (B_viewportkitLightNfaq1_1 n x1_0 x1_1 x1_2 x1_3) n st
theorem b_viewportkitLightNfaq1_1 (n : Nat) {rnd : Option Nat} (x1_0 : Int) (x1_1 : WL rw_uuuu) (x1_2 : WL rw_L) (x1_3 : NL) (st : Int × Int) (o : (Int × Int) ⊕ (Int)) (h : B_viewportkitLightNfaq1_1 n x1_0 x1_1 x1_2 x1_3 st = some o) : CG P rnd (fnN P 6) 0 (codeOf P 6 [false, false, true, false, true, true]) (S_viewportkitLightNfaq1_1 x1_0 x1_1 x1_2 x1_3 st) (Sum.elim (fun s => (.normal, S_viewportkitLightNfaq1_1 x1_0 x1_1 x1_2 x1_3 s)) (fun r => X_viewportkitLightNfaq1_1 x1_0 x1_1 x1_2 x1_3 r) o) := by
 obtain ⟨x1_4, x1_5⟩ := st
 unfold B_viewportkitLightNfaq1_1 at h
 dsimp only at h
 by_cases hy1_1 : x1_5 < (((x1_2).l.length : Nat) : Int)
 ·rw [if_pos hy1_1] at h
  have k0 := fun {A L l} (k : PL A L l) => zz 6 (xdT hy1_1) <|
   k
  by_cases hy1_2 : x1_5 ≤ x1_0
  ·rw [if_pos hy1_2] at h
   obtain ⟨hy1_3, h⟩ := gd h
   obtain ⟨y1_4_, hy1_4, h⟩ := oB h
   obtain ⟨y1_5_, hy1_5, h⟩ := oB h
   obtain rfl := oI h
   exact runC2 hm ⟨[1, 2, 5, 6], [(0, 0, false)], 1, 0, [], false, [], [], []⟩ (k0 <|
    zz 10 (xdT hy1_2) <|
    zz 19 (xk1 (x1_2).num (x1_2).off (x1_2).cap hy1_3) <|
    zz 20 (lk2 hy1_4 (toNatLt hy1_3)) <|
    zz 22 (xnm hy1_5) <|
    ee) (by kernel_rfl)
  ·rw [if_neg hy1_2] at h
   obtain rfl := oI h
   exact runC2 hm ⟨[1, 2, 5], [(0, 0, false)], 1, 0, [], false, [], [], []⟩ (k0 <|
    zz 10 (xdF hy1_2) <|
    ee) (by kernel_rfl)
 ·rw [if_neg hy1_1] at h
  obtain rfl := oI h
  exact runC2 hm ⟨[1, 2, 5], [(0, 0, false)], 1, 0, [], false, [], [], []⟩ (zz 6 (xdF hy1_1) <|
   ee) (by kernel_rfl)
theorem m_viewportkitLightNfaq1_1_ok (n : Nat) {rnd : Option Nat} (x1_0 : Int) (x1_1 : WL rw_uuuu) (x1_2 : WL rw_L) (x1_3 : NL) (st : Int × Int) (r : Int) (h : m_viewportkitLightNfaq1_1 n x1_0 x1_1 x1_2 x1_3 st = some r) : CG P rnd (fnN P 6) 0 (codeOf P 6 [false, true, false, true, true]) (S_viewportkitLightNfaq1_1 x1_0 x1_1 x1_2 x1_3 st) (X_viewportkitLightNfaq1_1 x1_0 x1_1 x1_2 x1_3 r) :=
 CG.iter (b := codeOf P 6 [false, false, true, false, true, true]) (by kernel_rfl) (body := B_viewportkitLightNfaq1_1 n x1_0 x1_1 x1_2 x1_3) (S := S_viewportkitLightNfaq1_1 x1_0 x1_1 x1_2 x1_3) (X := X_viewportkitLightNfaq1_1 x1_0 x1_1 x1_2 x1_3)
  (fun s s' h => b_viewportkitLightNfaq1_1 n x1_0 x1_1 x1_2 x1_3 s (.inl s') h)
  (fun s r h => b_viewportkitLightNfaq1_1 n x1_0 x1_1 x1_2 x1_3 s (.inr r) h)
  (fun r => by intro hx; cases hx) h
def m_viewportkitLightNfaq1 (n : Nat) (a0 : WL rw_uuuu) (a1 : WL rw_L) (a2 : NL) (a3 : Int) : Option (Bool) :=
 (m_viewportkitLightNfaq1_1 n a3 a0 a1 a2 (0, 0)).bind fun c1_ =>
 if (((a0).l.length : Nat) : Int) ≤ a3 then
  if (((a1).l.length : Nat) : Int) ≤ a3 then
   if (((a2).l.length : Nat) : Int) ≤ a3 then
    if c1_ ≤ (w64 (a3 * a3)) then
     some true
    else
     some false
   else
    some false
  else
   some false
 else
  some false
theorem m_viewportkitLightNfaq1_ok (n : Nat) (a0 : WL rw_uuuu) (a1 : WL rw_L) (a2 : NL) (a3 : Int) (r : Bool) (h : m_viewportkitLightNfaq1 n a0 a1 a2 a3 = some r) : Gv P (.func 6) (A_viewportkitLightNfaq1 a0 a1 a2 a3) (H_viewportkitLightNfaq1 a0 a1 a2 a3) (V_viewportkitLightNfaq1 a0 a1 a2 a3 r) (R_viewportkitLightNfaq1 a0 a1 a2 a3 r) := by
 unfold m_viewportkitLightNfaq1 at h
 obtain ⟨c1_, hc1, h⟩ := oB h
 have k0 := fun {A L l} (k : PL A L l) => ww (p := U_viewportkitLightNfaq1_1 none a3 a0 a1 a2 (0, 0) c1_) (m_viewportkitLightNfaq1_1_ok n a3 a0 a1 a2 (0, 0) c1_ hc1) <|
  ll 9 ⟨⟨[1, 2, 5, 6], [(0, 0, false)], 1, 0, [], false, [], [], []⟩, (X_viewportkitLightNfaq1_1 a3 a0 a1 a2 c1_).1, (X_viewportkitLightNfaq1_1 a3 a0 a1 a2 c1_).2⟩ <|
  k
 by_cases hc2 : (((a0).l.length : Nat) : Int) ≤ a3
 ·rw [if_pos hc2] at h
  have k2 := fun {A L l} (k : PL A L l) => zz 15 (xdT hc2) <|
   k
  by_cases hc3 : (((a1).l.length : Nat) : Int) ≤ a3
  ·rw [if_pos hc3] at h
   have k3 := fun {A L l} (k : PL A L l) => zz 21 (xdT hc3) <|
    k
   by_cases hc4 : (((a2).l.length : Nat) : Int) ≤ a3
   ·rw [if_pos hc4] at h
    have k4 := fun {A L l} (k : PL A L l) => zz 28 (xdT hc4) <|
     k
    by_cases hc5 : c1_ ≤ (w64 (a3 * a3))
    ·rw [if_pos hc5] at h
     obtain rfl := oI h
     exact runF2 hm ⟨[4], [], 0, 0, [], false, [], [], []⟩ (k0 <|
      k2 <|
      k3 <|
      k4 <|
      zz 35 (xdT hc5) <|
      ee) (by kernel_rfl)
    ·rw [if_neg hc5] at h
     obtain rfl := oI h
     exact runF2 hm ⟨[4], [], 0, 0, [], false, [], [], []⟩ (k0 <|
      k2 <|
      k3 <|
      k4 <|
      zz 35 (xdF hc5) <|
      ee) (by kernel_rfl)
   ·rw [if_neg hc4] at h
    obtain rfl := oI h
    exact runF2 hm ⟨[4], [], 0, 0, [], false, [], [], []⟩ (k0 <|
     k2 <|
     k3 <|
     zz 28 (xdF hc4) <|
     ee) (by kernel_rfl)
  ·rw [if_neg hc3] at h
   obtain rfl := oI h
   exact runF2 hm ⟨[4], [], 0, 0, [], false, [], [], []⟩ (k0 <|
    k2 <|
    zz 21 (xdF hc3) <|
    ee) (by kernel_rfl)
 ·rw [if_neg hc2] at h
  obtain rfl := oI h
  exact runF2 hm ⟨[4], [], 0, 0, [], false, [], [], []⟩ (k0 <|
   zz 15 (xdF hc2) <|
   ee) (by kernel_rfl)

def A_nfaCheckq1 (a0 : WL rw_uuuu) (a1 : WL rw_L) (a2 : NL) : List Value := [(Value.agg #[(wlV a0), (wlV a1), (nlV a2)])]
def H_nfaCheckq1 (a0 : WL rw_uuuu) (a1 : WL rw_L) (a2 : NL) : AH := ⟨sB [], 0, 0⟩
def V_nfaCheckq1 (a0 : WL rw_uuuu) (a1 : WL rw_L) (a2 : NL) (r : Int) : Value := match r with
 | o0 => (i6 o0)
def R_nfaCheckq1 (a0 : WL rw_uuuu) (a1 : WL rw_L) (a2 : NL) (r : Int) : AH := match r with
 | o0 => ⟨sB [], 0, 0⟩
abbrev G_nfaCheckq1 (a0 : WL rw_uuuu) (a1 : WL rw_L) (a2 : NL) (r : Int) : Prop := Gv P (.func 7) (A_nfaCheckq1 a0 a1 a2) (H_nfaCheckq1 a0 a1 a2) (V_nfaCheckq1 a0 a1 a2 r) (R_nfaCheckq1 a0 a1 a2 r)
abbrev C_nfaCheckq1 (a0 : WL rw_uuuu) (a1 : WL rw_L) (a2 : NL) (r : Int) (ins outs : BL) : CallA := ⟨0, ins, V_nfaCheckq1 a0 a1 a2 r, R_nfaCheckq1 a0 a1 a2 r, outs⟩
def S_nfaCheckq1_2 (x2_0 : WL rw_uuuu) (x2_1 : WL rw_L) (x2_2 : NL) (x2_3 : Int) (x2_5 : Int) (x2_6 : Int) (x2_7 : NL) (x2_8 : Int) (st : Int × Int) : XSt := match st with
 | (x2_4, x2_9) => (sT 80 [(1, (pN 0 0)), (3, (i6 x2_3)), (6, (i6 x2_4)), (41, (wlV x2_1)), (42, (i6 x2_5)), (43, (i6 x2_6)), (62, (nlV x2_7)), (63, (i6 x2_8)), (64, (i6 x2_9))], [], ⟨sB [(0, (some (.cells (layT [(wlV x2_0), (wlV x2_1), (nlV x2_2)]) 26)))], 1, 0⟩)
def X_nfaCheckq1_2 (x2_0 : WL rw_uuuu) (x2_1 : WL rw_L) (x2_2 : NL) (x2_3 : Int) (x2_5 : Int) (x2_6 : Int) (x2_7 : NL) (x2_8 : Int) (r : (Unit) ⊕ (Unit)) : Ex × XSt := match r with
 | .inl _ => (.ret, (sT 80 [(2, (i6 (2 : Int)))], [], ⟨sB [], 0, 0⟩))
 | .inr _ => (.exit 2, (sT 80 [(1, (pN 0 0)), (3, (i6 x2_3)), (41, (wlV x2_1)), (42, (i6 x2_5)), (43, (i6 x2_6))], [], ⟨sB [(0, (some (.cells (layT [(wlV x2_0), (wlV x2_1), (nlV x2_2)]) 26)))], 1, 0⟩))
abbrev Q_nfaCheckq1_2 (rnd : Option Nat) (x2_0 : WL rw_uuuu) (x2_1 : WL rw_L) (x2_2 : NL) (x2_3 : Int) (x2_5 : Int) (x2_6 : Int) (x2_7 : NL) (x2_8 : Int) (st : Int × Int) (c : Ex × XSt) : Prop := CG P rnd (fnN P 7) 0 (codeOf P 7 [false, false, true, true, true, true, false, false, true, true, false, false, true, false, true, true, true]) (S_nfaCheckq1_2 x2_0 x2_1 x2_2 x2_3 x2_5 x2_6 x2_7 x2_8 st) c
abbrev U_nfaCheckq1_2 (rd : Option Nat) (x2_0 : WL rw_uuuu) (x2_1 : WL rw_L) (x2_2 : NL) (x2_3 : Int) (x2_5 : Int) (x2_6 : Int) (x2_7 : NL) (x2_8 : Int) (st : Int × Int) (r : (Unit) ⊕ (Unit)) : Prop := CG P rd (fnN P 7) 0 (codeOf P 7 [false, true, true, true, true, false, false, true, true, false, false, true, false, true, true, true]) (S_nfaCheckq1_2 x2_0 x2_1 x2_2 x2_3 x2_5 x2_6 x2_7 x2_8 st) (X_nfaCheckq1_2 x2_0 x2_1 x2_2 x2_3 x2_5 x2_6 x2_7 x2_8 r)
def B_nfaCheckq1_2 (n : Nat) (x2_0 : WL rw_uuuu) (x2_1 : WL rw_L) (x2_2 : NL) (x2_3 : Int) (x2_5 : Int) (x2_6 : Int) (x2_7 : NL) (x2_8 : Int) (st : Int × Int) : Option ((Int × Int) ⊕ ((Unit) ⊕ (Unit))) := match st with
 | (x2_4, x2_9) =>
  if x2_9 < x2_8 then
   if 0 ≤ x2_9 ∧ x2_9 < (((x2_7).l.length : Nat) : Int) then
    if (x2_9).toNat < ((x2_7).l).length then
     ((some (((x2_7).l).getD (x2_9).toNat 0))).bind fun y2_4_ =>
     if y2_4_ < x2_4 then
      some (.inr (.inl ()))
     else
      if y2_4_ ≥ x2_3 then
       some (.inr (.inl ()))
      else
       some (.inl ((w64 (y2_4_ + (1 : Int))), (w64 (x2_9 + (1 : Int)))))
    else none
   else none
  else
   some (.inr (.inr ()))
def m_nfaCheckq1_2 (n : Nat) (x2_0 : WL rw_uuuu) (x2_1 : WL rw_L) (x2_2 : NL) (x2_3 : Int) (x2_5 : Int) (x2_6 : Int) (x2_7 : NL) (x2_8 : Int) (st : Int × Int) : Option ((Unit) ⊕ (Unit)) := iterM (B_nfaCheckq1_2 n x2_0 x2_1 x2_2 x2_3 x2_5 x2_6 x2_7 x2_8) n st
theorem b_nfaCheckq1_2 (n : Nat) {rnd : Option Nat} (x2_0 : WL rw_uuuu) (x2_1 : WL rw_L) (x2_2 : NL) (x2_3 : Int) (x2_5 : Int) (x2_6 : Int) (x2_7 : NL) (x2_8 : Int) (st : Int × Int) (o : (Int × Int) ⊕ ((Unit) ⊕ (Unit))) (h : B_nfaCheckq1_2 n x2_0 x2_1 x2_2 x2_3 x2_5 x2_6 x2_7 x2_8 st = some o) : CG P rnd (fnN P 7) 0 (codeOf P 7 [false, false, true, true, true, true, false, false, true, true, false, false, true, false, true, true, true]) (S_nfaCheckq1_2 x2_0 x2_1 x2_2 x2_3 x2_5 x2_6 x2_7 x2_8 st) (Sum.elim (fun s => (.normal, S_nfaCheckq1_2 x2_0 x2_1 x2_2 x2_3 x2_5 x2_6 x2_7 x2_8 s)) (fun r => X_nfaCheckq1_2 x2_0 x2_1 x2_2 x2_3 x2_5 x2_6 x2_7 x2_8 r) o) := by
 obtain ⟨x2_4, x2_9⟩ := st
 unfold B_nfaCheckq1_2 at h
 dsimp only at h
 by_cases hy2_1 : x2_9 < x2_8
 ·rw [if_pos hy2_1] at h
  obtain ⟨hy2_2, h⟩ := gd h
  obtain ⟨hy2_3, h⟩ := gd h
  obtain ⟨y2_4_, hy2_4, h⟩ := oB h
  have k0 := fun {A L l} (k : PL A L l) => zz 1 (xdT hy2_1) <|
   zz 7 (xk5 (Nat.add (x2_7).num 64) (x2_7).off (x2_7).cap hy2_2) <|
   zz 8 (nk6 hy2_4 hy2_3) <|
   k
  by_cases hy2_5 : y2_4_ < x2_4
  ·rw [if_pos hy2_5] at h
   obtain rfl := oI h
   exact runC2 hm ⟨[2], [], 0, 0, [], false, [], [], []⟩ (k0 <|
    zz 14 (xdT hy2_5) <|
    ee) (by kernel_rfl)
  ·rw [if_neg hy2_5] at h
   have k3 := fun {A L l} (k : PL A L l) => zz 14 (xdF hy2_5) <|
    k
   by_cases hy2_6 : y2_4_ ≥ x2_3
   ·rw [if_pos hy2_6] at h
    obtain rfl := oI h
    exact runC2 hm ⟨[2], [], 0, 0, [], false, [], [], []⟩ (k0 <|
     k3 <|
     zz 18 (xdT hy2_6) <|
     ee) (by kernel_rfl)
   ·rw [if_neg hy2_6] at h
    obtain rfl := oI h
    exact runC2 hm ⟨[1, 3, 6, 41, 42, 43, 62, 63, 64], [(0, 0, false)], 1, 0, [], false, [], [], []⟩ (k0 <|
     k3 <|
     zz 18 (xdF hy2_6) <|
     ee) (by kernel_rfl)
 ·rw [if_neg hy2_1] at h
  obtain rfl := oI h
  exact runC2 hm ⟨[1, 3, 41, 42, 43], [(0, 0, false)], 1, 0, [], false, [], [], []⟩ (zz 1 (xdF hy2_1) <|
   ee) (by kernel_rfl)
theorem m_nfaCheckq1_2_ok (n : Nat) {rnd : Option Nat} (x2_0 : WL rw_uuuu) (x2_1 : WL rw_L) (x2_2 : NL) (x2_3 : Int) (x2_5 : Int) (x2_6 : Int) (x2_7 : NL) (x2_8 : Int) (st : Int × Int) (r : (Unit) ⊕ (Unit)) (h : m_nfaCheckq1_2 n x2_0 x2_1 x2_2 x2_3 x2_5 x2_6 x2_7 x2_8 st = some r) : CG P rnd (fnN P 7) 0 (codeOf P 7 [false, true, true, true, true, false, false, true, true, false, false, true, false, true, true, true]) (S_nfaCheckq1_2 x2_0 x2_1 x2_2 x2_3 x2_5 x2_6 x2_7 x2_8 st) (X_nfaCheckq1_2 x2_0 x2_1 x2_2 x2_3 x2_5 x2_6 x2_7 x2_8 r) :=
 CG.iter (b := codeOf P 7 [false, false, true, true, true, true, false, false, true, true, false, false, true, false, true, true, true]) (by kernel_rfl) (body := B_nfaCheckq1_2 n x2_0 x2_1 x2_2 x2_3 x2_5 x2_6 x2_7 x2_8) (S := S_nfaCheckq1_2 x2_0 x2_1 x2_2 x2_3 x2_5 x2_6 x2_7 x2_8) (X := X_nfaCheckq1_2 x2_0 x2_1 x2_2 x2_3 x2_5 x2_6 x2_7 x2_8)
  (fun s s' h => b_nfaCheckq1_2 n x2_0 x2_1 x2_2 x2_3 x2_5 x2_6 x2_7 x2_8 s (.inl s') h)
  (fun s r h => b_nfaCheckq1_2 n x2_0 x2_1 x2_2 x2_3 x2_5 x2_6 x2_7 x2_8 s (.inr r) h)
  (fun r => by intro hx; rcases r with _ | _ <;> cases hx) h
def S_nfaCheckq1_1 (x1_0 : WL rw_uuuu) (x1_1 : WL rw_L) (x1_2 : NL) (x1_3 : Int) (x1_4 : Int) (st : Int) : XSt := match st with
 | x1_5 => (sT 80 [(1, (pN 0 0)), (3, (i6 x1_3)), (41, (wlV x1_1)), (42, (i6 x1_4)), (43, (i6 x1_5))], [], ⟨sB [(0, (some (.cells (layT [(wlV x1_0), (wlV x1_1), (nlV x1_2)]) 26)))], 1, 0⟩)
def X_nfaCheckq1_1 (x1_0 : WL rw_uuuu) (x1_1 : WL rw_L) (x1_2 : NL) (x1_3 : Int) (x1_4 : Int) (r : (Unit) ⊕ (Unit)) : Ex × XSt := match r with
 | .inl _ => (.ret, (sT 80 [(2, (i6 (2 : Int)))], [], ⟨sB [], 0, 0⟩))
 | .inr _ => (.exit 0, (sT 80 [], [], ⟨sB [], 0, 0⟩))
abbrev Q_nfaCheckq1_1 (rnd : Option Nat) (x1_0 : WL rw_uuuu) (x1_1 : WL rw_L) (x1_2 : NL) (x1_3 : Int) (x1_4 : Int) (st : Int) (c : Ex × XSt) : Prop := CG P rnd (fnN P 7) 0 (codeOf P 7 [false, false, true, false, true, true, true]) (S_nfaCheckq1_1 x1_0 x1_1 x1_2 x1_3 x1_4 st) c
abbrev U_nfaCheckq1_1 (rd : Option Nat) (x1_0 : WL rw_uuuu) (x1_1 : WL rw_L) (x1_2 : NL) (x1_3 : Int) (x1_4 : Int) (st : Int) (r : (Unit) ⊕ (Unit)) : Prop := CG P rd (fnN P 7) 0 (codeOf P 7 [false, true, false, true, true, true]) (S_nfaCheckq1_1 x1_0 x1_1 x1_2 x1_3 x1_4 st) (X_nfaCheckq1_1 x1_0 x1_1 x1_2 x1_3 x1_4 r)
def B_nfaCheckq1_1 (n : Nat) (x1_0 : WL rw_uuuu) (x1_1 : WL rw_L) (x1_2 : NL) (x1_3 : Int) (x1_4 : Int) (st : Int) : Option ((Int) ⊕ ((Unit) ⊕ (Unit))) := match st with
 | x1_5 =>
  if x1_5 < x1_4 then
   if 0 ≤ x1_5 ∧ x1_5 < (((x1_1).l.length : Nat) : Int) then
    ((some (((x1_1).l).getD (x1_5).toNat (nl0)))).bind fun y1_3_ =>
    if 0 ≤ x1_5 ∧ x1_5 < (((x1_2).l.length : Nat) : Int) then
     if (x1_5).toNat < ((x1_2).l).length then
      ((some (((x1_2).l).getD (x1_5).toNat 0))).bind fun y1_6_ =>
      if y1_6_ < (-1 : Int) then
       some (.inr (.inl ()))
      else
       if y1_6_ ≥ (16 : Int) then
        some (.inr (.inl ()))
       else
        match m_nfaCheckq1_2 n x1_0 x1_1 x1_2 x1_3 x1_4 x1_5 y1_3_ (((y1_3_).l.length : Nat) : Int) (1, 0) with
        | none => none
        | some (.inl _) =>
         some (.inr (.inl ()))
        | some (.inr _) =>
         some (.inl (w64 (x1_5 + (1 : Int))))
     else none
    else none
   else none
  else
   some (.inr (.inr ()))
def m_nfaCheckq1_1 (n : Nat) (x1_0 : WL rw_uuuu) (x1_1 : WL rw_L) (x1_2 : NL) (x1_3 : Int) (x1_4 : Int) (st : Int) : Option ((Unit) ⊕ (Unit)) := iterM (B_nfaCheckq1_1 n x1_0 x1_1 x1_2 x1_3 x1_4) n st
theorem b_nfaCheckq1_1 (n : Nat) {rnd : Option Nat} (x1_0 : WL rw_uuuu) (x1_1 : WL rw_L) (x1_2 : NL) (x1_3 : Int) (x1_4 : Int) (x1_5 : Int) (o : (Int) ⊕ ((Unit) ⊕ (Unit))) (h : B_nfaCheckq1_1 n x1_0 x1_1 x1_2 x1_3 x1_4 x1_5 = some o) : CG P rnd (fnN P 7) 0 (codeOf P 7 [false, false, true, false, true, true, true]) (S_nfaCheckq1_1 x1_0 x1_1 x1_2 x1_3 x1_4 x1_5) (Sum.elim (fun s => (.normal, S_nfaCheckq1_1 x1_0 x1_1 x1_2 x1_3 x1_4 s)) (fun r => X_nfaCheckq1_1 x1_0 x1_1 x1_2 x1_3 x1_4 r) o) := by
 unfold B_nfaCheckq1_1 at h
 dsimp only at h
 by_cases hy1_1 : x1_5 < x1_4
 ·rw [if_pos hy1_1] at h
  obtain ⟨hy1_2, h⟩ := gd h
  obtain ⟨y1_3_, hy1_3, h⟩ := oB h
  obtain ⟨hy1_4, h⟩ := gd h
  obtain ⟨hy1_5, h⟩ := gd h
  obtain ⟨y1_6_, hy1_6, h⟩ := oB h
  have k0 := fun {A L l} (k : PL A L l) => zz 1 (xdT hy1_1) <|
   zz 8 (xk1 (x1_1).num (x1_1).off (x1_1).cap hy1_2) <|
   zz 9 (lk2 hy1_3 (toNatLt hy1_2)) <|
   zz 17 (xk5 (Nat.add (x1_2).num 64) (x1_2).off (x1_2).cap hy1_4) <|
   zz 18 (nk6 hy1_6 hy1_5) <|
   k
  by_cases hy1_7 : y1_6_ < (-1 : Int)
  ·rw [if_pos hy1_7] at h
   obtain rfl := oI h
   exact runC2 hm ⟨[2], [], 0, 0, [], false, [], [], []⟩ (k0 <|
    zz 19 (xdT hy1_7) <|
    ee) (by kernel_rfl)
  ·rw [if_neg hy1_7] at h
   have k5 := fun {A L l} (k : PL A L l) => zz 19 (xdF hy1_7) <|
    zz 24 (xk5 (Nat.add (x1_2).num 64) (x1_2).off (x1_2).cap hy1_4) <|
    zz 25 (nk6 hy1_6 hy1_5) <|
    k
   by_cases hy1_8 : y1_6_ ≥ (16 : Int)
   ·rw [if_pos hy1_8] at h
    obtain rfl := oI h
    exact runC2 hm ⟨[2], [], 0, 0, [], false, [], [], []⟩ (k0 <|
     k5 <|
     zz 26 (xdT hy1_8) <|
     ee) (by kernel_rfl)
   ·rw [if_neg hy1_8] at h
    have k8 := fun {A L l} (k : PL A L l) => zz 26 (xdF hy1_8) <|
     k
    rcases hy1_9 : m_nfaCheckq1_2 n x1_0 x1_1 x1_2 x1_3 x1_4 x1_5 y1_3_ (((y1_3_).l.length : Nat) : Int) (1, 0) with _ | (⟨⟩ | ⟨⟩)
    ·rw [hy1_9] at h; cases h
    ·rw [hy1_9] at h
     dsimp only at h
     obtain rfl := oI h
     exact runC2 hm ⟨[2], [], 0, 0, [], false, [], [], []⟩ (k0 <|
      k5 <|
      k8 <|
      ww (p := U_nfaCheckq1_2 rnd x1_0 x1_1 x1_2 x1_3 x1_4 x1_5 y1_3_ (((y1_3_).l.length : Nat) : Int) (1, 0) (.inl ())) (m_nfaCheckq1_2_ok n x1_0 x1_1 x1_2 x1_3 x1_4 x1_5 y1_3_ (((y1_3_).l.length : Nat) : Int) (1, 0) (.inl ()) hy1_9) <|
      ll 36 ⟨⟨[1, 3, 6, 41, 42, 43, 62, 63, 64], [(0, 0, false)], 1, 0, [], false, [], [], []⟩, (X_nfaCheckq1_2 x1_0 x1_1 x1_2 x1_3 x1_4 x1_5 y1_3_ (((y1_3_).l.length : Nat) : Int) (.inl ())).1, (X_nfaCheckq1_2 x1_0 x1_1 x1_2 x1_3 x1_4 x1_5 y1_3_ (((y1_3_).l.length : Nat) : Int) (.inl ())).2⟩ <|
      ee) (by kernel_rfl)
    ·rw [hy1_9] at h
     dsimp only at h
     obtain rfl := oI h
     exact runC2 hm ⟨[1, 3, 41, 42, 43], [(0, 0, false)], 1, 0, [], false, [], [], []⟩ (k0 <|
      k5 <|
      k8 <|
      ww (p := U_nfaCheckq1_2 rnd x1_0 x1_1 x1_2 x1_3 x1_4 x1_5 y1_3_ (((y1_3_).l.length : Nat) : Int) (1, 0) (.inr ())) (m_nfaCheckq1_2_ok n x1_0 x1_1 x1_2 x1_3 x1_4 x1_5 y1_3_ (((y1_3_).l.length : Nat) : Int) (1, 0) (.inr ()) hy1_9) <|
      ll 36 ⟨⟨[1, 3, 6, 41, 42, 43, 62, 63, 64], [(0, 0, false)], 1, 0, [], false, [], [], []⟩, (X_nfaCheckq1_2 x1_0 x1_1 x1_2 x1_3 x1_4 x1_5 y1_3_ (((y1_3_).l.length : Nat) : Int) (.inr ())).1, (X_nfaCheckq1_2 x1_0 x1_1 x1_2 x1_3 x1_4 x1_5 y1_3_ (((y1_3_).l.length : Nat) : Int) (.inr ())).2⟩ <|
      ee) (by kernel_rfl)
 ·rw [if_neg hy1_1] at h
  obtain rfl := oI h
  exact runC2 hm ⟨[], [], 0, 0, [], false, [], [], []⟩ (zz 1 (xdF hy1_1) <|
   ee) (by kernel_rfl)
theorem m_nfaCheckq1_1_ok (n : Nat) {rnd : Option Nat} (x1_0 : WL rw_uuuu) (x1_1 : WL rw_L) (x1_2 : NL) (x1_3 : Int) (x1_4 : Int) (st : Int) (r : (Unit) ⊕ (Unit)) (h : m_nfaCheckq1_1 n x1_0 x1_1 x1_2 x1_3 x1_4 st = some r) : CG P rnd (fnN P 7) 0 (codeOf P 7 [false, true, false, true, true, true]) (S_nfaCheckq1_1 x1_0 x1_1 x1_2 x1_3 x1_4 st) (X_nfaCheckq1_1 x1_0 x1_1 x1_2 x1_3 x1_4 r) :=
 CG.iter (b := codeOf P 7 [false, false, true, false, true, true, true]) (by kernel_rfl) (body := B_nfaCheckq1_1 n x1_0 x1_1 x1_2 x1_3 x1_4) (S := S_nfaCheckq1_1 x1_0 x1_1 x1_2 x1_3 x1_4) (X := X_nfaCheckq1_1 x1_0 x1_1 x1_2 x1_3 x1_4)
  (fun s s' h => b_nfaCheckq1_1 n x1_0 x1_1 x1_2 x1_3 x1_4 s (.inl s') h)
  (fun s r h => b_nfaCheckq1_1 n x1_0 x1_1 x1_2 x1_3 x1_4 s (.inr r) h)
  (fun r => by intro hx; rcases r with _ | _ <;> cases hx) h
def m_nfaCheckq1 (n : Nat) (a0 : WL rw_uuuu) (a1 : WL rw_L) (a2 : NL) : Option (Int) :=
 if (((a0).l.length : Nat) : Int) < (1 : Int) then
  some 2
 else
  if (((a0).l.length : Nat) : Int) > (1024 : Int) then
   some 2
  else
   if (((a1).l.length : Nat) : Int) = (((a0).l.length : Nat) : Int) then
    if (((a2).l.length : Nat) : Int) = (((a0).l.length : Nat) : Int) then
     if 0 ≤ (0 : Int) ∧ (0 : Int) < (((a0).l.length : Nat) : Int) then
      ((some (((a0).l).getD ((0 : Int)).toNat (0, 0, 0, 0)))).bind fun c6_ =>
      if (!(((c6_.1) == (0 : Int)) && (((c6_.2.1) == (0 : Int)) && (((c6_.2.2.1) == (0 : Int)) && (((c6_.2.2.2) == (0 : Int)) && true))))) = true then
       some 2
      else
       match m_nfaCheckq1_1 n a0 a1 a2 (((a0).l.length : Nat) : Int) (((a1).l.length : Nat) : Int) 0 with
       | none => none
       | some (.inl _) =>
        some 2
       | some (.inr _) =>
        some 0
     else none
    else
     some 2
   else
    some 2
theorem m_nfaCheckq1_ok (n : Nat) (a0 : WL rw_uuuu) (a1 : WL rw_L) (a2 : NL) (r : Int) (h : m_nfaCheckq1 n a0 a1 a2 = some r) : Gv P (.func 7) (A_nfaCheckq1 a0 a1 a2) (H_nfaCheckq1 a0 a1 a2) (V_nfaCheckq1 a0 a1 a2 r) (R_nfaCheckq1 a0 a1 a2 r) := by
 unfold m_nfaCheckq1 at h
 by_cases hc1 : (((a0).l.length : Nat) : Int) < (1 : Int)
 ·rw [if_pos hc1] at h
  obtain rfl := oI h
  exact runF2 hm ⟨[2], [], 0, 0, [], false, [], [], []⟩ (zz 11 (xdT hc1) <|
   ee) (by kernel_rfl)
 ·rw [if_neg hc1] at h
  have k0 := fun {A L l} (k : PL A L l) => zz 11 (xdF hc1) <|
   k
  by_cases hc2 : (((a0).l.length : Nat) : Int) > (1024 : Int)
  ·rw [if_pos hc2] at h
   obtain rfl := oI h
   exact runF2 hm ⟨[2], [], 0, 0, [], false, [], [], []⟩ (k0 <|
    zz 14 (xdT hc2) <|
    ee) (by kernel_rfl)
  ·rw [if_neg hc2] at h
   have k1 := fun {A L l} (k : PL A L l) => zz 14 (xdF hc2) <|
    k
   by_cases hc3 : (((a1).l.length : Nat) : Int) = (((a0).l.length : Nat) : Int)
   ·rw [if_pos hc3] at h
    have k2 := fun {A L l} (k : PL A L l) => zz 21 (xnF hc3) <|
     k
    by_cases hc4 : (((a2).l.length : Nat) : Int) = (((a0).l.length : Nat) : Int)
    ·rw [if_pos hc4] at h
     obtain ⟨hc5, h⟩ := gd h
     obtain ⟨c6_, hc6, h⟩ := oB h
     have k3 := fun {A L l} (k : PL A L l) => zz 28 (xnF hc4) <|
      zz 33 (xk3 (a0).num (a0).off (a0).cap hc5) <|
      zz 34 (lk4 hc6 (toNatLt hc5)) <|
      k
     by_cases hc7 : (!(((c6_.1) == (0 : Int)) && (((c6_.2.1) == (0 : Int)) && (((c6_.2.2.1) == (0 : Int)) && (((c6_.2.2.2) == (0 : Int)) && true))))) = true
     ·rw [if_pos hc7] at h
      obtain rfl := oI h
      exact runF2 hm ⟨[2], [], 0, 0, [], false, [], [], []⟩ (k0 <|
       k1 <|
       k2 <|
       k3 <|
       zz 38 (xbT hc7) <|
       ee) (by kernel_rfl)
     ·rw [if_neg hc7] at h
      have k6 := fun {A L l} (k : PL A L l) => zz 38 (xbF hc7) <|
       k
      rcases hc8 : m_nfaCheckq1_1 n a0 a1 a2 (((a0).l.length : Nat) : Int) (((a1).l.length : Nat) : Int) 0 with _ | (⟨⟩ | ⟨⟩)
      ·rw [hc8] at h; cases h
      ·rw [hc8] at h
       dsimp only at h
       obtain rfl := oI h
       exact runF2 hm ⟨[2], [], 0, 0, [], false, [], [], []⟩ (k0 <|
        k1 <|
        k2 <|
        k3 <|
        k6 <|
        ww (p := U_nfaCheckq1_1 none a0 a1 a2 (((a0).l.length : Nat) : Int) (((a1).l.length : Nat) : Int) 0 (.inl ())) (m_nfaCheckq1_1_ok n a0 a1 a2 (((a0).l.length : Nat) : Int) (((a1).l.length : Nat) : Int) 0 (.inl ()) hc8) <|
        ll 46 ⟨⟨[1, 3, 41, 42, 43], [(0, 0, false)], 1, 0, [], false, [], [], []⟩, (X_nfaCheckq1_1 a0 a1 a2 (((a0).l.length : Nat) : Int) (((a1).l.length : Nat) : Int) (.inl ())).1, (X_nfaCheckq1_1 a0 a1 a2 (((a0).l.length : Nat) : Int) (((a1).l.length : Nat) : Int) (.inl ())).2⟩ <|
        ee) (by kernel_rfl)
      ·rw [hc8] at h
       dsimp only at h
       obtain rfl := oI h
       exact runF2 hm ⟨[2], [], 0, 0, [], false, [], [], []⟩ (k0 <|
        k1 <|
        k2 <|
        k3 <|
        k6 <|
        ww (p := U_nfaCheckq1_1 none a0 a1 a2 (((a0).l.length : Nat) : Int) (((a1).l.length : Nat) : Int) 0 (.inr ())) (m_nfaCheckq1_1_ok n a0 a1 a2 (((a0).l.length : Nat) : Int) (((a1).l.length : Nat) : Int) 0 (.inr ()) hc8) <|
        ll 46 ⟨⟨[1, 3, 41, 42, 43], [(0, 0, false)], 1, 0, [], false, [], [], []⟩, (X_nfaCheckq1_1 a0 a1 a2 (((a0).l.length : Nat) : Int) (((a1).l.length : Nat) : Int) (.inr ())).1, (X_nfaCheckq1_1 a0 a1 a2 (((a0).l.length : Nat) : Int) (((a1).l.length : Nat) : Int) (.inr ())).2⟩ <|
        ee) (by kernel_rfl)
    ·rw [if_neg hc4] at h
     obtain rfl := oI h
     exact runF2 hm ⟨[2], [], 0, 0, [], false, [], [], []⟩ (k0 <|
      k1 <|
      k2 <|
      zz 28 (xnT hc4) <|
      ee) (by kernel_rfl)
   ·rw [if_neg hc3] at h
    obtain rfl := oI h
    exact runF2 hm ⟨[2], [], 0, 0, [], false, [], [], []⟩ (k0 <|
     k1 <|
     zz 21 (xnT hc3) <|
     ee) (by kernel_rfl)

def A_classHasq1 (a0 : Int) (a1 : Int) (a2 : Int) (a3 : Int) (a4 : Int) : List Value := [(Value.agg #[(Value.int .u64 a0), (Value.int .u64 a1), (Value.int .u64 a2), (Value.int .u64 a3)]), (Value.int .u8 a4)]
def H_classHasq1 (a0 : Int) (a1 : Int) (a2 : Int) (a3 : Int) (a4 : Int) : AH := ⟨sB [], 0, 0⟩
def V_classHasq1 (a0 : Int) (a1 : Int) (a2 : Int) (a3 : Int) (a4 : Int) (r : Bool) : Value := match r with
 | o0 => (bO o0)
def R_classHasq1 (a0 : Int) (a1 : Int) (a2 : Int) (a3 : Int) (a4 : Int) (r : Bool) : AH := match r with
 | o0 => ⟨sB [], 0, 0⟩
abbrev G_classHasq1 (a0 : Int) (a1 : Int) (a2 : Int) (a3 : Int) (a4 : Int) (r : Bool) : Prop := Gv P (.func 25) (A_classHasq1 a0 a1 a2 a3 a4) (H_classHasq1 a0 a1 a2 a3 a4) (V_classHasq1 a0 a1 a2 a3 a4 r) (R_classHasq1 a0 a1 a2 a3 a4 r)
abbrev C_classHasq1 (a0 : Int) (a1 : Int) (a2 : Int) (a3 : Int) (a4 : Int) (r : Bool) (ins outs : BL) : CallA := ⟨0, ins, V_classHasq1 a0 a1 a2 a3 a4 r, R_classHasq1 a0 a1 a2 a3 a4 r, outs⟩
def m_classHasq1 (n : Nat) (a0 : Int) (a1 : Int) (a2 : Int) (a3 : Int) (a4 : Int) : Option (Bool) :=
 if ¬ ((64 : Int) = 0) then
  if 0 ≤ (IntKind.u8.wrap (Int.tdiv a4 (64 : Int))) ∧ (IntKind.u8.wrap (Int.tdiv a4 (64 : Int))) < ((4 : Nat) : Int) then
   if ((IntKind.u8.wrap (Int.tdiv a4 (64 : Int)))).toNat < ([a0, a1, a2, a3]).length then
    ((some (([a0, a1, a2, a3]).getD ((IntKind.u8.wrap (Int.tdiv a4 (64 : Int)))).toNat (0)))).bind fun c4_ =>
    if 0 ≤ (Int.tmod a4 (64 : Int)) then
     ((some (bAnd .u64 (shrV .u64 c4_ (Int.tmod a4 (64 : Int))) (1 : Int)))).bind fun c6_ =>
     if c6_ = (1 : Int) then
      some true
     else
      some false
    else none
   else none
  else none
 else none
theorem m_classHasq1_ok (n : Nat) (a0 : Int) (a1 : Int) (a2 : Int) (a3 : Int) (a4 : Int) (r : Bool) (h : m_classHasq1 n a0 a1 a2 a3 a4 = some r) : Gv P (.func 25) (A_classHasq1 a0 a1 a2 a3 a4) (H_classHasq1 a0 a1 a2 a3 a4) (V_classHasq1 a0 a1 a2 a3 a4 r) (R_classHasq1 a0 a1 a2 a3 a4 r) := by
 unfold m_classHasq1 at h
 obtain ⟨hc1, h⟩ := gd h
 obtain ⟨hc2, h⟩ := gd h
 obtain ⟨hc3, h⟩ := gd h
 obtain ⟨c4_, hc4, h⟩ := oB h
 obtain ⟨hc5, h⟩ := gd h
 obtain ⟨c6_, hc6, h⟩ := oB h
 have k0 := fun {A L l} (k : PL A L l) => yy 5 (.pur (Value.int .u8 (IntKind.u8.wrap (Int.tdiv a4 (64 : Int))))) <|
  ww (p := opBin P .quo 5 (.tmp 5) (.const (Value.int .u8 (64 : Int))) (Value.int .u8 a4) (Value.int .u8 (64 : Int)) Ax.h0 = some ((Value.int .u8 (IntKind.u8.wrap (Int.tdiv a4 (64 : Int)))), Ax.h0)) (quo_u8 hc1) <|
  yy 6 (.pur (pN 0 (((IntKind.u8.wrap (Int.tdiv a4 (64 : Int)))).toNat * 1))) <|
  ww (p := opIndexAddr P 36 (pN 0 0) (Value.int .u8 (IntKind.u8.wrap (Int.tdiv a4 (64 : Int)))) Ax.h0 = some ((pN 0 (((IntKind.u8.wrap (Int.tdiv a4 (64 : Int)))).toNat * 1)), Ax.h0)) (ixArr (es := 1) (e := 34) (m := 4) (by kernel_rfl) (by kernel_rfl) hc2) <|
  zz 7 (ok8 hc4 (hc3)) <|
  yy 9 (.pur (Value.int .u8 (Int.tmod a4 (64 : Int)))) <|
  ww (p := opBin P .rem 5 (.tmp 9) (.const (Value.int .u8 (64 : Int))) (Value.int .u8 a4) (Value.int .u8 (64 : Int)) Ax.h0 = some ((Value.int .u8 (Int.tmod a4 (64 : Int))), Ax.h0)) (rem_u8 (by decide)) <|
  yy 10 (.pur (Value.int .u64 (shrV .u64 c4_ (Int.tmod a4 (64 : Int))))) <|
  ww (p := opBin P .shr 34 (.tmp 8) (.tmp 10) (Value.int .u64 c4_) (Value.int .u8 (Int.tmod a4 (64 : Int))) Ax.h0 = some ((Value.int .u64 (shrV .u64 c4_ (Int.tmod a4 (64 : Int)))), Ax.h0)) (shr_u64_u8 hc5) <|
  zz 11 (xnmK (k := .u64) hc6) <|
  k
 by_cases hc7 : c6_ = (1 : Int)
 ·rw [if_pos hc7] at h
  obtain rfl := oI h
  exact runF2 hm ⟨[4], [], 0, 0, [], false, [], [], []⟩ (k0 <|
   zz 12 (xeT hc7) <|
   ee) (by kernel_rfl)
 ·rw [if_neg hc7] at h
  obtain rfl := oI h
  exact runF2 hm ⟨[4], [], 0, 0, [], false, [], [], []⟩ (k0 <|
   zz 12 (xeF hc7) <|
   ee) (by kernel_rfl)

def A_nfasetsortedq1 (a0 : MapI Unit) : List Value := [(Value.map (some 0))]
def H_nfasetsortedq1 (a0 : MapI Unit) : AH := ⟨sB [(0, (some (.map (mEs mvU a0) (mLen a0))))], 1, 1⟩
def V_nfasetsortedq1 (a0 : MapI Unit) (r : NL) : Value := match r with
 | o0 => (nlV o0)
def R_nfasetsortedq1 (a0 : MapI Unit) (r : NL) : AH := match r with
 | o0 => ⟨sB [], 1, 1⟩
abbrev G_nfasetsortedq1 (a0 : MapI Unit) (r : NL) : Prop := Gv P (.func 26) (A_nfasetsortedq1 a0) (H_nfasetsortedq1 a0) (V_nfasetsortedq1 a0 r) (R_nfasetsortedq1 a0 r)
abbrev C_nfasetsortedq1 (a0 : MapI Unit) (r : NL) (ins outs : BL) : CallA := ⟨1, ins, V_nfasetsortedq1 a0 r, R_nfasetsortedq1 a0 r, outs⟩
def m_nfasetsortedq1 (n : Nat) (a0 : MapI Unit) : Option (NL) :=
 (m_mapsKeysnfasetintstructu n a0).bind fun _ =>
 match m_slicesSortedintu n a0 with
 | none => none
 | some (.inl _) =>
  some nl0
 | some (.inr c2_) =>
  if hc3 : c2_.length ≤ 140737488355328 then
   some (frzL c2_ hc3)
  else none
theorem m_nfasetsortedq1_ok (n : Nat) (a0 : MapI Unit) (r : NL) (h : m_nfasetsortedq1 n a0 = some r) : Gv P (.func 26) (A_nfasetsortedq1 a0) (H_nfasetsortedq1 a0) (V_nfasetsortedq1 a0 r) (R_nfasetsortedq1 a0 r) := by
 unfold m_nfasetsortedq1 at h
 obtain ⟨_, hc1, h⟩ := oB h
 have k0 := fun {A L l} (k : PL A L l) => yy 4 (.call (C_mapsKeysnfasetintstructu a0 () [(0, 0, true)] [(1, 1, false)])) <|
  ww (m_mapsKeysnfasetintstructu_ok n a0 () hc1) <|
  ww (mflat mvU (fun _ => rfl) a0 (mLen a0)) <|
  k
 rcases hc2 : m_slicesSortedintu n a0 with _ | (⟨⟩ | c2_)
 ·rw [hc2] at h; cases h
 ·rw [hc2] at h
  dsimp only at h
  obtain rfl := oI h
  exact runF2 hm ⟨[2], [], 1, 1, [], true, [], [], [2]⟩ (k0 <|
   yy 5 (.call (C_slicesSortedintu a0 (.inl ()) [(0, 1, false), (1, 0, true)] [])) <|
   ww (m_slicesSortedintu_ok n a0 (.inl ()) hc2) <|
   ww (mflat mvU (fun _ => rfl) a0 (mLen a0)) <|
   ee) (by kernel_rfl)
 ·rw [hc2] at h
  dsimp only at h
  obtain ⟨hc3, h⟩ := gdD h
  obtain rfl := oI h
  exact runF2 hm ⟨[2], [], 1, 1, [(2, Nat.add (2 * cod c2_ + 1) 64)], true, [], [], []⟩ (k0 <|
   yy 5 (.call (C_slicesSortedintu a0 (.inr c2_) [(0, 1, false), (1, 0, true)] [(2, 2, true)])) <|
   ww (m_slicesSortedintu_ok n a0 (.inr c2_) hc2) <|
   ww (mflat mvU (fun _ => rfl) a0 (mLen a0)) <|
   ww (iv_flat c2_ 3) <|
   ww (frz_ok wins_nest wins_odd c2_) <|
   ee) (by kernel_rfl)

def A_nfastepq1 (a0 : WL rw_uuuu) (a1 : WL rw_L) (a2 : NL) (a3 : List Int) (a4 : Int) : List Value := [(Value.agg #[(wlV a0), (wlV a1), (nlV a2)]), (sN 0 0 (a3).length 1), (Value.int .u8 a4)]
def H_nfastepq1 (a0 : WL rw_uuuu) (a1 : WL rw_L) (a2 : NL) (a3 : List Int) (a4 : Int) : AH := ⟨sB [(0, (some (.cells (layT (iv a3)) 3)))], 1, 1⟩
def V_nfastepq1 (a0 : WL rw_uuuu) (a1 : WL rw_L) (a2 : NL) (a3 : List Int) (a4 : Int) (r : NL) : Value := match r with
 | o0 => (nlV o0)
def R_nfastepq1 (a0 : WL rw_uuuu) (a1 : WL rw_L) (a2 : NL) (a3 : List Int) (a4 : Int) (r : NL) : AH := match r with
 | o0 => ⟨sB [], 1, 1⟩
abbrev G_nfastepq1 (a0 : WL rw_uuuu) (a1 : WL rw_L) (a2 : NL) (a3 : List Int) (a4 : Int) (r : NL) : Prop := Gv P (.func 18) (A_nfastepq1 a0 a1 a2 a3 a4) (H_nfastepq1 a0 a1 a2 a3 a4) (V_nfastepq1 a0 a1 a2 a3 a4 r) (R_nfastepq1 a0 a1 a2 a3 a4 r)
abbrev C_nfastepq1 (a0 : WL rw_uuuu) (a1 : WL rw_L) (a2 : NL) (a3 : List Int) (a4 : Int) (r : NL) (ins outs : BL) : CallA := ⟨1, ins, V_nfastepq1 a0 a1 a2 a3 a4 r, R_nfastepq1 a0 a1 a2 a3 a4 r, outs⟩
def S_nfastepq1_2 (x2_0 : List Int) (x2_1 : Int) (x2_2 : WL rw_uuuu) (x2_3 : WL rw_L) (x2_4 : NL) (x2_6 : Int) (x2_7 : Int) (x2_8 : NL) (x2_9 : Int) (st : MapI Unit × Int) : XSt := match st with
 | (x2_5, x2_10) => (sT 52 [(2, (Value.int .u8 x2_1)), (3, (pN 1 0)), (7, (Value.map (some 2))), (13, (sN 0 0 (x2_0).length 1)), (14, (i6 x2_6)), (15, (i6 x2_7)), (32, (nlV x2_8)), (33, (i6 x2_9)), (34, (i6 x2_10))], [], ⟨sB [(0, (some (.cells (layT (iv x2_0)) 3))), (1, (some (.cells (layT [(wlV x2_2), (wlV x2_3), (nlV x2_4)]) 26))), (2, (some (.map (mEs mvU x2_5) (mLen x2_5))))], 3, 1⟩)
def X_nfastepq1_2 (x2_0 : List Int) (x2_1 : Int) (x2_2 : WL rw_uuuu) (x2_3 : WL rw_L) (x2_4 : NL) (x2_6 : Int) (x2_7 : Int) (x2_8 : NL) (x2_9 : Int) (r : MapI Unit) : Ex × XSt := match r with
 | z2_0 => (.exit 2, (sT 52 [(2, (Value.int .u8 x2_1)), (3, (pN 1 0)), (7, (Value.map (some 2))), (13, (sN 0 0 (x2_0).length 1)), (14, (i6 x2_6)), (15, (i6 x2_7))], [], ⟨sB [(0, (some (.cells (layT (iv x2_0)) 3))), (1, (some (.cells (layT [(wlV x2_2), (wlV x2_3), (nlV x2_4)]) 26))), (2, (some (.map (mEs mvU z2_0) (mLen z2_0))))], 3, 1⟩))
abbrev Q_nfastepq1_2 (rnd : Option Nat) (x2_0 : List Int) (x2_1 : Int) (x2_2 : WL rw_uuuu) (x2_3 : WL rw_L) (x2_4 : NL) (x2_6 : Int) (x2_7 : Int) (x2_8 : NL) (x2_9 : Int) (st : MapI Unit × Int) (c : Ex × XSt) : Prop := CG P rnd (fnN P 18) 1 (codeOf P 18 [false, false, true, true, true, false, false, true, true, false, false, true, false, true, true]) (S_nfastepq1_2 x2_0 x2_1 x2_2 x2_3 x2_4 x2_6 x2_7 x2_8 x2_9 st) c
abbrev U_nfastepq1_2 (rd : Option Nat) (x2_0 : List Int) (x2_1 : Int) (x2_2 : WL rw_uuuu) (x2_3 : WL rw_L) (x2_4 : NL) (x2_6 : Int) (x2_7 : Int) (x2_8 : NL) (x2_9 : Int) (st : MapI Unit × Int) (r : MapI Unit) : Prop := CG P rd (fnN P 18) 1 (codeOf P 18 [false, true, true, true, false, false, true, true, false, false, true, false, true, true]) (S_nfastepq1_2 x2_0 x2_1 x2_2 x2_3 x2_4 x2_6 x2_7 x2_8 x2_9 st) (X_nfastepq1_2 x2_0 x2_1 x2_2 x2_3 x2_4 x2_6 x2_7 x2_8 x2_9 r)
def B_nfastepq1_2 (n : Nat) (x2_0 : List Int) (x2_1 : Int) (x2_2 : WL rw_uuuu) (x2_3 : WL rw_L) (x2_4 : NL) (x2_6 : Int) (x2_7 : Int) (x2_8 : NL) (x2_9 : Int) (st : MapI Unit × Int) : Option ((MapI Unit × Int) ⊕ (MapI Unit)) := match st with
 | (x2_5, x2_10) =>
  if x2_10 < x2_9 then
   if 0 ≤ x2_10 ∧ x2_10 < (((x2_8).l.length : Nat) : Int) then
    if (x2_10).toNat < ((x2_8).l).length then
     ((some (((x2_8).l).getD (x2_10).toNat 0))).bind fun y2_4_ =>
     if 0 ≤ y2_4_ ∧ y2_4_ < (((x2_2).l.length : Nat) : Int) then
      ((some (((x2_2).l).getD (y2_4_).toNat (0, 0, 0, 0)))).bind fun y2_6_ =>
      (m_classHasq1 n (y2_6_.1) (y2_6_.2.1) (y2_6_.2.2.1) (y2_6_.2.2.2) x2_1).bind fun y2_7_ =>
      if y2_7_ = true then
       some (.inl ((mPut x2_5 y2_4_ ()), (w64 (x2_10 + (1 : Int)))))
      else
       some (.inl (x2_5, (w64 (x2_10 + (1 : Int)))))
     else none
    else none
   else none
  else
   some (.inr x2_5)
def m_nfastepq1_2 (n : Nat) (x2_0 : List Int) (x2_1 : Int) (x2_2 : WL rw_uuuu) (x2_3 : WL rw_L) (x2_4 : NL) (x2_6 : Int) (x2_7 : Int) (x2_8 : NL) (x2_9 : Int) (st : MapI Unit × Int) : Option (MapI Unit) := iterM (B_nfastepq1_2 n x2_0 x2_1 x2_2 x2_3 x2_4 x2_6 x2_7 x2_8 x2_9) n st
theorem b_nfastepq1_2 (n : Nat) {rnd : Option Nat} (x2_0 : List Int) (x2_1 : Int) (x2_2 : WL rw_uuuu) (x2_3 : WL rw_L) (x2_4 : NL) (x2_6 : Int) (x2_7 : Int) (x2_8 : NL) (x2_9 : Int) (st : MapI Unit × Int) (o : (MapI Unit × Int) ⊕ (MapI Unit)) (h : B_nfastepq1_2 n x2_0 x2_1 x2_2 x2_3 x2_4 x2_6 x2_7 x2_8 x2_9 st = some o) : CG P rnd (fnN P 18) 1 (codeOf P 18 [false, false, true, true, true, false, false, true, true, false, false, true, false, true, true]) (S_nfastepq1_2 x2_0 x2_1 x2_2 x2_3 x2_4 x2_6 x2_7 x2_8 x2_9 st) (Sum.elim (fun s => (.normal, S_nfastepq1_2 x2_0 x2_1 x2_2 x2_3 x2_4 x2_6 x2_7 x2_8 x2_9 s)) (fun r => X_nfastepq1_2 x2_0 x2_1 x2_2 x2_3 x2_4 x2_6 x2_7 x2_8 x2_9 r) o) := by
 obtain ⟨x2_5, x2_10⟩ := st
 unfold B_nfastepq1_2 at h
 dsimp only at h
 by_cases hy2_1 : x2_10 < x2_9
 ·rw [if_pos hy2_1] at h
  obtain ⟨hy2_2, h⟩ := gd h
  obtain ⟨hy2_3, h⟩ := gd h
  obtain ⟨y2_4_, hy2_4, h⟩ := oB h
  obtain ⟨hy2_5, h⟩ := gd h
  obtain ⟨y2_6_, hy2_6, h⟩ := oB h
  obtain ⟨y2_7_, hy2_7, h⟩ := oB h
  have k0 := fun {A L l} (k : PL A L l) => zz 1 (xdT hy2_1) <|
   zz 7 (xk5 (Nat.add (x2_8).num 64) (x2_8).off (x2_8).cap hy2_2) <|
   zz 8 (nk6 hy2_4 hy2_3) <|
   zz 14 (xk3 (x2_2).num (x2_2).off (x2_2).cap hy2_5) <|
   zz 15 (lk4 hy2_6 (toNatLt hy2_5)) <|
   yy 17 (.call (C_classHasq1 (y2_6_.1) (y2_6_.2.1) (y2_6_.2.2.1) (y2_6_.2.2.2) x2_1 y2_7_ [] [])) <|
   ww (m_classHasq1_ok n (y2_6_.1) (y2_6_.2.1) (y2_6_.2.2.1) (y2_6_.2.2.2) x2_1 y2_7_ hy2_7) <|
   k
  by_cases hy2_8 : y2_7_ = true
  ·rw [if_pos hy2_8] at h
   obtain rfl := oI h
   exact runC2 hm ⟨[2, 3, 7, 13, 14, 15, 32, 33, 34], [(0, 0, true), (1, 1, false), (2, 2, true)], 3, 1, [], false, [], [], []⟩ (k0 <|
    zz 18 (xbT hy2_8) <|
    yy 22 (.mup (mEs mvU (mPut x2_5 y2_4_ ())) (mLen (mPut x2_5 y2_4_ ()))) <|
    ww (p := oc (findU (.int .i64) (i6 y2_4_) (mEs mvU x2_5) 0) none (fun r => some (updEs (mEs mvU x2_5, mLen x2_5) (i6 y2_4_) (Value.agg #[]) r)) = some (.map (mEs mvU (mPut x2_5 y2_4_ ())) (mLen (mPut x2_5 y2_4_ ())))) (mput_ok mvU _ _ _) <|
    ww (iv_flat x2_0 3) <|
    ww (mflat mvU (fun _ => rfl) (mPut x2_5 y2_4_ ()) (mLen (mPut x2_5 y2_4_ ()))) <|
    ee) (by kernel_rfl)
  ·rw [if_neg hy2_8] at h
   obtain rfl := oI h
   exact runC2 hm ⟨[2, 3, 7, 13, 14, 15, 32, 33, 34], [(0, 0, true), (1, 1, false), (2, 2, true)], 3, 1, [], false, [], [], []⟩ (k0 <|
    zz 18 (xbF hy2_8) <|
    ww (iv_flat x2_0 3) <|
    ww (mflat mvU (fun _ => rfl) x2_5 (mLen x2_5)) <|
    ee) (by kernel_rfl)
 ·rw [if_neg hy2_1] at h
  obtain rfl := oI h
  exact runC2 hm ⟨[2, 3, 7, 13, 14, 15], [(0, 0, true), (1, 1, false), (2, 2, true)], 3, 1, [], false, [], [], []⟩ (zz 1 (xdF hy2_1) <|
   ww (iv_flat x2_0 3) <|
   ww (mflat mvU (fun _ => rfl) x2_5 (mLen x2_5)) <|
   ee) (by kernel_rfl)
theorem m_nfastepq1_2_ok (n : Nat) {rnd : Option Nat} (x2_0 : List Int) (x2_1 : Int) (x2_2 : WL rw_uuuu) (x2_3 : WL rw_L) (x2_4 : NL) (x2_6 : Int) (x2_7 : Int) (x2_8 : NL) (x2_9 : Int) (st : MapI Unit × Int) (r : MapI Unit) (h : m_nfastepq1_2 n x2_0 x2_1 x2_2 x2_3 x2_4 x2_6 x2_7 x2_8 x2_9 st = some r) : CG P rnd (fnN P 18) 1 (codeOf P 18 [false, true, true, true, false, false, true, true, false, false, true, false, true, true]) (S_nfastepq1_2 x2_0 x2_1 x2_2 x2_3 x2_4 x2_6 x2_7 x2_8 x2_9 st) (X_nfastepq1_2 x2_0 x2_1 x2_2 x2_3 x2_4 x2_6 x2_7 x2_8 x2_9 r) :=
 CG.iter (b := codeOf P 18 [false, false, true, true, true, false, false, true, true, false, false, true, false, true, true]) (by kernel_rfl) (body := B_nfastepq1_2 n x2_0 x2_1 x2_2 x2_3 x2_4 x2_6 x2_7 x2_8 x2_9) (S := S_nfastepq1_2 x2_0 x2_1 x2_2 x2_3 x2_4 x2_6 x2_7 x2_8 x2_9) (X := X_nfastepq1_2 x2_0 x2_1 x2_2 x2_3 x2_4 x2_6 x2_7 x2_8 x2_9)
  (fun s s' h => b_nfastepq1_2 n x2_0 x2_1 x2_2 x2_3 x2_4 x2_6 x2_7 x2_8 x2_9 s (.inl s') h)
  (fun s r h => b_nfastepq1_2 n x2_0 x2_1 x2_2 x2_3 x2_4 x2_6 x2_7 x2_8 x2_9 s (.inr r) h)
  (fun r => by intro hx; cases hx) h
def S_nfastepq1_1 (x1_0 : List Int) (x1_1 : Int) (x1_2 : WL rw_uuuu) (x1_3 : WL rw_L) (x1_4 : NL) (x1_6 : Int) (st : MapI Unit × Int) : XSt := match st with
 | (x1_5, x1_7) => (sT 52 [(2, (Value.int .u8 x1_1)), (3, (pN 1 0)), (7, (Value.map (some 2))), (13, (sN 0 0 (x1_0).length 1)), (14, (i6 x1_6)), (15, (i6 x1_7))], [], ⟨sB [(0, (some (.cells (layT (iv x1_0)) 3))), (1, (some (.cells (layT [(wlV x1_2), (wlV x1_3), (nlV x1_4)]) 26))), (2, (some (.map (mEs mvU x1_5) (mLen x1_5))))], 3, 1⟩)
def X_nfastepq1_1 (x1_0 : List Int) (x1_1 : Int) (x1_2 : WL rw_uuuu) (x1_3 : WL rw_L) (x1_4 : NL) (x1_6 : Int) (r : MapI Unit) : Ex × XSt := match r with
 | z1_0 => (.exit 0, (sT 52 [(7, (Value.map (some 1)))], [], ⟨sB [(0, (some (.cells (layT (iv x1_0)) 3))), (1, (some (.map (mEs mvU z1_0) (mLen z1_0))))], 2, 1⟩))
abbrev Q_nfastepq1_1 (rnd : Option Nat) (x1_0 : List Int) (x1_1 : Int) (x1_2 : WL rw_uuuu) (x1_3 : WL rw_L) (x1_4 : NL) (x1_6 : Int) (st : MapI Unit × Int) (c : Ex × XSt) : Prop := CG P rnd (fnN P 18) 1 (codeOf P 18 [false, false, true, false, true, true]) (S_nfastepq1_1 x1_0 x1_1 x1_2 x1_3 x1_4 x1_6 st) c
abbrev U_nfastepq1_1 (rd : Option Nat) (x1_0 : List Int) (x1_1 : Int) (x1_2 : WL rw_uuuu) (x1_3 : WL rw_L) (x1_4 : NL) (x1_6 : Int) (st : MapI Unit × Int) (r : MapI Unit) : Prop := CG P rd (fnN P 18) 1 (codeOf P 18 [false, true, false, true, true]) (S_nfastepq1_1 x1_0 x1_1 x1_2 x1_3 x1_4 x1_6 st) (X_nfastepq1_1 x1_0 x1_1 x1_2 x1_3 x1_4 x1_6 r)
def B_nfastepq1_1 (n : Nat) (x1_0 : List Int) (x1_1 : Int) (x1_2 : WL rw_uuuu) (x1_3 : WL rw_L) (x1_4 : NL) (x1_6 : Int) (st : MapI Unit × Int) : Option ((MapI Unit × Int) ⊕ (MapI Unit)) := match st with
 | (x1_5, x1_7) =>
  if x1_7 < x1_6 then
   if 0 ≤ x1_7 ∧ x1_7 < (((x1_0).length : Nat) : Int) then
    ((some ((x1_0).getD (x1_7).toNat 0))).bind fun y1_3_ =>
    if y1_3_ < (0 : Int) then
     some (.inl (x1_5, (w64 (x1_7 + (1 : Int)))))
    else
     if y1_3_ ≥ (((x1_3).l.length : Nat) : Int) then
      some (.inl (x1_5, (w64 (x1_7 + (1 : Int)))))
     else
      if 0 ≤ y1_3_ ∧ y1_3_ < (((x1_3).l.length : Nat) : Int) then
       ((some (((x1_3).l).getD (y1_3_).toNat (nl0)))).bind fun y1_7_ =>
       (m_nfastepq1_2 n x1_0 x1_1 x1_2 x1_3 x1_4 x1_6 x1_7 y1_7_ (((y1_7_).l.length : Nat) : Int) (x1_5, 0)).bind fun y1_8_ =>
       some (.inl (y1_8_, (w64 (x1_7 + (1 : Int)))))
      else none
   else none
  else
   some (.inr x1_5)
def m_nfastepq1_1 (n : Nat) (x1_0 : List Int) (x1_1 : Int) (x1_2 : WL rw_uuuu) (x1_3 : WL rw_L) (x1_4 : NL) (x1_6 : Int) (st : MapI Unit × Int) : Option (MapI Unit) := iterM (B_nfastepq1_1 n x1_0 x1_1 x1_2 x1_3 x1_4 x1_6) n st
theorem b_nfastepq1_1 (n : Nat) {rnd : Option Nat} (x1_0 : List Int) (x1_1 : Int) (x1_2 : WL rw_uuuu) (x1_3 : WL rw_L) (x1_4 : NL) (x1_6 : Int) (st : MapI Unit × Int) (o : (MapI Unit × Int) ⊕ (MapI Unit)) (h : B_nfastepq1_1 n x1_0 x1_1 x1_2 x1_3 x1_4 x1_6 st = some o) : CG P rnd (fnN P 18) 1 (codeOf P 18 [false, false, true, false, true, true]) (S_nfastepq1_1 x1_0 x1_1 x1_2 x1_3 x1_4 x1_6 st) (Sum.elim (fun s => (.normal, S_nfastepq1_1 x1_0 x1_1 x1_2 x1_3 x1_4 x1_6 s)) (fun r => X_nfastepq1_1 x1_0 x1_1 x1_2 x1_3 x1_4 x1_6 r) o) := by
 obtain ⟨x1_5, x1_7⟩ := st
 unfold B_nfastepq1_1 at h
 dsimp only at h
 by_cases hy1_1 : x1_7 < x1_6
 ·rw [if_pos hy1_1] at h
  obtain ⟨hy1_2, h⟩ := gd h
  obtain ⟨y1_3_, hy1_3, h⟩ := oB h
  have k0 := fun {A L l} (k : PL A L l) => zz 1 (xdT hy1_1) <|
   zz 7 (xk7 0 1 hy1_2) <|
   zz 8 (xivN hy1_3 (toNatLt hy1_2)) <|
   k
  by_cases hy1_4 : y1_3_ < (0 : Int)
  ·rw [if_pos hy1_4] at h
   obtain rfl := oI h
   exact runC2 hm ⟨[2, 3, 7, 13, 14, 15], [(0, 0, true), (1, 1, false), (2, 2, true)], 3, 1, [], false, [], [], []⟩ (k0 <|
    zz 13 (xdT hy1_4) <|
    ww (iv_flat x1_0 3) <|
    ww (mflat mvU (fun _ => rfl) x1_5 (mLen x1_5)) <|
    ee) (by kernel_rfl)
  ·rw [if_neg hy1_4] at h
   have k3 := fun {A L l} (k : PL A L l) => zz 13 (xdF hy1_4) <|
    k
   by_cases hy1_5 : y1_3_ ≥ (((x1_3).l.length : Nat) : Int)
   ·rw [if_pos hy1_5] at h
    obtain rfl := oI h
    exact runC2 hm ⟨[2, 3, 7, 13, 14, 15], [(0, 0, true), (1, 1, false), (2, 2, true)], 3, 1, [], false, [], [], []⟩ (k0 <|
     k3 <|
     zz 19 (xdT hy1_5) <|
     ww (iv_flat x1_0 3) <|
     ww (mflat mvU (fun _ => rfl) x1_5 (mLen x1_5)) <|
     ee) (by kernel_rfl)
   ·rw [if_neg hy1_5] at h
    obtain ⟨hy1_6, h⟩ := gd h
    obtain ⟨y1_7_, hy1_7, h⟩ := oB h
    obtain ⟨y1_8_, hy1_8, h⟩ := oB h
    obtain rfl := oI h
    exact runC2 hm ⟨[2, 3, 7, 13, 14, 15], [(0, 0, true), (1, 1, false), (2, 2, true)], 3, 1, [], false, [], [], []⟩ (k0 <|
     k3 <|
     zz 19 (xdF hy1_5) <|
     zz 26 (xk1 (x1_3).num (x1_3).off (x1_3).cap hy1_6) <|
     zz 27 (lk2 hy1_7 (toNatLt hy1_6)) <|
     ww (p := U_nfastepq1_2 rnd x1_0 x1_1 x1_2 x1_3 x1_4 x1_6 x1_7 y1_7_ (((y1_7_).l.length : Nat) : Int) (x1_5, 0) y1_8_) (m_nfastepq1_2_ok n x1_0 x1_1 x1_2 x1_3 x1_4 x1_6 x1_7 y1_7_ (((y1_7_).l.length : Nat) : Int) (x1_5, 0) y1_8_ hy1_8) <|
     ww (iv_flat x1_0 3) <|
     ww (mflat mvU (fun _ => rfl) x1_5 (mLen x1_5)) <|
     ll 31 ⟨⟨[2, 3, 7, 13, 14, 15, 32, 33, 34], [(0, 0, true), (1, 1, false), (2, 2, true)], 3, 1, [], false, [], [], []⟩, (X_nfastepq1_2 x1_0 x1_1 x1_2 x1_3 x1_4 x1_6 x1_7 y1_7_ (((y1_7_).l.length : Nat) : Int) y1_8_).1, (X_nfastepq1_2 x1_0 x1_1 x1_2 x1_3 x1_4 x1_6 x1_7 y1_7_ (((y1_7_).l.length : Nat) : Int) y1_8_).2⟩ <|
     ww (iv_flat x1_0 3) <|
     ww (mflat mvU (fun _ => rfl) y1_8_ (mLen y1_8_)) <|
     ee) (by kernel_rfl)
 ·rw [if_neg hy1_1] at h
  obtain rfl := oI h
  exact runC2 hm ⟨[7], [(0, 0, true), (1, 2, true)], 2, 1, [], false, [], [], []⟩ (zz 1 (xdF hy1_1) <|
   ww (iv_flat x1_0 3) <|
   ww (mflat mvU (fun _ => rfl) x1_5 (mLen x1_5)) <|
   ee) (by kernel_rfl)
theorem m_nfastepq1_1_ok (n : Nat) {rnd : Option Nat} (x1_0 : List Int) (x1_1 : Int) (x1_2 : WL rw_uuuu) (x1_3 : WL rw_L) (x1_4 : NL) (x1_6 : Int) (st : MapI Unit × Int) (r : MapI Unit) (h : m_nfastepq1_1 n x1_0 x1_1 x1_2 x1_3 x1_4 x1_6 st = some r) : CG P rnd (fnN P 18) 1 (codeOf P 18 [false, true, false, true, true]) (S_nfastepq1_1 x1_0 x1_1 x1_2 x1_3 x1_4 x1_6 st) (X_nfastepq1_1 x1_0 x1_1 x1_2 x1_3 x1_4 x1_6 r) :=
 CG.iter (b := codeOf P 18 [false, false, true, false, true, true]) (by kernel_rfl) (body := B_nfastepq1_1 n x1_0 x1_1 x1_2 x1_3 x1_4 x1_6) (S := S_nfastepq1_1 x1_0 x1_1 x1_2 x1_3 x1_4 x1_6) (X := X_nfastepq1_1 x1_0 x1_1 x1_2 x1_3 x1_4 x1_6)
  (fun s s' h => b_nfastepq1_1 n x1_0 x1_1 x1_2 x1_3 x1_4 x1_6 s (.inl s') h)
  (fun s r h => b_nfastepq1_1 n x1_0 x1_1 x1_2 x1_3 x1_4 x1_6 s (.inr r) h)
  (fun r => by intro hx; cases hx) h
def m_nfastepq1 (n : Nat) (a0 : WL rw_uuuu) (a1 : WL rw_L) (a2 : NL) (a3 : List Int) (a4 : Int) : Option (NL) :=
 (m_nfastepq1_1 n a3 a4 a0 a1 a2 (((a3).length : Nat) : Int) (mNil, 0)).bind fun c1_ =>
 (m_nfasetsortedq1 n c1_).bind fun c2_ =>
 some c2_
theorem m_nfastepq1_ok (n : Nat) (a0 : WL rw_uuuu) (a1 : WL rw_L) (a2 : NL) (a3 : List Int) (a4 : Int) (r : NL) (h : m_nfastepq1 n a0 a1 a2 a3 a4 = some r) : Gv P (.func 18) (A_nfastepq1 a0 a1 a2 a3 a4) (H_nfastepq1 a0 a1 a2 a3 a4) (V_nfastepq1 a0 a1 a2 a3 a4 r) (R_nfastepq1 a0 a1 a2 a3 a4 r) := by
 unfold m_nfastepq1 at h
 obtain ⟨c1_, hc1, h⟩ := oB h
 obtain ⟨c2_, hc2, h⟩ := oB h
 obtain rfl := oI h
 exact runF2 hm ⟨[6], [], 1, 1, [], false, [], [], []⟩ (ww (p := U_nfastepq1_1 none a3 a4 a0 a1 a2 (((a3).length : Nat) : Int) (mNil, 0) c1_) (m_nfastepq1_1_ok n a3 a4 a0 a1 a2 (((a3).length : Nat) : Int) (mNil, 0) c1_ hc1) <|
  ww (iv_flat a3 3) <|
  ww (mflat mvU (fun _ => rfl) (mNil : MapI Unit) (mLen (mNil : MapI Unit))) <|
  ll 12 ⟨⟨[2, 3, 7, 13, 14, 15], [(0, 0, true), (1, 1, false), (2, 2, true)], 3, 1, [], false, [], [], []⟩, (X_nfastepq1_1 a3 a4 a0 a1 a2 (((a3).length : Nat) : Int) c1_).1, (X_nfastepq1_1 a3 a4 a0 a1 a2 (((a3).length : Nat) : Int) c1_).2⟩ <|
  yy 15 (.call (C_nfasetsortedq1 c1_ c2_ [(0, 1, true)] [])) <|
  ww (m_nfasetsortedq1_ok n c1_ c2_ hc2) <|
  ww (mflat mvU (fun _ => rfl) c1_ (mLen c1_)) <|
  ee) (by kernel_rfl)

def A_nfastepq2 (a0 : WL rw_uuuu) (a1 : WL rw_L) (a2 : NL) (a3 : NL) (a4 : Int) : List Value := [(Value.agg #[(wlV a0), (wlV a1), (nlV a2)]), (nlV a3), (Value.int .u8 a4)]
def H_nfastepq2 (a0 : WL rw_uuuu) (a1 : WL rw_L) (a2 : NL) (a3 : NL) (a4 : Int) : AH := ⟨sB [], 0, 0⟩
def V_nfastepq2 (a0 : WL rw_uuuu) (a1 : WL rw_L) (a2 : NL) (a3 : NL) (a4 : Int) (r : NL) : Value := match r with
 | o0 => (nlV o0)
def R_nfastepq2 (a0 : WL rw_uuuu) (a1 : WL rw_L) (a2 : NL) (a3 : NL) (a4 : Int) (r : NL) : AH := match r with
 | o0 => ⟨sB [], 0, 0⟩
abbrev G_nfastepq2 (a0 : WL rw_uuuu) (a1 : WL rw_L) (a2 : NL) (a3 : NL) (a4 : Int) (r : NL) : Prop := Gv P (.func 18) (A_nfastepq2 a0 a1 a2 a3 a4) (H_nfastepq2 a0 a1 a2 a3 a4) (V_nfastepq2 a0 a1 a2 a3 a4 r) (R_nfastepq2 a0 a1 a2 a3 a4 r)
abbrev C_nfastepq2 (a0 : WL rw_uuuu) (a1 : WL rw_L) (a2 : NL) (a3 : NL) (a4 : Int) (r : NL) (ins outs : BL) : CallA := ⟨0, ins, V_nfastepq2 a0 a1 a2 a3 a4 r, R_nfastepq2 a0 a1 a2 a3 a4 r, outs⟩
def S_nfastepq2_2 (x2_0 : Int) (x2_1 : WL rw_uuuu) (x2_2 : WL rw_L) (x2_3 : NL) (x2_5 : NL) (x2_6 : Int) (x2_7 : Int) (x2_8 : NL) (x2_9 : Int) (st : MapI Unit × Int) : XSt := match st with
 | (x2_4, x2_10) => (sT 52 [(2, (Value.int .u8 x2_0)), (3, (pN 0 0)), (7, (Value.map (some 1))), (13, (nlV x2_5)), (14, (i6 x2_6)), (15, (i6 x2_7)), (32, (nlV x2_8)), (33, (i6 x2_9)), (34, (i6 x2_10))], [], ⟨sB [(0, (some (.cells (layT [(wlV x2_1), (wlV x2_2), (nlV x2_3)]) 26))), (1, (some (.map (mEs mvU x2_4) (mLen x2_4))))], 2, 0⟩)
def X_nfastepq2_2 (x2_0 : Int) (x2_1 : WL rw_uuuu) (x2_2 : WL rw_L) (x2_3 : NL) (x2_5 : NL) (x2_6 : Int) (x2_7 : Int) (x2_8 : NL) (x2_9 : Int) (r : MapI Unit) : Ex × XSt := match r with
 | z2_0 => (.exit 2, (sT 52 [(2, (Value.int .u8 x2_0)), (3, (pN 0 0)), (7, (Value.map (some 1))), (13, (nlV x2_5)), (14, (i6 x2_6)), (15, (i6 x2_7))], [], ⟨sB [(0, (some (.cells (layT [(wlV x2_1), (wlV x2_2), (nlV x2_3)]) 26))), (1, (some (.map (mEs mvU z2_0) (mLen z2_0))))], 2, 0⟩))
abbrev Q_nfastepq2_2 (rnd : Option Nat) (x2_0 : Int) (x2_1 : WL rw_uuuu) (x2_2 : WL rw_L) (x2_3 : NL) (x2_5 : NL) (x2_6 : Int) (x2_7 : Int) (x2_8 : NL) (x2_9 : Int) (st : MapI Unit × Int) (c : Ex × XSt) : Prop := CG P rnd (fnN P 18) 0 (codeOf P 18 [false, false, true, true, true, false, false, true, true, false, false, true, false, true, true]) (S_nfastepq2_2 x2_0 x2_1 x2_2 x2_3 x2_5 x2_6 x2_7 x2_8 x2_9 st) c
abbrev U_nfastepq2_2 (rd : Option Nat) (x2_0 : Int) (x2_1 : WL rw_uuuu) (x2_2 : WL rw_L) (x2_3 : NL) (x2_5 : NL) (x2_6 : Int) (x2_7 : Int) (x2_8 : NL) (x2_9 : Int) (st : MapI Unit × Int) (r : MapI Unit) : Prop := CG P rd (fnN P 18) 0 (codeOf P 18 [false, true, true, true, false, false, true, true, false, false, true, false, true, true]) (S_nfastepq2_2 x2_0 x2_1 x2_2 x2_3 x2_5 x2_6 x2_7 x2_8 x2_9 st) (X_nfastepq2_2 x2_0 x2_1 x2_2 x2_3 x2_5 x2_6 x2_7 x2_8 x2_9 r)
def B_nfastepq2_2 (n : Nat) (x2_0 : Int) (x2_1 : WL rw_uuuu) (x2_2 : WL rw_L) (x2_3 : NL) (x2_5 : NL) (x2_6 : Int) (x2_7 : Int) (x2_8 : NL) (x2_9 : Int) (st : MapI Unit × Int) : Option ((MapI Unit × Int) ⊕ (MapI Unit)) := match st with
 | (x2_4, x2_10) =>
  if x2_10 < x2_9 then
   if 0 ≤ x2_10 ∧ x2_10 < (((x2_8).l.length : Nat) : Int) then
    if (x2_10).toNat < ((x2_8).l).length then
     ((some (((x2_8).l).getD (x2_10).toNat 0))).bind fun y2_4_ =>
     if 0 ≤ y2_4_ ∧ y2_4_ < (((x2_1).l.length : Nat) : Int) then
      ((some (((x2_1).l).getD (y2_4_).toNat (0, 0, 0, 0)))).bind fun y2_6_ =>
      (m_classHasq1 n (y2_6_.1) (y2_6_.2.1) (y2_6_.2.2.1) (y2_6_.2.2.2) x2_0).bind fun y2_7_ =>
      if y2_7_ = true then
       some (.inl ((mPut x2_4 y2_4_ ()), (w64 (x2_10 + (1 : Int)))))
      else
       some (.inl (x2_4, (w64 (x2_10 + (1 : Int)))))
     else none
    else none
   else none
  else
   some (.inr x2_4)
def m_nfastepq2_2 (n : Nat) (x2_0 : Int) (x2_1 : WL rw_uuuu) (x2_2 : WL rw_L) (x2_3 : NL) (x2_5 : NL) (x2_6 : Int) (x2_7 : Int) (x2_8 : NL) (x2_9 : Int) (st : MapI Unit × Int) : Option (MapI Unit) := iterM (B_nfastepq2_2 n x2_0 x2_1 x2_2 x2_3 x2_5 x2_6 x2_7 x2_8 x2_9) n st
theorem b_nfastepq2_2 (n : Nat) {rnd : Option Nat} (x2_0 : Int) (x2_1 : WL rw_uuuu) (x2_2 : WL rw_L) (x2_3 : NL) (x2_5 : NL) (x2_6 : Int) (x2_7 : Int) (x2_8 : NL) (x2_9 : Int) (st : MapI Unit × Int) (o : (MapI Unit × Int) ⊕ (MapI Unit)) (h : B_nfastepq2_2 n x2_0 x2_1 x2_2 x2_3 x2_5 x2_6 x2_7 x2_8 x2_9 st = some o) : CG P rnd (fnN P 18) 0 (codeOf P 18 [false, false, true, true, true, false, false, true, true, false, false, true, false, true, true]) (S_nfastepq2_2 x2_0 x2_1 x2_2 x2_3 x2_5 x2_6 x2_7 x2_8 x2_9 st) (Sum.elim (fun s => (.normal, S_nfastepq2_2 x2_0 x2_1 x2_2 x2_3 x2_5 x2_6 x2_7 x2_8 x2_9 s)) (fun r => X_nfastepq2_2 x2_0 x2_1 x2_2 x2_3 x2_5 x2_6 x2_7 x2_8 x2_9 r) o) := by
 obtain ⟨x2_4, x2_10⟩ := st
 unfold B_nfastepq2_2 at h
 dsimp only at h
 by_cases hy2_1 : x2_10 < x2_9
 ·rw [if_pos hy2_1] at h
  obtain ⟨hy2_2, h⟩ := gd h
  obtain ⟨hy2_3, h⟩ := gd h
  obtain ⟨y2_4_, hy2_4, h⟩ := oB h
  obtain ⟨hy2_5, h⟩ := gd h
  obtain ⟨y2_6_, hy2_6, h⟩ := oB h
  obtain ⟨y2_7_, hy2_7, h⟩ := oB h
  have k0 := fun {A L l} (k : PL A L l) => zz 1 (xdT hy2_1) <|
   zz 7 (xk5 (Nat.add (x2_8).num 64) (x2_8).off (x2_8).cap hy2_2) <|
   zz 8 (nk6 hy2_4 hy2_3) <|
   zz 14 (xk3 (x2_1).num (x2_1).off (x2_1).cap hy2_5) <|
   zz 15 (lk4 hy2_6 (toNatLt hy2_5)) <|
   yy 17 (.call (C_classHasq1 (y2_6_.1) (y2_6_.2.1) (y2_6_.2.2.1) (y2_6_.2.2.2) x2_0 y2_7_ [] [])) <|
   ww (m_classHasq1_ok n (y2_6_.1) (y2_6_.2.1) (y2_6_.2.2.1) (y2_6_.2.2.2) x2_0 y2_7_ hy2_7) <|
   k
  by_cases hy2_8 : y2_7_ = true
  ·rw [if_pos hy2_8] at h
   obtain rfl := oI h
   exact runC2 hm ⟨[2, 3, 7, 13, 14, 15, 32, 33, 34], [(0, 0, false), (1, 1, true)], 2, 0, [], false, [], [], []⟩ (k0 <|
    zz 18 (xbT hy2_8) <|
    yy 22 (.mup (mEs mvU (mPut x2_4 y2_4_ ())) (mLen (mPut x2_4 y2_4_ ()))) <|
    ww (p := oc (findU (.int .i64) (i6 y2_4_) (mEs mvU x2_4) 0) none (fun r => some (updEs (mEs mvU x2_4, mLen x2_4) (i6 y2_4_) (Value.agg #[]) r)) = some (.map (mEs mvU (mPut x2_4 y2_4_ ())) (mLen (mPut x2_4 y2_4_ ())))) (mput_ok mvU _ _ _) <|
    ww (mflat mvU (fun _ => rfl) (mPut x2_4 y2_4_ ()) (mLen (mPut x2_4 y2_4_ ()))) <|
    ee) (by kernel_rfl)
  ·rw [if_neg hy2_8] at h
   obtain rfl := oI h
   exact runC2 hm ⟨[2, 3, 7, 13, 14, 15, 32, 33, 34], [(0, 0, false), (1, 1, true)], 2, 0, [], false, [], [], []⟩ (k0 <|
    zz 18 (xbF hy2_8) <|
    ww (mflat mvU (fun _ => rfl) x2_4 (mLen x2_4)) <|
    ee) (by kernel_rfl)
 ·rw [if_neg hy2_1] at h
  obtain rfl := oI h
  exact runC2 hm ⟨[2, 3, 7, 13, 14, 15], [(0, 0, false), (1, 1, true)], 2, 0, [], false, [], [], []⟩ (zz 1 (xdF hy2_1) <|
   ww (mflat mvU (fun _ => rfl) x2_4 (mLen x2_4)) <|
   ee) (by kernel_rfl)
theorem m_nfastepq2_2_ok (n : Nat) {rnd : Option Nat} (x2_0 : Int) (x2_1 : WL rw_uuuu) (x2_2 : WL rw_L) (x2_3 : NL) (x2_5 : NL) (x2_6 : Int) (x2_7 : Int) (x2_8 : NL) (x2_9 : Int) (st : MapI Unit × Int) (r : MapI Unit) (h : m_nfastepq2_2 n x2_0 x2_1 x2_2 x2_3 x2_5 x2_6 x2_7 x2_8 x2_9 st = some r) : CG P rnd (fnN P 18) 0 (codeOf P 18 [false, true, true, true, false, false, true, true, false, false, true, false, true, true]) (S_nfastepq2_2 x2_0 x2_1 x2_2 x2_3 x2_5 x2_6 x2_7 x2_8 x2_9 st) (X_nfastepq2_2 x2_0 x2_1 x2_2 x2_3 x2_5 x2_6 x2_7 x2_8 x2_9 r) :=
 CG.iter (b := codeOf P 18 [false, false, true, true, true, false, false, true, true, false, false, true, false, true, true]) (by kernel_rfl) (body := B_nfastepq2_2 n x2_0 x2_1 x2_2 x2_3 x2_5 x2_6 x2_7 x2_8 x2_9) (S := S_nfastepq2_2 x2_0 x2_1 x2_2 x2_3 x2_5 x2_6 x2_7 x2_8 x2_9) (X := X_nfastepq2_2 x2_0 x2_1 x2_2 x2_3 x2_5 x2_6 x2_7 x2_8 x2_9)
  (fun s s' h => b_nfastepq2_2 n x2_0 x2_1 x2_2 x2_3 x2_5 x2_6 x2_7 x2_8 x2_9 s (.inl s') h)
  (fun s r h => b_nfastepq2_2 n x2_0 x2_1 x2_2 x2_3 x2_5 x2_6 x2_7 x2_8 x2_9 s (.inr r) h)
  (fun r => by intro hx; cases hx) h
def S_nfastepq2_1 (x1_0 : Int) (x1_1 : WL rw_uuuu) (x1_2 : WL rw_L) (x1_3 : NL) (x1_5 : NL) (x1_6 : Int) (st : MapI Unit × Int) : XSt := match st with
 | (x1_4, x1_7) => (sT 52 [(2, (Value.int .u8 x1_0)), (3, (pN 0 0)), (7, (Value.map (some 1))), (13, (nlV x1_5)), (14, (i6 x1_6)), (15, (i6 x1_7))], [], ⟨sB [(0, (some (.cells (layT [(wlV x1_1), (wlV x1_2), (nlV x1_3)]) 26))), (1, (some (.map (mEs mvU x1_4) (mLen x1_4))))], 2, 0⟩)
def X_nfastepq2_1 (x1_0 : Int) (x1_1 : WL rw_uuuu) (x1_2 : WL rw_L) (x1_3 : NL) (x1_5 : NL) (x1_6 : Int) (r : MapI Unit) : Ex × XSt := match r with
 | z1_0 => (.exit 0, (sT 52 [(7, (Value.map (some 0)))], [], ⟨sB [(0, (some (.map (mEs mvU z1_0) (mLen z1_0))))], 1, 0⟩))
abbrev Q_nfastepq2_1 (rnd : Option Nat) (x1_0 : Int) (x1_1 : WL rw_uuuu) (x1_2 : WL rw_L) (x1_3 : NL) (x1_5 : NL) (x1_6 : Int) (st : MapI Unit × Int) (c : Ex × XSt) : Prop := CG P rnd (fnN P 18) 0 (codeOf P 18 [false, false, true, false, true, true]) (S_nfastepq2_1 x1_0 x1_1 x1_2 x1_3 x1_5 x1_6 st) c
abbrev U_nfastepq2_1 (rd : Option Nat) (x1_0 : Int) (x1_1 : WL rw_uuuu) (x1_2 : WL rw_L) (x1_3 : NL) (x1_5 : NL) (x1_6 : Int) (st : MapI Unit × Int) (r : MapI Unit) : Prop := CG P rd (fnN P 18) 0 (codeOf P 18 [false, true, false, true, true]) (S_nfastepq2_1 x1_0 x1_1 x1_2 x1_3 x1_5 x1_6 st) (X_nfastepq2_1 x1_0 x1_1 x1_2 x1_3 x1_5 x1_6 r)
def B_nfastepq2_1 (n : Nat) (x1_0 : Int) (x1_1 : WL rw_uuuu) (x1_2 : WL rw_L) (x1_3 : NL) (x1_5 : NL) (x1_6 : Int) (st : MapI Unit × Int) : Option ((MapI Unit × Int) ⊕ (MapI Unit)) := match st with
 | (x1_4, x1_7) =>
  if x1_7 < x1_6 then
   if 0 ≤ x1_7 ∧ x1_7 < (((x1_5).l.length : Nat) : Int) then
    if (x1_7).toNat < ((x1_5).l).length then
     ((some (((x1_5).l).getD (x1_7).toNat 0))).bind fun y1_4_ =>
     if y1_4_ < (0 : Int) then
      some (.inl (x1_4, (w64 (x1_7 + (1 : Int)))))
     else
      if y1_4_ ≥ (((x1_2).l.length : Nat) : Int) then
       some (.inl (x1_4, (w64 (x1_7 + (1 : Int)))))
      else
       if 0 ≤ y1_4_ ∧ y1_4_ < (((x1_2).l.length : Nat) : Int) then
        ((some (((x1_2).l).getD (y1_4_).toNat (nl0)))).bind fun y1_8_ =>
        (m_nfastepq2_2 n x1_0 x1_1 x1_2 x1_3 x1_5 x1_6 x1_7 y1_8_ (((y1_8_).l.length : Nat) : Int) (x1_4, 0)).bind fun y1_9_ =>
        some (.inl (y1_9_, (w64 (x1_7 + (1 : Int)))))
       else none
    else none
   else none
  else
   some (.inr x1_4)
def m_nfastepq2_1 (n : Nat) (x1_0 : Int) (x1_1 : WL rw_uuuu) (x1_2 : WL rw_L) (x1_3 : NL) (x1_5 : NL) (x1_6 : Int) (st : MapI Unit × Int) : Option (MapI Unit) := iterM (B_nfastepq2_1 n x1_0 x1_1 x1_2 x1_3 x1_5 x1_6) n st
theorem b_nfastepq2_1 (n : Nat) {rnd : Option Nat} (x1_0 : Int) (x1_1 : WL rw_uuuu) (x1_2 : WL rw_L) (x1_3 : NL) (x1_5 : NL) (x1_6 : Int) (st : MapI Unit × Int) (o : (MapI Unit × Int) ⊕ (MapI Unit)) (h : B_nfastepq2_1 n x1_0 x1_1 x1_2 x1_3 x1_5 x1_6 st = some o) : CG P rnd (fnN P 18) 0 (codeOf P 18 [false, false, true, false, true, true]) (S_nfastepq2_1 x1_0 x1_1 x1_2 x1_3 x1_5 x1_6 st) (Sum.elim (fun s => (.normal, S_nfastepq2_1 x1_0 x1_1 x1_2 x1_3 x1_5 x1_6 s)) (fun r => X_nfastepq2_1 x1_0 x1_1 x1_2 x1_3 x1_5 x1_6 r) o) := by
 obtain ⟨x1_4, x1_7⟩ := st
 unfold B_nfastepq2_1 at h
 dsimp only at h
 by_cases hy1_1 : x1_7 < x1_6
 ·rw [if_pos hy1_1] at h
  obtain ⟨hy1_2, h⟩ := gd h
  obtain ⟨hy1_3, h⟩ := gd h
  obtain ⟨y1_4_, hy1_4, h⟩ := oB h
  have k0 := fun {A L l} (k : PL A L l) => zz 1 (xdT hy1_1) <|
   zz 7 (xk5 (Nat.add (x1_5).num 64) (x1_5).off (x1_5).cap hy1_2) <|
   zz 8 (nk6 hy1_4 hy1_3) <|
   k
  by_cases hy1_5 : y1_4_ < (0 : Int)
  ·rw [if_pos hy1_5] at h
   obtain rfl := oI h
   exact runC2 hm ⟨[2, 3, 7, 13, 14, 15], [(0, 0, false), (1, 1, true)], 2, 0, [], false, [], [], []⟩ (k0 <|
    zz 13 (xdT hy1_5) <|
    ww (mflat mvU (fun _ => rfl) x1_4 (mLen x1_4)) <|
    ee) (by kernel_rfl)
  ·rw [if_neg hy1_5] at h
   have k3 := fun {A L l} (k : PL A L l) => zz 13 (xdF hy1_5) <|
    k
   by_cases hy1_6 : y1_4_ ≥ (((x1_2).l.length : Nat) : Int)
   ·rw [if_pos hy1_6] at h
    obtain rfl := oI h
    exact runC2 hm ⟨[2, 3, 7, 13, 14, 15], [(0, 0, false), (1, 1, true)], 2, 0, [], false, [], [], []⟩ (k0 <|
     k3 <|
     zz 19 (xdT hy1_6) <|
     ww (mflat mvU (fun _ => rfl) x1_4 (mLen x1_4)) <|
     ee) (by kernel_rfl)
   ·rw [if_neg hy1_6] at h
    obtain ⟨hy1_7, h⟩ := gd h
    obtain ⟨y1_8_, hy1_8, h⟩ := oB h
    obtain ⟨y1_9_, hy1_9, h⟩ := oB h
    obtain rfl := oI h
    exact runC2 hm ⟨[2, 3, 7, 13, 14, 15], [(0, 0, false), (1, 1, true)], 2, 0, [], false, [], [], []⟩ (k0 <|
     k3 <|
     zz 19 (xdF hy1_6) <|
     zz 26 (xk1 (x1_2).num (x1_2).off (x1_2).cap hy1_7) <|
     zz 27 (lk2 hy1_8 (toNatLt hy1_7)) <|
     ww (p := U_nfastepq2_2 rnd x1_0 x1_1 x1_2 x1_3 x1_5 x1_6 x1_7 y1_8_ (((y1_8_).l.length : Nat) : Int) (x1_4, 0) y1_9_) (m_nfastepq2_2_ok n x1_0 x1_1 x1_2 x1_3 x1_5 x1_6 x1_7 y1_8_ (((y1_8_).l.length : Nat) : Int) (x1_4, 0) y1_9_ hy1_9) <|
     ww (mflat mvU (fun _ => rfl) x1_4 (mLen x1_4)) <|
     ll 31 ⟨⟨[2, 3, 7, 13, 14, 15, 32, 33, 34], [(0, 0, false), (1, 1, true)], 2, 0, [], false, [], [], []⟩, (X_nfastepq2_2 x1_0 x1_1 x1_2 x1_3 x1_5 x1_6 x1_7 y1_8_ (((y1_8_).l.length : Nat) : Int) y1_9_).1, (X_nfastepq2_2 x1_0 x1_1 x1_2 x1_3 x1_5 x1_6 x1_7 y1_8_ (((y1_8_).l.length : Nat) : Int) y1_9_).2⟩ <|
     ww (mflat mvU (fun _ => rfl) y1_9_ (mLen y1_9_)) <|
     ee) (by kernel_rfl)
 ·rw [if_neg hy1_1] at h
  obtain rfl := oI h
  exact runC2 hm ⟨[7], [(0, 1, true)], 1, 0, [], false, [], [], []⟩ (zz 1 (xdF hy1_1) <|
   ww (mflat mvU (fun _ => rfl) x1_4 (mLen x1_4)) <|
   ee) (by kernel_rfl)
theorem m_nfastepq2_1_ok (n : Nat) {rnd : Option Nat} (x1_0 : Int) (x1_1 : WL rw_uuuu) (x1_2 : WL rw_L) (x1_3 : NL) (x1_5 : NL) (x1_6 : Int) (st : MapI Unit × Int) (r : MapI Unit) (h : m_nfastepq2_1 n x1_0 x1_1 x1_2 x1_3 x1_5 x1_6 st = some r) : CG P rnd (fnN P 18) 0 (codeOf P 18 [false, true, false, true, true]) (S_nfastepq2_1 x1_0 x1_1 x1_2 x1_3 x1_5 x1_6 st) (X_nfastepq2_1 x1_0 x1_1 x1_2 x1_3 x1_5 x1_6 r) :=
 CG.iter (b := codeOf P 18 [false, false, true, false, true, true]) (by kernel_rfl) (body := B_nfastepq2_1 n x1_0 x1_1 x1_2 x1_3 x1_5 x1_6) (S := S_nfastepq2_1 x1_0 x1_1 x1_2 x1_3 x1_5 x1_6) (X := X_nfastepq2_1 x1_0 x1_1 x1_2 x1_3 x1_5 x1_6)
  (fun s s' h => b_nfastepq2_1 n x1_0 x1_1 x1_2 x1_3 x1_5 x1_6 s (.inl s') h)
  (fun s r h => b_nfastepq2_1 n x1_0 x1_1 x1_2 x1_3 x1_5 x1_6 s (.inr r) h)
  (fun r => by intro hx; cases hx) h
def m_nfastepq2 (n : Nat) (a0 : WL rw_uuuu) (a1 : WL rw_L) (a2 : NL) (a3 : NL) (a4 : Int) : Option (NL) :=
 (m_nfastepq2_1 n a4 a0 a1 a2 a3 (((a3).l.length : Nat) : Int) (mNil, 0)).bind fun c1_ =>
 (m_nfasetsortedq1 n c1_).bind fun c2_ =>
 some c2_
theorem m_nfastepq2_ok (n : Nat) (a0 : WL rw_uuuu) (a1 : WL rw_L) (a2 : NL) (a3 : NL) (a4 : Int) (r : NL) (h : m_nfastepq2 n a0 a1 a2 a3 a4 = some r) : Gv P (.func 18) (A_nfastepq2 a0 a1 a2 a3 a4) (H_nfastepq2 a0 a1 a2 a3 a4) (V_nfastepq2 a0 a1 a2 a3 a4 r) (R_nfastepq2 a0 a1 a2 a3 a4 r) := by
 unfold m_nfastepq2 at h
 obtain ⟨c1_, hc1, h⟩ := oB h
 obtain ⟨c2_, hc2, h⟩ := oB h
 obtain rfl := oI h
 exact runF2 hm ⟨[6], [], 0, 0, [], false, [], [], []⟩ (ww (p := U_nfastepq2_1 none a4 a0 a1 a2 a3 (((a3).l.length : Nat) : Int) (mNil, 0) c1_) (m_nfastepq2_1_ok n a4 a0 a1 a2 a3 (((a3).l.length : Nat) : Int) (mNil, 0) c1_ hc1) <|
  ww (mflat mvU (fun _ => rfl) (mNil : MapI Unit) (mLen (mNil : MapI Unit))) <|
  ll 12 ⟨⟨[2, 3, 7, 13, 14, 15], [(0, 0, false), (1, 1, true)], 2, 0, [], false, [], [], []⟩, (X_nfastepq2_1 a4 a0 a1 a2 a3 (((a3).l.length : Nat) : Int) c1_).1, (X_nfastepq2_1 a4 a0 a1 a2 a3 (((a3).l.length : Nat) : Int) c1_).2⟩ <|
  yy 15 (.call (C_nfasetsortedq1 c1_ c2_ [(0, 0, true)] [])) <|
  ww (m_nfasetsortedq1_ok n c1_ c2_ hc2) <|
  ww (mflat mvU (fun _ => rfl) c1_ (mLen c1_)) <|
  ee) (by kernel_rfl)

def A_nfaruleq1 (a0 : WL rw_uuuu) (a1 : WL rw_L) (a2 : NL) (a3 : NL) : List Value := [(Value.agg #[(wlV a0), (wlV a1), (nlV a2)]), (nlV a3)]
def H_nfaruleq1 (a0 : WL rw_uuuu) (a1 : WL rw_L) (a2 : NL) (a3 : NL) : AH := ⟨sB [], 0, 0⟩
def V_nfaruleq1 (a0 : WL rw_uuuu) (a1 : WL rw_L) (a2 : NL) (a3 : NL) (r : Int) : Value := match r with
 | o0 => (i6 o0)
def R_nfaruleq1 (a0 : WL rw_uuuu) (a1 : WL rw_L) (a2 : NL) (a3 : NL) (r : Int) : AH := match r with
 | o0 => ⟨sB [], 0, 0⟩
abbrev G_nfaruleq1 (a0 : WL rw_uuuu) (a1 : WL rw_L) (a2 : NL) (a3 : NL) (r : Int) : Prop := Gv P (.func 19) (A_nfaruleq1 a0 a1 a2 a3) (H_nfaruleq1 a0 a1 a2 a3) (V_nfaruleq1 a0 a1 a2 a3 r) (R_nfaruleq1 a0 a1 a2 a3 r)
abbrev C_nfaruleq1 (a0 : WL rw_uuuu) (a1 : WL rw_L) (a2 : NL) (a3 : NL) (r : Int) (ins outs : BL) : CallA := ⟨0, ins, V_nfaruleq1 a0 a1 a2 a3 r, R_nfaruleq1 a0 a1 a2 a3 r, outs⟩
def S_nfaruleq1_1 (x1_0 : WL rw_uuuu) (x1_1 : WL rw_L) (x1_2 : NL) (x1_4 : NL) (x1_5 : Int) (st : Int × Int) : XSt := match st with
 | (x1_3, x1_6) => (sT 49 [(2, (pN 0 0)), (5, (i6 x1_3)), (8, (nlV x1_4)), (9, (i6 x1_5)), (10, (i6 x1_6))], [], ⟨sB [(0, (some (.cells (layT [(wlV x1_0), (wlV x1_1), (nlV x1_2)]) 26)))], 1, 0⟩)
def X_nfaruleq1_1 (x1_0 : WL rw_uuuu) (x1_1 : WL rw_L) (x1_2 : NL) (x1_4 : NL) (x1_5 : Int) (r : Int) : Ex × XSt := match r with
 | z1_0 => (.exit 0, (sT 49 [(5, (i6 z1_0))], [], ⟨sB [], 0, 0⟩))
abbrev Q_nfaruleq1_1 (rnd : Option Nat) (x1_0 : WL rw_uuuu) (x1_1 : WL rw_L) (x1_2 : NL) (x1_4 : NL) (x1_5 : Int) (st : Int × Int) (c : Ex × XSt) : Prop := CG P rnd (fnN P 19) 0 (codeOf P 19 [false, false, true, false, true, true]) (S_nfaruleq1_1 x1_0 x1_1 x1_2 x1_4 x1_5 st) c
abbrev U_nfaruleq1_1 (rd : Option Nat) (x1_0 : WL rw_uuuu) (x1_1 : WL rw_L) (x1_2 : NL) (x1_4 : NL) (x1_5 : Int) (st : Int × Int) (r : Int) : Prop := CG P rd (fnN P 19) 0 (codeOf P 19 [false, true, false, true, true]) (S_nfaruleq1_1 x1_0 x1_1 x1_2 x1_4 x1_5 st) (X_nfaruleq1_1 x1_0 x1_1 x1_2 x1_4 x1_5 r)
def B_nfaruleq1_1 (n : Nat) (x1_0 : WL rw_uuuu) (x1_1 : WL rw_L) (x1_2 : NL) (x1_4 : NL) (x1_5 : Int) (st : Int × Int) : Option ((Int × Int) ⊕ (Int)) := match st with
 | (x1_3, x1_6) =>
  if x1_6 < x1_5 then
   if 0 ≤ x1_6 ∧ x1_6 < (((x1_4).l.length : Nat) : Int) then
    if (x1_6).toNat < ((x1_4).l).length then
     ((some (((x1_4).l).getD (x1_6).toNat 0))).bind fun y1_4_ =>
     if y1_4_ < (0 : Int) then
      some (.inl (x1_3, (w64 (x1_6 + (1 : Int)))))
     else
      if y1_4_ ≥ (((x1_2).l.length : Nat) : Int) then
       some (.inl (x1_3, (w64 (x1_6 + (1 : Int)))))
      else
       if 0 ≤ y1_4_ ∧ y1_4_ < (((x1_2).l.length : Nat) : Int) then
        if (y1_4_).toNat < ((x1_2).l).length then
         ((some (((x1_2).l).getD (y1_4_).toNat 0))).bind fun y1_9_ =>
         if y1_9_ < (0 : Int) then
          some (.inl (x1_3, (w64 (x1_6 + (1 : Int)))))
         else
          if x1_3 < (0 : Int) then
           some (.inl (y1_9_, (w64 (x1_6 + (1 : Int)))))
          else
           if y1_9_ < x1_3 then
            some (.inl (y1_9_, (w64 (x1_6 + (1 : Int)))))
           else
            some (.inl (x1_3, (w64 (x1_6 + (1 : Int)))))
        else none
       else none
    else none
   else none
  else
   some (.inr x1_3)
def m_nfaruleq1_1 (n : Nat) (x1_0 : WL rw_uuuu) (x1_1 : WL rw_L) (x1_2 : NL) (x1_4 : NL) (x1_5 : Int) (st : Int × Int) : Option (Int) := iterM (B_nfaruleq1_1 n x1_0 x1_1 x1_2 x1_4 x1_5) n st
theorem b_nfaruleq1_1 (n : Nat) {rnd : Option Nat} (x1_0 : WL rw_uuuu) (x1_1 : WL rw_L) (x1_2 : NL) (x1_4 : NL) (x1_5 : Int) (st : Int × Int) (o : (Int × Int) ⊕ (Int)) (h : B_nfaruleq1_1 n x1_0 x1_1 x1_2 x1_4 x1_5 st = some o) : CG P rnd (fnN P 19) 0 (codeOf P 19 [false, false, true, false, true, true]) (S_nfaruleq1_1 x1_0 x1_1 x1_2 x1_4 x1_5 st) (Sum.elim (fun s => (.normal, S_nfaruleq1_1 x1_0 x1_1 x1_2 x1_4 x1_5 s)) (fun r => X_nfaruleq1_1 x1_0 x1_1 x1_2 x1_4 x1_5 r) o) := by
 obtain ⟨x1_3, x1_6⟩ := st
 unfold B_nfaruleq1_1 at h
 dsimp only at h
 by_cases hy1_1 : x1_6 < x1_5
 ·rw [if_pos hy1_1] at h
  obtain ⟨hy1_2, h⟩ := gd h
  obtain ⟨hy1_3, h⟩ := gd h
  obtain ⟨y1_4_, hy1_4, h⟩ := oB h
  have k0 := fun {A L l} (k : PL A L l) => zz 1 (xdT hy1_1) <|
   zz 7 (xk5 (Nat.add (x1_4).num 64) (x1_4).off (x1_4).cap hy1_2) <|
   zz 8 (nk6 hy1_4 hy1_3) <|
   k
  by_cases hy1_5 : y1_4_ < (0 : Int)
  ·rw [if_pos hy1_5] at h
   obtain rfl := oI h
   exact runC2 hm ⟨[2, 5, 8, 9, 10], [(0, 0, false)], 1, 0, [], false, [], [], []⟩ (k0 <|
    zz 13 (xdT hy1_5) <|
    ee) (by kernel_rfl)
  ·rw [if_neg hy1_5] at h
   have k3 := fun {A L l} (k : PL A L l) => zz 13 (xdF hy1_5) <|
    k
   by_cases hy1_6 : y1_4_ ≥ (((x1_2).l.length : Nat) : Int)
   ·rw [if_pos hy1_6] at h
    obtain rfl := oI h
    exact runC2 hm ⟨[2, 5, 8, 9, 10], [(0, 0, false)], 1, 0, [], false, [], [], []⟩ (k0 <|
     k3 <|
     zz 19 (xdT hy1_6) <|
     ee) (by kernel_rfl)
   ·rw [if_neg hy1_6] at h
    obtain ⟨hy1_7, h⟩ := gd h
    obtain ⟨hy1_8, h⟩ := gd h
    obtain ⟨y1_9_, hy1_9, h⟩ := oB h
    have k4 := fun {A L l} (k : PL A L l) => zz 19 (xdF hy1_6) <|
     zz 25 (xk5 (Nat.add (x1_2).num 64) (x1_2).off (x1_2).cap hy1_7) <|
     zz 26 (nk6 hy1_9 hy1_8) <|
     k
    by_cases hy1_10 : y1_9_ < (0 : Int)
    ·rw [if_pos hy1_10] at h
     obtain rfl := oI h
     exact runC2 hm ⟨[2, 5, 8, 9, 10], [(0, 0, false)], 1, 0, [], false, [], [], []⟩ (k0 <|
      k3 <|
      k4 <|
      zz 27 (xdT hy1_10) <|
      ee) (by kernel_rfl)
    ·rw [if_neg hy1_10] at h
     have k7 := fun {A L l} (k : PL A L l) => zz 27 (xdF hy1_10) <|
      k
     by_cases hy1_11 : x1_3 < (0 : Int)
     ·rw [if_pos hy1_11] at h
      obtain rfl := oI h
      exact runC2 hm ⟨[2, 5, 8, 9, 10], [(0, 0, false)], 1, 0, [], false, [], [], []⟩ (k0 <|
       k3 <|
       k4 <|
       k7 <|
       zz 32 (xdT hy1_11) <|
       zz 46 (xk5 (Nat.add (x1_2).num 64) (x1_2).off (x1_2).cap hy1_7) <|
       zz 47 (nk6 hy1_9 hy1_8) <|
       ee) (by kernel_rfl)
     ·rw [if_neg hy1_11] at h
      have k8 := fun {A L l} (k : PL A L l) => zz 32 (xdF hy1_11) <|
       zz 37 (xk5 (Nat.add (x1_2).num 64) (x1_2).off (x1_2).cap hy1_7) <|
       zz 38 (nk6 hy1_9 hy1_8) <|
       k
      by_cases hy1_12 : y1_9_ < x1_3
      ·rw [if_pos hy1_12] at h
       obtain rfl := oI h
       exact runC2 hm ⟨[2, 5, 8, 9, 10], [(0, 0, false)], 1, 0, [], false, [], [], []⟩ (k0 <|
        k3 <|
        k4 <|
        k7 <|
        k8 <|
        zz 40 (xdT hy1_12) <|
        zz 46 (xk5 (Nat.add (x1_2).num 64) (x1_2).off (x1_2).cap hy1_7) <|
        zz 47 (nk6 hy1_9 hy1_8) <|
        ee) (by kernel_rfl)
      ·rw [if_neg hy1_12] at h
       obtain rfl := oI h
       exact runC2 hm ⟨[2, 5, 8, 9, 10], [(0, 0, false)], 1, 0, [], false, [], [], []⟩ (k0 <|
        k3 <|
        k4 <|
        k7 <|
        k8 <|
        zz 40 (xdF hy1_12) <|
        ee) (by kernel_rfl)
 ·rw [if_neg hy1_1] at h
  obtain rfl := oI h
  exact runC2 hm ⟨[5], [], 0, 0, [], false, [], [], []⟩ (zz 1 (xdF hy1_1) <|
   ee) (by kernel_rfl)
theorem m_nfaruleq1_1_ok (n : Nat) {rnd : Option Nat} (x1_0 : WL rw_uuuu) (x1_1 : WL rw_L) (x1_2 : NL) (x1_4 : NL) (x1_5 : Int) (st : Int × Int) (r : Int) (h : m_nfaruleq1_1 n x1_0 x1_1 x1_2 x1_4 x1_5 st = some r) : CG P rnd (fnN P 19) 0 (codeOf P 19 [false, true, false, true, true]) (S_nfaruleq1_1 x1_0 x1_1 x1_2 x1_4 x1_5 st) (X_nfaruleq1_1 x1_0 x1_1 x1_2 x1_4 x1_5 r) :=
 CG.iter (b := codeOf P 19 [false, false, true, false, true, true]) (by kernel_rfl) (body := B_nfaruleq1_1 n x1_0 x1_1 x1_2 x1_4 x1_5) (S := S_nfaruleq1_1 x1_0 x1_1 x1_2 x1_4 x1_5) (X := X_nfaruleq1_1 x1_0 x1_1 x1_2 x1_4 x1_5)
  (fun s s' h => b_nfaruleq1_1 n x1_0 x1_1 x1_2 x1_4 x1_5 s (.inl s') h)
  (fun s r h => b_nfaruleq1_1 n x1_0 x1_1 x1_2 x1_4 x1_5 s (.inr r) h)
  (fun r => by intro hx; cases hx) h
def m_nfaruleq1 (n : Nat) (a0 : WL rw_uuuu) (a1 : WL rw_L) (a2 : NL) (a3 : NL) : Option (Int) :=
 (m_nfaruleq1_1 n a0 a1 a2 a3 (((a3).l.length : Nat) : Int) ((-1), 0)).bind fun c1_ =>
 some c1_
theorem m_nfaruleq1_ok (n : Nat) (a0 : WL rw_uuuu) (a1 : WL rw_L) (a2 : NL) (a3 : NL) (r : Int) (h : m_nfaruleq1 n a0 a1 a2 a3 = some r) : Gv P (.func 19) (A_nfaruleq1 a0 a1 a2 a3) (H_nfaruleq1 a0 a1 a2 a3) (V_nfaruleq1 a0 a1 a2 a3 r) (R_nfaruleq1 a0 a1 a2 a3 r) := by
 unfold m_nfaruleq1 at h
 obtain ⟨c1_, hc1, h⟩ := oB h
 obtain rfl := oI h
 exact runF2 hm ⟨[4], [], 0, 0, [], false, [], [], []⟩ (ww (p := U_nfaruleq1_1 none a0 a1 a2 a3 (((a3).l.length : Nat) : Int) ((-1), 0) c1_) (m_nfaruleq1_1_ok n a0 a1 a2 a3 (((a3).l.length : Nat) : Int) ((-1), 0) c1_ hc1) <|
  ll 11 ⟨⟨[2, 5, 8, 9, 10], [(0, 0, false)], 1, 0, [], false, [], [], []⟩, (X_nfaruleq1_1 a0 a1 a2 a3 (((a3).l.length : Nat) : Int) c1_).1, (X_nfaruleq1_1 a0 a1 a2 a3 (((a3).l.length : Nat) : Int) c1_).2⟩ <|
  ee) (by kernel_rfl)

def A_nfaruleq2 (a0 : WL rw_uuuu) (a1 : WL rw_L) (a2 : NL) (a3 : List Int) : List Value := [(Value.agg #[(wlV a0), (wlV a1), (nlV a2)]), (sN 0 0 (a3).length 1)]
def H_nfaruleq2 (a0 : WL rw_uuuu) (a1 : WL rw_L) (a2 : NL) (a3 : List Int) : AH := ⟨sB [(0, (some (.cells (layT (iv a3)) 3)))], 1, 1⟩
def V_nfaruleq2 (a0 : WL rw_uuuu) (a1 : WL rw_L) (a2 : NL) (a3 : List Int) (r : Int) : Value := match r with
 | o0 => (i6 o0)
def R_nfaruleq2 (a0 : WL rw_uuuu) (a1 : WL rw_L) (a2 : NL) (a3 : List Int) (r : Int) : AH := match r with
 | o0 => ⟨sB [], 1, 1⟩
abbrev G_nfaruleq2 (a0 : WL rw_uuuu) (a1 : WL rw_L) (a2 : NL) (a3 : List Int) (r : Int) : Prop := Gv P (.func 19) (A_nfaruleq2 a0 a1 a2 a3) (H_nfaruleq2 a0 a1 a2 a3) (V_nfaruleq2 a0 a1 a2 a3 r) (R_nfaruleq2 a0 a1 a2 a3 r)
abbrev C_nfaruleq2 (a0 : WL rw_uuuu) (a1 : WL rw_L) (a2 : NL) (a3 : List Int) (r : Int) (ins outs : BL) : CallA := ⟨1, ins, V_nfaruleq2 a0 a1 a2 a3 r, R_nfaruleq2 a0 a1 a2 a3 r, outs⟩
def S_nfaruleq2_1 (x1_0 : List Int) (x1_1 : WL rw_uuuu) (x1_2 : WL rw_L) (x1_3 : NL) (x1_5 : Int) (st : Int × Int) : XSt := match st with
 | (x1_4, x1_6) => (sT 49 [(2, (pN 1 0)), (5, (i6 x1_4)), (8, (sN 0 0 (x1_0).length 1)), (9, (i6 x1_5)), (10, (i6 x1_6))], [], ⟨sB [(0, (some (.cells (layT (iv x1_0)) 3))), (1, (some (.cells (layT [(wlV x1_1), (wlV x1_2), (nlV x1_3)]) 26)))], 2, 1⟩)
def X_nfaruleq2_1 (x1_0 : List Int) (x1_1 : WL rw_uuuu) (x1_2 : WL rw_L) (x1_3 : NL) (x1_5 : Int) (r : Int) : Ex × XSt := match r with
 | z1_0 => (.exit 0, (sT 49 [(5, (i6 z1_0))], [], ⟨sB [(0, (some (.cells (layT (iv x1_0)) 3)))], 1, 1⟩))
abbrev Q_nfaruleq2_1 (rnd : Option Nat) (x1_0 : List Int) (x1_1 : WL rw_uuuu) (x1_2 : WL rw_L) (x1_3 : NL) (x1_5 : Int) (st : Int × Int) (c : Ex × XSt) : Prop := CG P rnd (fnN P 19) 1 (codeOf P 19 [false, false, true, false, true, true]) (S_nfaruleq2_1 x1_0 x1_1 x1_2 x1_3 x1_5 st) c
abbrev U_nfaruleq2_1 (rd : Option Nat) (x1_0 : List Int) (x1_1 : WL rw_uuuu) (x1_2 : WL rw_L) (x1_3 : NL) (x1_5 : Int) (st : Int × Int) (r : Int) : Prop := CG P rd (fnN P 19) 1 (codeOf P 19 [false, true, false, true, true]) (S_nfaruleq2_1 x1_0 x1_1 x1_2 x1_3 x1_5 st) (X_nfaruleq2_1 x1_0 x1_1 x1_2 x1_3 x1_5 r)
def B_nfaruleq2_1 (n : Nat) (x1_0 : List Int) (x1_1 : WL rw_uuuu) (x1_2 : WL rw_L) (x1_3 : NL) (x1_5 : Int) (st : Int × Int) : Option ((Int × Int) ⊕ (Int)) := match st with
 | (x1_4, x1_6) =>
  if x1_6 < x1_5 then
   if 0 ≤ x1_6 ∧ x1_6 < (((x1_0).length : Nat) : Int) then
    ((some ((x1_0).getD (x1_6).toNat 0))).bind fun y1_3_ =>
    if y1_3_ < (0 : Int) then
     some (.inl (x1_4, (w64 (x1_6 + (1 : Int)))))
    else
     if y1_3_ ≥ (((x1_3).l.length : Nat) : Int) then
      some (.inl (x1_4, (w64 (x1_6 + (1 : Int)))))
     else
      if 0 ≤ y1_3_ ∧ y1_3_ < (((x1_3).l.length : Nat) : Int) then
       if (y1_3_).toNat < ((x1_3).l).length then
        ((some (((x1_3).l).getD (y1_3_).toNat 0))).bind fun y1_8_ =>
        if y1_8_ < (0 : Int) then
         some (.inl (x1_4, (w64 (x1_6 + (1 : Int)))))
        else
         if x1_4 < (0 : Int) then
          some (.inl (y1_8_, (w64 (x1_6 + (1 : Int)))))
         else
          if y1_8_ < x1_4 then
           some (.inl (y1_8_, (w64 (x1_6 + (1 : Int)))))
          else
           some (.inl (x1_4, (w64 (x1_6 + (1 : Int)))))
       else none
      else none
   else none
  else
   some (.inr x1_4)
def m_nfaruleq2_1 (n : Nat) (x1_0 : List Int) (x1_1 : WL rw_uuuu) (x1_2 : WL rw_L) (x1_3 : NL) (x1_5 : Int) (st : Int × Int) : Option (Int) := iterM (B_nfaruleq2_1 n x1_0 x1_1 x1_2 x1_3 x1_5) n st
theorem b_nfaruleq2_1 (n : Nat) {rnd : Option Nat} (x1_0 : List Int) (x1_1 : WL rw_uuuu) (x1_2 : WL rw_L) (x1_3 : NL) (x1_5 : Int) (st : Int × Int) (o : (Int × Int) ⊕ (Int)) (h : B_nfaruleq2_1 n x1_0 x1_1 x1_2 x1_3 x1_5 st = some o) : CG P rnd (fnN P 19) 1 (codeOf P 19 [false, false, true, false, true, true]) (S_nfaruleq2_1 x1_0 x1_1 x1_2 x1_3 x1_5 st) (Sum.elim (fun s => (.normal, S_nfaruleq2_1 x1_0 x1_1 x1_2 x1_3 x1_5 s)) (fun r => X_nfaruleq2_1 x1_0 x1_1 x1_2 x1_3 x1_5 r) o) := by
 obtain ⟨x1_4, x1_6⟩ := st
 unfold B_nfaruleq2_1 at h
 dsimp only at h
 by_cases hy1_1 : x1_6 < x1_5
 ·rw [if_pos hy1_1] at h
  obtain ⟨hy1_2, h⟩ := gd h
  obtain ⟨y1_3_, hy1_3, h⟩ := oB h
  have k0 := fun {A L l} (k : PL A L l) => zz 1 (xdT hy1_1) <|
   zz 7 (xk7 0 1 hy1_2) <|
   zz 8 (xivN hy1_3 (toNatLt hy1_2)) <|
   k
  by_cases hy1_4 : y1_3_ < (0 : Int)
  ·rw [if_pos hy1_4] at h
   obtain rfl := oI h
   exact runC2 hm ⟨[2, 5, 8, 9, 10], [(0, 0, true), (1, 1, false)], 2, 1, [], false, [], [], []⟩ (k0 <|
    zz 13 (xdT hy1_4) <|
    ww (iv_flat x1_0 3) <|
    ee) (by kernel_rfl)
  ·rw [if_neg hy1_4] at h
   have k3 := fun {A L l} (k : PL A L l) => zz 13 (xdF hy1_4) <|
    k
   by_cases hy1_5 : y1_3_ ≥ (((x1_3).l.length : Nat) : Int)
   ·rw [if_pos hy1_5] at h
    obtain rfl := oI h
    exact runC2 hm ⟨[2, 5, 8, 9, 10], [(0, 0, true), (1, 1, false)], 2, 1, [], false, [], [], []⟩ (k0 <|
     k3 <|
     zz 19 (xdT hy1_5) <|
     ww (iv_flat x1_0 3) <|
     ee) (by kernel_rfl)
   ·rw [if_neg hy1_5] at h
    obtain ⟨hy1_6, h⟩ := gd h
    obtain ⟨hy1_7, h⟩ := gd h
    obtain ⟨y1_8_, hy1_8, h⟩ := oB h
    have k4 := fun {A L l} (k : PL A L l) => zz 19 (xdF hy1_5) <|
     zz 25 (xk5 (Nat.add (x1_3).num 64) (x1_3).off (x1_3).cap hy1_6) <|
     zz 26 (nk6 hy1_8 hy1_7) <|
     k
    by_cases hy1_9 : y1_8_ < (0 : Int)
    ·rw [if_pos hy1_9] at h
     obtain rfl := oI h
     exact runC2 hm ⟨[2, 5, 8, 9, 10], [(0, 0, true), (1, 1, false)], 2, 1, [], false, [], [], []⟩ (k0 <|
      k3 <|
      k4 <|
      zz 27 (xdT hy1_9) <|
      ww (iv_flat x1_0 3) <|
      ee) (by kernel_rfl)
    ·rw [if_neg hy1_9] at h
     have k7 := fun {A L l} (k : PL A L l) => zz 27 (xdF hy1_9) <|
      k
     by_cases hy1_10 : x1_4 < (0 : Int)
     ·rw [if_pos hy1_10] at h
      obtain rfl := oI h
      exact runC2 hm ⟨[2, 5, 8, 9, 10], [(0, 0, true), (1, 1, false)], 2, 1, [], false, [], [], []⟩ (k0 <|
       k3 <|
       k4 <|
       k7 <|
       zz 32 (xdT hy1_10) <|
       zz 46 (xk5 (Nat.add (x1_3).num 64) (x1_3).off (x1_3).cap hy1_6) <|
       zz 47 (nk6 hy1_8 hy1_7) <|
       ww (iv_flat x1_0 3) <|
       ee) (by kernel_rfl)
     ·rw [if_neg hy1_10] at h
      have k8 := fun {A L l} (k : PL A L l) => zz 32 (xdF hy1_10) <|
       zz 37 (xk5 (Nat.add (x1_3).num 64) (x1_3).off (x1_3).cap hy1_6) <|
       zz 38 (nk6 hy1_8 hy1_7) <|
       k
      by_cases hy1_11 : y1_8_ < x1_4
      ·rw [if_pos hy1_11] at h
       obtain rfl := oI h
       exact runC2 hm ⟨[2, 5, 8, 9, 10], [(0, 0, true), (1, 1, false)], 2, 1, [], false, [], [], []⟩ (k0 <|
        k3 <|
        k4 <|
        k7 <|
        k8 <|
        zz 40 (xdT hy1_11) <|
        zz 46 (xk5 (Nat.add (x1_3).num 64) (x1_3).off (x1_3).cap hy1_6) <|
        zz 47 (nk6 hy1_8 hy1_7) <|
        ww (iv_flat x1_0 3) <|
        ee) (by kernel_rfl)
      ·rw [if_neg hy1_11] at h
       obtain rfl := oI h
       exact runC2 hm ⟨[2, 5, 8, 9, 10], [(0, 0, true), (1, 1, false)], 2, 1, [], false, [], [], []⟩ (k0 <|
        k3 <|
        k4 <|
        k7 <|
        k8 <|
        zz 40 (xdF hy1_11) <|
        ww (iv_flat x1_0 3) <|
        ee) (by kernel_rfl)
 ·rw [if_neg hy1_1] at h
  obtain rfl := oI h
  exact runC2 hm ⟨[5], [(0, 0, true)], 1, 1, [], false, [], [], []⟩ (zz 1 (xdF hy1_1) <|
   ww (iv_flat x1_0 3) <|
   ee) (by kernel_rfl)
theorem m_nfaruleq2_1_ok (n : Nat) {rnd : Option Nat} (x1_0 : List Int) (x1_1 : WL rw_uuuu) (x1_2 : WL rw_L) (x1_3 : NL) (x1_5 : Int) (st : Int × Int) (r : Int) (h : m_nfaruleq2_1 n x1_0 x1_1 x1_2 x1_3 x1_5 st = some r) : CG P rnd (fnN P 19) 1 (codeOf P 19 [false, true, false, true, true]) (S_nfaruleq2_1 x1_0 x1_1 x1_2 x1_3 x1_5 st) (X_nfaruleq2_1 x1_0 x1_1 x1_2 x1_3 x1_5 r) :=
 CG.iter (b := codeOf P 19 [false, false, true, false, true, true]) (by kernel_rfl) (body := B_nfaruleq2_1 n x1_0 x1_1 x1_2 x1_3 x1_5) (S := S_nfaruleq2_1 x1_0 x1_1 x1_2 x1_3 x1_5) (X := X_nfaruleq2_1 x1_0 x1_1 x1_2 x1_3 x1_5)
  (fun s s' h => b_nfaruleq2_1 n x1_0 x1_1 x1_2 x1_3 x1_5 s (.inl s') h)
  (fun s r h => b_nfaruleq2_1 n x1_0 x1_1 x1_2 x1_3 x1_5 s (.inr r) h)
  (fun r => by intro hx; cases hx) h
def m_nfaruleq2 (n : Nat) (a0 : WL rw_uuuu) (a1 : WL rw_L) (a2 : NL) (a3 : List Int) : Option (Int) :=
 (m_nfaruleq2_1 n a3 a0 a1 a2 (((a3).length : Nat) : Int) ((-1), 0)).bind fun c1_ =>
 some c1_
theorem m_nfaruleq2_ok (n : Nat) (a0 : WL rw_uuuu) (a1 : WL rw_L) (a2 : NL) (a3 : List Int) (r : Int) (h : m_nfaruleq2 n a0 a1 a2 a3 = some r) : Gv P (.func 19) (A_nfaruleq2 a0 a1 a2 a3) (H_nfaruleq2 a0 a1 a2 a3) (V_nfaruleq2 a0 a1 a2 a3 r) (R_nfaruleq2 a0 a1 a2 a3 r) := by
 unfold m_nfaruleq2 at h
 obtain ⟨c1_, hc1, h⟩ := oB h
 obtain rfl := oI h
 exact runF2 hm ⟨[4], [], 1, 1, [], false, [], [], []⟩ (ww (p := U_nfaruleq2_1 none a3 a0 a1 a2 (((a3).length : Nat) : Int) ((-1), 0) c1_) (m_nfaruleq2_1_ok n a3 a0 a1 a2 (((a3).length : Nat) : Int) ((-1), 0) c1_ hc1) <|
  ww (iv_flat a3 3) <|
  ll 11 ⟨⟨[2, 5, 8, 9, 10], [(0, 0, true), (1, 1, false)], 2, 1, [], false, [], [], []⟩, (X_nfaruleq2_1 a3 a0 a1 a2 (((a3).length : Nat) : Int) c1_).1, (X_nfaruleq2_1 a3 a0 a1 a2 (((a3).length : Nat) : Int) c1_).2⟩ <|
  ee) (by kernel_rfl)

def A_nfaRunq1 (a0 : WL rw_uuuu) (a1 : WL rw_L) (a2 : NL) (a3 : ByteArray) : List Value := [(Value.agg #[(wlV a0), (wlV a1), (nlV a2)]), (Value.string a3)]
def H_nfaRunq1 (a0 : WL rw_uuuu) (a1 : WL rw_L) (a2 : NL) (a3 : ByteArray) : AH := ⟨sB [], 0, 0⟩
def V_nfaRunq1 (a0 : WL rw_uuuu) (a1 : WL rw_L) (a2 : NL) (a3 : ByteArray) (r : Int) : Value := match r with
 | o0 => (i6 o0)
def R_nfaRunq1 (a0 : WL rw_uuuu) (a1 : WL rw_L) (a2 : NL) (a3 : ByteArray) (r : Int) : AH := match r with
 | o0 => ⟨sB [], 0, 0⟩
abbrev G_nfaRunq1 (a0 : WL rw_uuuu) (a1 : WL rw_L) (a2 : NL) (a3 : ByteArray) (r : Int) : Prop := Gv P (.func 12) (A_nfaRunq1 a0 a1 a2 a3) (H_nfaRunq1 a0 a1 a2 a3) (V_nfaRunq1 a0 a1 a2 a3 r) (R_nfaRunq1 a0 a1 a2 a3 r)
abbrev C_nfaRunq1 (a0 : WL rw_uuuu) (a1 : WL rw_L) (a2 : NL) (a3 : ByteArray) (r : Int) (ins outs : BL) : CallA := ⟨0, ins, V_nfaRunq1 a0 a1 a2 a3 r, R_nfaRunq1 a0 a1 a2 a3 r, outs⟩
def S_nfaRunq1_1 (x1_0 : ByteArray) (x1_1 : WL rw_uuuu) (x1_2 : WL rw_L) (x1_3 : NL) (st : NL × Int) : XSt := match st with
 | (x1_4, x1_5) => (sT 31 [(1, (Value.string x1_0)), (2, (pN 0 0)), (5, (nlV x1_4)), (6, (i6 x1_5))], [], ⟨sB [(0, (some (.cells (layT [(wlV x1_1), (wlV x1_2), (nlV x1_3)]) 26)))], 1, 0⟩)
def X_nfaRunq1_1 (x1_0 : ByteArray) (x1_1 : WL rw_uuuu) (x1_2 : WL rw_L) (x1_3 : NL) (r : NL) : Ex × XSt := match r with
 | z1_0 => (.exit 0, (sT 31 [(2, (pN 0 0)), (5, (nlV z1_0))], [], ⟨sB [(0, (some (.cells (layT [(wlV x1_1), (wlV x1_2), (nlV x1_3)]) 26)))], 1, 0⟩))
abbrev Q_nfaRunq1_1 (rnd : Option Nat) (x1_0 : ByteArray) (x1_1 : WL rw_uuuu) (x1_2 : WL rw_L) (x1_3 : NL) (st : NL × Int) (c : Ex × XSt) : Prop := CG P rnd (fnN P 12) 0 (codeOf P 12 [false, false, true, false, true, true, true]) (S_nfaRunq1_1 x1_0 x1_1 x1_2 x1_3 st) c
abbrev U_nfaRunq1_1 (rd : Option Nat) (x1_0 : ByteArray) (x1_1 : WL rw_uuuu) (x1_2 : WL rw_L) (x1_3 : NL) (st : NL × Int) (r : NL) : Prop := CG P rd (fnN P 12) 0 (codeOf P 12 [false, true, false, true, true, true]) (S_nfaRunq1_1 x1_0 x1_1 x1_2 x1_3 st) (X_nfaRunq1_1 x1_0 x1_1 x1_2 x1_3 r)
def B_nfaRunq1_1 (n : Nat) (x1_0 : ByteArray) (x1_1 : WL rw_uuuu) (x1_2 : WL rw_L) (x1_3 : NL) (st : NL × Int) : Option ((NL × Int) ⊕ (NL)) := match st with
 | (x1_4, x1_5) =>
  if x1_5 < (((x1_0).size : Nat) : Int) then
   if (((x1_4).l.length : Nat) : Int) > (0 : Int) then
    if 0 ≤ x1_5 ∧ x1_5 < (((x1_0).size : Nat) : Int) then
     (m_nfastepq2 n x1_1 x1_2 x1_3 x1_4 (byteAt x1_0 (x1_5).toNat)).bind fun y1_4_ =>
     some (.inl (y1_4_, (w64 (x1_5 + (1 : Int)))))
    else none
   else
    some (.inr x1_4)
  else
   some (.inr x1_4)
def m_nfaRunq1_1 (n : Nat) (x1_0 : ByteArray) (x1_1 : WL rw_uuuu) (x1_2 : WL rw_L) (x1_3 : NL) (st : NL × Int) : Option (NL) := iterM (B_nfaRunq1_1 n x1_0 x1_1 x1_2 x1_3) n st
theorem b_nfaRunq1_1 (n : Nat) {rnd : Option Nat} (x1_0 : ByteArray) (x1_1 : WL rw_uuuu) (x1_2 : WL rw_L) (x1_3 : NL) (st : NL × Int) (o : (NL × Int) ⊕ (NL)) (h : B_nfaRunq1_1 n x1_0 x1_1 x1_2 x1_3 st = some o) : CG P rnd (fnN P 12) 0 (codeOf P 12 [false, false, true, false, true, true, true]) (S_nfaRunq1_1 x1_0 x1_1 x1_2 x1_3 st) (Sum.elim (fun s => (.normal, S_nfaRunq1_1 x1_0 x1_1 x1_2 x1_3 s)) (fun r => X_nfaRunq1_1 x1_0 x1_1 x1_2 x1_3 r) o) := by
 obtain ⟨x1_4, x1_5⟩ := st
 unfold B_nfaRunq1_1 at h
 dsimp only at h
 by_cases hy1_1 : x1_5 < (((x1_0).size : Nat) : Int)
 ·rw [if_pos hy1_1] at h
  have k0 := fun {A L l} (k : PL A L l) => zz 5 (xdT hy1_1) <|
   k
  by_cases hy1_2 : (((x1_4).l.length : Nat) : Int) > (0 : Int)
  ·rw [if_pos hy1_2] at h
   obtain ⟨hy1_3, h⟩ := gd h
   obtain ⟨y1_4_, hy1_4, h⟩ := oB h
   obtain rfl := oI h
   exact runC2 hm ⟨[1, 2, 5, 6], [(0, 0, false)], 1, 0, [], false, [], [], []⟩ (k0 <|
    zz 9 (xdT hy1_2) <|
    yy 18 (.pur (Value.int .u8 (byteAt x1_0 (x1_5).toNat))) <|
    ww (p := opIndex P 9 (Value.string x1_0) (i6 x1_5) Ax.h0 = some ((Value.int .u8 (byteAt x1_0 (x1_5).toNat)), Ax.h0)) (ixStr (by kernel_rfl) hy1_3) <|
    yy 19 (.call (C_nfastepq2 x1_1 x1_2 x1_3 x1_4 (byteAt x1_0 (x1_5).toNat) y1_4_ [] [])) <|
    ww (m_nfastepq2_ok n x1_1 x1_2 x1_3 x1_4 (byteAt x1_0 (x1_5).toNat) y1_4_ hy1_4) <|
    ee) (by kernel_rfl)
  ·rw [if_neg hy1_2] at h
   obtain rfl := oI h
   exact runC2 hm ⟨[2, 5], [(0, 0, false)], 1, 0, [], false, [], [], []⟩ (k0 <|
    zz 9 (xdF hy1_2) <|
    ee) (by kernel_rfl)
 ·rw [if_neg hy1_1] at h
  obtain rfl := oI h
  exact runC2 hm ⟨[2, 5], [(0, 0, false)], 1, 0, [], false, [], [], []⟩ (zz 5 (xdF hy1_1) <|
   ee) (by kernel_rfl)
theorem m_nfaRunq1_1_ok (n : Nat) {rnd : Option Nat} (x1_0 : ByteArray) (x1_1 : WL rw_uuuu) (x1_2 : WL rw_L) (x1_3 : NL) (st : NL × Int) (r : NL) (h : m_nfaRunq1_1 n x1_0 x1_1 x1_2 x1_3 st = some r) : LG P rnd (fnN P 12) 0 (codeOf P 12 [false, false, true, false, true, true, true]) (S_nfaRunq1_1 x1_0 x1_1 x1_2 x1_3 st) (X_nfaRunq1_1 x1_0 x1_1 x1_2 x1_3 r) :=
 LG.iter (body := B_nfaRunq1_1 n x1_0 x1_1 x1_2 x1_3) (S := S_nfaRunq1_1 x1_0 x1_1 x1_2 x1_3) (X := X_nfaRunq1_1 x1_0 x1_1 x1_2 x1_3)
  (fun s s' h => b_nfaRunq1_1 n x1_0 x1_1 x1_2 x1_3 s (.inl s') h)
  (fun s r h => b_nfaRunq1_1 n x1_0 x1_1 x1_2 x1_3 s (.inr r) h)
  (fun r => by intro hx; cases hx) _ _ _ h
def m_nfaRunq1 (n : Nat) (a0 : WL rw_uuuu) (a1 : WL rw_L) (a2 : NL) (a3 : ByteArray) : Option (Int) :=
 (m_nfaCheckq1 n a0 a1 a2).bind fun c1_ =>
 if c1_ = (0 : Int) then
  if (0 : Int) < (((a3).size : Nat) : Int) then
   if 0 ≤ (0 : Int) ∧ (0 : Int) < (((a3).size : Nat) : Int) then
    (m_nfastepq1 n a0 a1 a2 [(0 : Int)] (byteAt a3 ((0 : Int)).toNat)).bind fun c5_ =>
    (m_nfaRunq1_1 n a3 a0 a1 a2 (c5_, 1)).bind fun c6_ =>
    (m_nfaruleq1 n a0 a1 a2 c6_).bind fun c7_ =>
    some c7_
   else none
  else
   (m_nfaruleq2 n a0 a1 a2 [(0 : Int)]).bind fun c4_ =>
   some c4_
 else
  some (-1)
theorem m_nfaRunq1_ok (n : Nat) (a0 : WL rw_uuuu) (a1 : WL rw_L) (a2 : NL) (a3 : ByteArray) (r : Int) (h : m_nfaRunq1 n a0 a1 a2 a3 = some r) : Gv P (.func 12) (A_nfaRunq1 a0 a1 a2 a3) (H_nfaRunq1 a0 a1 a2 a3) (V_nfaRunq1 a0 a1 a2 a3 r) (R_nfaRunq1 a0 a1 a2 a3 r) := by
 unfold m_nfaRunq1 at h
 obtain ⟨c1_, hc1, h⟩ := oB h
 have k0 := fun {A L l} (k : PL A L l) => yy 6 (.call (C_nfaCheckq1 a0 a1 a2 c1_ [] [])) <|
  ww (m_nfaCheckq1_ok n a0 a1 a2 c1_ hc1) <|
  k
 by_cases hc2 : c1_ = (0 : Int)
 ·rw [if_pos hc2] at h
  have k2 := fun {A L l} (k : PL A L l) => zz 7 (xnF hc2) <|
   k
  by_cases hc3 : (0 : Int) < (((a3).size : Nat) : Int)
  ·rw [if_pos hc3] at h
   obtain ⟨hc4, h⟩ := gd h
   obtain ⟨c5_, hc5, h⟩ := oB h
   obtain ⟨c6_, hc6, h⟩ := oB h
   obtain ⟨c7_, hc7, h⟩ := oB h
   obtain rfl := oI h
   exact runF2 hm ⟨[4], [], 0, 0, [], false, [], [], []⟩ (k0 <|
    k2 <|
    zz 22 (xdT hc3) <|
    yy 35 (.pur (Value.int .u8 (byteAt a3 ((0 : Int)).toNat))) <|
    ww (p := opIndex P 9 (Value.string a3) (i6 (0 : Int)) Ax.h0 = some ((Value.int .u8 (byteAt a3 ((0 : Int)).toNat)), Ax.h0)) (ixStr (by kernel_rfl) hc4) <|
    yy 36 (.call (C_nfastepq1 a0 a1 a2 [(0 : Int)] (byteAt a3 ((0 : Int)).toNat) c5_ [(0, 1, false)] [])) <|
    ww (m_nfastepq1_ok n a0 a1 a2 [(0 : Int)] (byteAt a3 ((0 : Int)).toNat) c5_ hc5) <|
    ww (p := LG P none (fnN P 12) 0 (codeOf P 12 [false, false, true, false, true, true, true]) (S_nfaRunq1_1 a3 a0 a1 a2 (c5_, 1)) (X_nfaRunq1_1 a3 a0 a1 a2 c6_)) (m_nfaRunq1_1_ok n a3 a0 a1 a2 (c5_, 1) c6_ hc6) <|
    ll 41 ⟨⟨[1, 2, 5, 6], [(0, 0, false)], 1, 0, [], false, [], [], []⟩, (X_nfaRunq1_1 a3 a0 a1 a2 c6_).1, (X_nfaRunq1_1 a3 a0 a1 a2 c6_).2⟩ <|
    yy 45 (.call (C_nfaruleq1 a0 a1 a2 c6_ c7_ [] [])) <|
    ww (m_nfaruleq1_ok n a0 a1 a2 c6_ c7_ hc7) <|
    ee) (by kernel_rfl)
  ·rw [if_neg hc3] at h
   obtain ⟨c4_, hc4, h⟩ := oB h
   obtain rfl := oI h
   exact runF2 hm ⟨[4], [], 0, 0, [], false, [], [], []⟩ (k0 <|
    k2 <|
    zz 22 (xdF hc3) <|
    yy 32 (.call (C_nfaruleq2 a0 a1 a2 [(0 : Int)] c4_ [(0, 1, false)] [])) <|
    ww (m_nfaruleq2_ok n a0 a1 a2 [(0 : Int)] c4_ hc4) <|
    ee) (by kernel_rfl)
 ·rw [if_neg hc2] at h
  obtain rfl := oI h
  exact runF2 hm ⟨[4], [], 0, 0, [], false, [], [], []⟩ (k0 <|
   zz 7 (xnT hc2) <|
   ee) (by kernel_rfl)

def A_nfaRuleq1 (a0 : WL rw_uuuu) (a1 : WL rw_L) (a2 : NL) (a3 : List Int) : List Value := [(Value.agg #[(wlV a0), (wlV a1), (nlV a2)]), (sN 0 0 (a3).length 1)]
def H_nfaRuleq1 (a0 : WL rw_uuuu) (a1 : WL rw_L) (a2 : NL) (a3 : List Int) : AH := ⟨sB [(0, (some (.cells (layT (iv a3)) 3)))], 1, 1⟩
def V_nfaRuleq1 (a0 : WL rw_uuuu) (a1 : WL rw_L) (a2 : NL) (a3 : List Int) (r : Int) : Value := match r with
 | o0 => (i6 o0)
def R_nfaRuleq1 (a0 : WL rw_uuuu) (a1 : WL rw_L) (a2 : NL) (a3 : List Int) (r : Int) : AH := match r with
 | o0 => ⟨sB [], 1, 1⟩
abbrev G_nfaRuleq1 (a0 : WL rw_uuuu) (a1 : WL rw_L) (a2 : NL) (a3 : List Int) (r : Int) : Prop := Gv P (.func 11) (A_nfaRuleq1 a0 a1 a2 a3) (H_nfaRuleq1 a0 a1 a2 a3) (V_nfaRuleq1 a0 a1 a2 a3 r) (R_nfaRuleq1 a0 a1 a2 a3 r)
abbrev C_nfaRuleq1 (a0 : WL rw_uuuu) (a1 : WL rw_L) (a2 : NL) (a3 : List Int) (r : Int) (ins outs : BL) : CallA := ⟨1, ins, V_nfaRuleq1 a0 a1 a2 a3 r, R_nfaRuleq1 a0 a1 a2 a3 r, outs⟩
def m_nfaRuleq1 (n : Nat) (a0 : WL rw_uuuu) (a1 : WL rw_L) (a2 : NL) (a3 : List Int) : Option (Int) :=
 (m_nfaCheckq1 n a0 a1 a2).bind fun c1_ =>
 if c1_ = (0 : Int) then
  (m_nfaruleq2 n a0 a1 a2 a3).bind fun c3_ =>
  some c3_
 else
  some (-1)
theorem m_nfaRuleq1_ok (n : Nat) (a0 : WL rw_uuuu) (a1 : WL rw_L) (a2 : NL) (a3 : List Int) (r : Int) (h : m_nfaRuleq1 n a0 a1 a2 a3 = some r) : Gv P (.func 11) (A_nfaRuleq1 a0 a1 a2 a3) (H_nfaRuleq1 a0 a1 a2 a3) (V_nfaRuleq1 a0 a1 a2 a3 r) (R_nfaRuleq1 a0 a1 a2 a3 r) := by
 unfold m_nfaRuleq1 at h
 obtain ⟨c1_, hc1, h⟩ := oB h
 have k0 := fun {A L l} (k : PL A L l) => yy 6 (.call (C_nfaCheckq1 a0 a1 a2 c1_ [] [])) <|
  ww (m_nfaCheckq1_ok n a0 a1 a2 c1_ hc1) <|
  k
 by_cases hc2 : c1_ = (0 : Int)
 ·rw [if_pos hc2] at h
  obtain ⟨c3_, hc3, h⟩ := oB h
  obtain rfl := oI h
  exact runF2 hm ⟨[4], [], 1, 1, [], false, [], [], []⟩ (k0 <|
   zz 7 (xnF hc2) <|
   yy 12 (.call (C_nfaruleq2 a0 a1 a2 a3 c3_ [(0, 0, true)] [])) <|
   ww (m_nfaruleq2_ok n a0 a1 a2 a3 c3_ hc3) <|
   ww (iv_flat a3 3) <|
   ee) (by kernel_rfl)
 ·rw [if_neg hc2] at h
  obtain rfl := oI h
  exact runF2 hm ⟨[4], [], 1, 1, [], false, [], [], []⟩ (k0 <|
   zz 7 (xnT hc2) <|
   ee) (by kernel_rfl)

def A_nfaStepq1 (a0 : WL rw_uuuu) (a1 : WL rw_L) (a2 : NL) (a3 : List Int) (a4 : Int) : List Value := [(Value.agg #[(wlV a0), (wlV a1), (nlV a2)]), (sN 0 0 (a3).length 1), (Value.int .u8 a4)]
def H_nfaStepq1 (a0 : WL rw_uuuu) (a1 : WL rw_L) (a2 : NL) (a3 : List Int) (a4 : Int) : AH := ⟨sB [(0, (some (.cells (layT (iv a3)) 3)))], 1, 1⟩
def V_nfaStepq1 (a0 : WL rw_uuuu) (a1 : WL rw_L) (a2 : NL) (a3 : List Int) (a4 : Int) (r : NL) : Value := match r with
 | o0 => (nlV o0)
def R_nfaStepq1 (a0 : WL rw_uuuu) (a1 : WL rw_L) (a2 : NL) (a3 : List Int) (a4 : Int) (r : NL) : AH := match r with
 | o0 => ⟨sB [], 1, 1⟩
abbrev G_nfaStepq1 (a0 : WL rw_uuuu) (a1 : WL rw_L) (a2 : NL) (a3 : List Int) (a4 : Int) (r : NL) : Prop := Gv P (.func 8) (A_nfaStepq1 a0 a1 a2 a3 a4) (H_nfaStepq1 a0 a1 a2 a3 a4) (V_nfaStepq1 a0 a1 a2 a3 a4 r) (R_nfaStepq1 a0 a1 a2 a3 a4 r)
abbrev C_nfaStepq1 (a0 : WL rw_uuuu) (a1 : WL rw_L) (a2 : NL) (a3 : List Int) (a4 : Int) (r : NL) (ins outs : BL) : CallA := ⟨1, ins, V_nfaStepq1 a0 a1 a2 a3 a4 r, R_nfaStepq1 a0 a1 a2 a3 a4 r, outs⟩
def m_nfaStepq1 (n : Nat) (a0 : WL rw_uuuu) (a1 : WL rw_L) (a2 : NL) (a3 : List Int) (a4 : Int) : Option (NL) :=
 (m_nfaCheckq1 n a0 a1 a2).bind fun c1_ =>
 if c1_ = (0 : Int) then
  (m_nfastepq1 n a0 a1 a2 a3 a4).bind fun c3_ =>
  some c3_
 else
  some nl0
theorem m_nfaStepq1_ok (n : Nat) (a0 : WL rw_uuuu) (a1 : WL rw_L) (a2 : NL) (a3 : List Int) (a4 : Int) (r : NL) (h : m_nfaStepq1 n a0 a1 a2 a3 a4 = some r) : Gv P (.func 8) (A_nfaStepq1 a0 a1 a2 a3 a4) (H_nfaStepq1 a0 a1 a2 a3 a4) (V_nfaStepq1 a0 a1 a2 a3 a4 r) (R_nfaStepq1 a0 a1 a2 a3 a4 r) := by
 unfold m_nfaStepq1 at h
 obtain ⟨c1_, hc1, h⟩ := oB h
 have k0 := fun {A L l} (k : PL A L l) => yy 6 (.call (C_nfaCheckq1 a0 a1 a2 c1_ [] [])) <|
  ww (m_nfaCheckq1_ok n a0 a1 a2 c1_ hc1) <|
  k
 by_cases hc2 : c1_ = (0 : Int)
 ·rw [if_pos hc2] at h
  obtain ⟨c3_, hc3, h⟩ := oB h
  obtain rfl := oI h
  exact runF2 hm ⟨[6], [], 1, 1, [], false, [], [], []⟩ (k0 <|
   zz 7 (xnF hc2) <|
   yy 13 (.call (C_nfastepq1 a0 a1 a2 a3 a4 c3_ [(0, 0, true)] [])) <|
   ww (m_nfastepq1_ok n a0 a1 a2 a3 a4 c3_ hc3) <|
   ww (iv_flat a3 3) <|
   ee) (by kernel_rfl)
 ·rw [if_neg hc2] at h
  obtain rfl := oI h
  exact runF2 hm ⟨[6], [], 1, 1, [], true, [], [], [6]⟩ (k0 <|
   zz 7 (xnT hc2) <|
   ee) (by kernel_rfl)

def A_nfaRuleq2 (a0 : WL rw_uuuu) (a1 : WL rw_L) (a2 : NL) (a3 : NL) : List Value := [(Value.agg #[(wlV a0), (wlV a1), (nlV a2)]), (nlV a3)]
def H_nfaRuleq2 (a0 : WL rw_uuuu) (a1 : WL rw_L) (a2 : NL) (a3 : NL) : AH := ⟨sB [], 0, 0⟩
def V_nfaRuleq2 (a0 : WL rw_uuuu) (a1 : WL rw_L) (a2 : NL) (a3 : NL) (r : Int) : Value := match r with
 | o0 => (i6 o0)
def R_nfaRuleq2 (a0 : WL rw_uuuu) (a1 : WL rw_L) (a2 : NL) (a3 : NL) (r : Int) : AH := match r with
 | o0 => ⟨sB [], 0, 0⟩
abbrev G_nfaRuleq2 (a0 : WL rw_uuuu) (a1 : WL rw_L) (a2 : NL) (a3 : NL) (r : Int) : Prop := Gv P (.func 11) (A_nfaRuleq2 a0 a1 a2 a3) (H_nfaRuleq2 a0 a1 a2 a3) (V_nfaRuleq2 a0 a1 a2 a3 r) (R_nfaRuleq2 a0 a1 a2 a3 r)
abbrev C_nfaRuleq2 (a0 : WL rw_uuuu) (a1 : WL rw_L) (a2 : NL) (a3 : NL) (r : Int) (ins outs : BL) : CallA := ⟨0, ins, V_nfaRuleq2 a0 a1 a2 a3 r, R_nfaRuleq2 a0 a1 a2 a3 r, outs⟩
def m_nfaRuleq2 (n : Nat) (a0 : WL rw_uuuu) (a1 : WL rw_L) (a2 : NL) (a3 : NL) : Option (Int) :=
 (m_nfaCheckq1 n a0 a1 a2).bind fun c1_ =>
 if c1_ = (0 : Int) then
  (m_nfaruleq1 n a0 a1 a2 a3).bind fun c3_ =>
  some c3_
 else
  some (-1)
theorem m_nfaRuleq2_ok (n : Nat) (a0 : WL rw_uuuu) (a1 : WL rw_L) (a2 : NL) (a3 : NL) (r : Int) (h : m_nfaRuleq2 n a0 a1 a2 a3 = some r) : Gv P (.func 11) (A_nfaRuleq2 a0 a1 a2 a3) (H_nfaRuleq2 a0 a1 a2 a3) (V_nfaRuleq2 a0 a1 a2 a3 r) (R_nfaRuleq2 a0 a1 a2 a3 r) := by
 unfold m_nfaRuleq2 at h
 obtain ⟨c1_, hc1, h⟩ := oB h
 have k0 := fun {A L l} (k : PL A L l) => yy 6 (.call (C_nfaCheckq1 a0 a1 a2 c1_ [] [])) <|
  ww (m_nfaCheckq1_ok n a0 a1 a2 c1_ hc1) <|
  k
 by_cases hc2 : c1_ = (0 : Int)
 ·rw [if_pos hc2] at h
  obtain ⟨c3_, hc3, h⟩ := oB h
  obtain rfl := oI h
  exact runF2 hm ⟨[4], [], 0, 0, [], false, [], [], []⟩ (k0 <|
   zz 7 (xnF hc2) <|
   yy 12 (.call (C_nfaruleq1 a0 a1 a2 a3 c3_ [] [])) <|
   ww (m_nfaruleq1_ok n a0 a1 a2 a3 c3_ hc3) <|
   ee) (by kernel_rfl)
 ·rw [if_neg hc2] at h
  obtain rfl := oI h
  exact runF2 hm ⟨[4], [], 0, 0, [], false, [], [], []⟩ (k0 <|
   zz 7 (xnT hc2) <|
   ee) (by kernel_rfl)

def A_nfaStepq2 (a0 : WL rw_uuuu) (a1 : WL rw_L) (a2 : NL) (a3 : NL) (a4 : Int) : List Value := [(Value.agg #[(wlV a0), (wlV a1), (nlV a2)]), (nlV a3), (Value.int .u8 a4)]
def H_nfaStepq2 (a0 : WL rw_uuuu) (a1 : WL rw_L) (a2 : NL) (a3 : NL) (a4 : Int) : AH := ⟨sB [], 0, 0⟩
def V_nfaStepq2 (a0 : WL rw_uuuu) (a1 : WL rw_L) (a2 : NL) (a3 : NL) (a4 : Int) (r : NL) : Value := match r with
 | o0 => (nlV o0)
def R_nfaStepq2 (a0 : WL rw_uuuu) (a1 : WL rw_L) (a2 : NL) (a3 : NL) (a4 : Int) (r : NL) : AH := match r with
 | o0 => ⟨sB [], 0, 0⟩
abbrev G_nfaStepq2 (a0 : WL rw_uuuu) (a1 : WL rw_L) (a2 : NL) (a3 : NL) (a4 : Int) (r : NL) : Prop := Gv P (.func 8) (A_nfaStepq2 a0 a1 a2 a3 a4) (H_nfaStepq2 a0 a1 a2 a3 a4) (V_nfaStepq2 a0 a1 a2 a3 a4 r) (R_nfaStepq2 a0 a1 a2 a3 a4 r)
abbrev C_nfaStepq2 (a0 : WL rw_uuuu) (a1 : WL rw_L) (a2 : NL) (a3 : NL) (a4 : Int) (r : NL) (ins outs : BL) : CallA := ⟨0, ins, V_nfaStepq2 a0 a1 a2 a3 a4 r, R_nfaStepq2 a0 a1 a2 a3 a4 r, outs⟩
def m_nfaStepq2 (n : Nat) (a0 : WL rw_uuuu) (a1 : WL rw_L) (a2 : NL) (a3 : NL) (a4 : Int) : Option (NL) :=
 (m_nfaCheckq1 n a0 a1 a2).bind fun c1_ =>
 if c1_ = (0 : Int) then
  (m_nfastepq2 n a0 a1 a2 a3 a4).bind fun c3_ =>
  some c3_
 else
  some nl0
theorem m_nfaStepq2_ok (n : Nat) (a0 : WL rw_uuuu) (a1 : WL rw_L) (a2 : NL) (a3 : NL) (a4 : Int) (r : NL) (h : m_nfaStepq2 n a0 a1 a2 a3 a4 = some r) : Gv P (.func 8) (A_nfaStepq2 a0 a1 a2 a3 a4) (H_nfaStepq2 a0 a1 a2 a3 a4) (V_nfaStepq2 a0 a1 a2 a3 a4 r) (R_nfaStepq2 a0 a1 a2 a3 a4 r) := by
 unfold m_nfaStepq2 at h
 obtain ⟨c1_, hc1, h⟩ := oB h
 have k0 := fun {A L l} (k : PL A L l) => yy 6 (.call (C_nfaCheckq1 a0 a1 a2 c1_ [] [])) <|
  ww (m_nfaCheckq1_ok n a0 a1 a2 c1_ hc1) <|
  k
 by_cases hc2 : c1_ = (0 : Int)
 ·rw [if_pos hc2] at h
  obtain ⟨c3_, hc3, h⟩ := oB h
  obtain rfl := oI h
  exact runF2 hm ⟨[6], [], 0, 0, [], false, [], [], []⟩ (k0 <|
   zz 7 (xnF hc2) <|
   yy 13 (.call (C_nfastepq2 a0 a1 a2 a3 a4 c3_ [] [])) <|
   ww (m_nfastepq2_ok n a0 a1 a2 a3 a4 c3_ hc3) <|
   ee) (by kernel_rfl)
 ·rw [if_neg hc2] at h
  obtain rfl := oI h
  exact runF2 hm ⟨[6], [], 0, 0, [], true, [], [], [6]⟩ (k0 <|
   zz 7 (xnT hc2) <|
   ee) (by kernel_rfl)

def A_viewportlaw03NfaGoes (g02 : NL) (g1 : ByteArray) : List Value := [(Value.agg #[(wlV wA), (wlV wB), (nlV g02)]), (Value.string g1)]
def H_viewportlaw03NfaGoes (g02 : NL) (g1 : ByteArray) : AH := ⟨sB [], 0, 0⟩
def V_viewportlaw03NfaGoes (g02 : NL) (g1 : ByteArray) (r : Unit) : Value := match r with
 | _ => (bO true)
def R_viewportlaw03NfaGoes (g02 : NL) (g1 : ByteArray) (r : Unit) : AH := match r with
 | _ => ⟨sB [], 0, 0⟩
abbrev G_viewportlaw03NfaGoes (g02 : NL) (g1 : ByteArray) (r : Unit) : Prop := Gv P (.func 4) (A_viewportlaw03NfaGoes g02 g1) (H_viewportlaw03NfaGoes g02 g1) (V_viewportlaw03NfaGoes g02 g1 r) (R_viewportlaw03NfaGoes g02 g1 r)
abbrev C_viewportlaw03NfaGoes (g02 : NL) (g1 : ByteArray) (r : Unit) (ins outs : BL) : CallA := ⟨0, ins, V_viewportlaw03NfaGoes g02 g1 r, R_viewportlaw03NfaGoes g02 g1 r, outs⟩
def S_viewportlaw03NfaGoest6 (x6_0 : ByteArray) (x6_1 : WL rw_uuuu) (x6_2 : WL rw_L) (x6_3 : NL) (x6_4 : Bool) (st : Unit) : XSt := (sT 63 [(1, (Value.string x6_0)), (2, (pN 0 0)), (5, (sN 1 0 1 1)), (6, (i6 (0 : Int))), (37, (bO x6_4))], [], ⟨sB [(0, (some (.cells (layT [(wlV x6_1), (wlV x6_2), (nlV x6_3)]) 26))), (1, (some (.cells (layT [(i6 (0 : Int))]) 3)))], 2, 0⟩)
def X_viewportlaw03NfaGoest6 (x6_0 : ByteArray) (x6_1 : WL rw_uuuu) (x6_2 : WL rw_L) (x6_3 : NL) (x6_4 : Bool) (r : Unit) : Ex × XSt := match r with
 | _ => (.normal, (sT 63 [(1, (Value.string x6_0)), (2, (pN 0 0)), (5, (sN 1 0 1 1)), (6, (i6 (0 : Int)))], [], ⟨sB [(0, (some (.cells (layT [(wlV x6_1), (wlV x6_2), (nlV x6_3)]) 26))), (1, (some (.cells (layT [(i6 (0 : Int))]) 3)))], 2, 0⟩))
abbrev U_viewportlaw03NfaGoest6 (rd : Option Nat) (x6_0 : ByteArray) (x6_1 : WL rw_uuuu) (x6_2 : WL rw_L) (x6_3 : NL) (x6_4 : Bool) (st : Unit) (r : Unit) : Prop := CG P rd (fnN P 4) 0 (codeOf P 4 [true, false, false, false, true, false, false, true, false, true, true, true, true]) (S_viewportlaw03NfaGoest6 x6_0 x6_1 x6_2 x6_3 x6_4 st) (X_viewportlaw03NfaGoest6 x6_0 x6_1 x6_2 x6_3 x6_4 r)
def m_viewportlaw03NfaGoest6 (n : Nat) (x6_0 : ByteArray) (x6_1 : WL rw_uuuu) (x6_2 : WL rw_L) (x6_3 : NL) (x6_4 : Bool) (st : Unit) : Option (Unit) :=
 if x6_4 = true then
  none
 else
  some ()
theorem m_viewportlaw03NfaGoest6_ok (n : Nat) {rnd : Option Nat} (x6_0 : ByteArray) (x6_1 : WL rw_uuuu) (x6_2 : WL rw_L) (x6_3 : NL) (x6_4 : Bool) (st : Unit) (r : Unit) (h : m_viewportlaw03NfaGoest6 n x6_0 x6_1 x6_2 x6_3 x6_4 st = some r) : CG P rnd (fnN P 4) 0 (codeOf P 4 [true, false, false, false, true, false, false, true, false, true, true, true, true]) (S_viewportlaw03NfaGoest6 x6_0 x6_1 x6_2 x6_3 x6_4 st) (X_viewportlaw03NfaGoest6 x6_0 x6_1 x6_2 x6_3 x6_4 r) := by
 unfold m_viewportlaw03NfaGoest6 at h
 by_cases hy6_1 : x6_4 = true
 ·rw [if_pos hy6_1] at h
  cases h
 ·rw [if_neg hy6_1] at h
  obtain rfl := oI h
  exact runC2 hm ⟨[1, 2, 5, 6], [(0, 0, false), (1, 1, false)], 2, 0, [], false, [], [], []⟩ (zz 0 (xbF hy6_1) <|
   ee) (by kernel_rfl)
def S_viewportlaw03NfaGoest9 (x9_0 : ByteArray) (x9_1 : WL rw_uuuu) (x9_2 : WL rw_L) (x9_3 : NL) (x9_4 : NL) (x9_5 : Int) (x9_6 : Bool) (st : Unit) : XSt := (sT 63 [(1, (Value.string x9_0)), (2, (pN 0 0)), (5, (nlV x9_4)), (6, (i6 x9_5)), (37, (bO x9_6))], [], ⟨sB [(0, (some (.cells (layT [(wlV x9_1), (wlV x9_2), (nlV x9_3)]) 26)))], 1, 0⟩)
def X_viewportlaw03NfaGoest9 (x9_0 : ByteArray) (x9_1 : WL rw_uuuu) (x9_2 : WL rw_L) (x9_3 : NL) (x9_4 : NL) (x9_5 : Int) (x9_6 : Bool) (r : Unit) : Ex × XSt := match r with
 | _ => (.normal, (sT 63 [(1, (Value.string x9_0)), (2, (pN 0 0)), (5, (nlV x9_4)), (6, (i6 x9_5))], [], ⟨sB [(0, (some (.cells (layT [(wlV x9_1), (wlV x9_2), (nlV x9_3)]) 26)))], 1, 0⟩))
abbrev U_viewportlaw03NfaGoest9 (rd : Option Nat) (x9_0 : ByteArray) (x9_1 : WL rw_uuuu) (x9_2 : WL rw_L) (x9_3 : NL) (x9_4 : NL) (x9_5 : Int) (x9_6 : Bool) (st : Unit) (r : Unit) : Prop := CG P rd (fnN P 4) 0 (codeOf P 4 [true, false, false, false, true, false, false, true, false, true, true, true, true]) (S_viewportlaw03NfaGoest9 x9_0 x9_1 x9_2 x9_3 x9_4 x9_5 x9_6 st) (X_viewportlaw03NfaGoest9 x9_0 x9_1 x9_2 x9_3 x9_4 x9_5 x9_6 r)
def m_viewportlaw03NfaGoest9 (n : Nat) (x9_0 : ByteArray) (x9_1 : WL rw_uuuu) (x9_2 : WL rw_L) (x9_3 : NL) (x9_4 : NL) (x9_5 : Int) (x9_6 : Bool) (st : Unit) : Option (Unit) :=
 if x9_6 = true then
  none
 else
  some ()
theorem m_viewportlaw03NfaGoest9_ok (n : Nat) {rnd : Option Nat} (x9_0 : ByteArray) (x9_1 : WL rw_uuuu) (x9_2 : WL rw_L) (x9_3 : NL) (x9_4 : NL) (x9_5 : Int) (x9_6 : Bool) (st : Unit) (r : Unit) (h : m_viewportlaw03NfaGoest9 n x9_0 x9_1 x9_2 x9_3 x9_4 x9_5 x9_6 st = some r) : CG P rnd (fnN P 4) 0 (codeOf P 4 [true, false, false, false, true, false, false, true, false, true, true, true, true]) (S_viewportlaw03NfaGoest9 x9_0 x9_1 x9_2 x9_3 x9_4 x9_5 x9_6 st) (X_viewportlaw03NfaGoest9 x9_0 x9_1 x9_2 x9_3 x9_4 x9_5 x9_6 r) := by
 unfold m_viewportlaw03NfaGoest9 at h
 by_cases hy9_1 : x9_6 = true
 ·rw [if_pos hy9_1] at h
  cases h
 ·rw [if_neg hy9_1] at h
  obtain rfl := oI h
  exact runC2 hm ⟨[1, 2, 5, 6], [(0, 0, false)], 1, 0, [], false, [], [], []⟩ (zz 0 (xbF hy9_1) <|
   ee) (by kernel_rfl)
def S_viewportlaw03NfaGoest5 (x5_0 : ByteArray) (x5_1 : WL rw_uuuu) (x5_2 : WL rw_L) (x5_3 : NL) (st : Unit) : XSt := (sT 63 [(1, (Value.string x5_0)), (2, (pN 0 0)), (5, (sN 1 0 1 1)), (6, (i6 (0 : Int)))], [], ⟨sB [(0, (some (.cells (layT [(wlV x5_1), (wlV x5_2), (nlV x5_3)]) 26))), (1, (some (.cells (layT [(i6 (0 : Int))]) 3)))], 2, 0⟩)
def X_viewportlaw03NfaGoest5 (x5_0 : ByteArray) (x5_1 : WL rw_uuuu) (x5_2 : WL rw_L) (x5_3 : NL) (r : NL) : Ex × XSt := match r with
 | z5_0 => (.normal, (sT 63 [(1, (Value.string x5_0)), (2, (pN 0 0)), (5, (nlV z5_0)), (6, (i6 (1 : Int)))], [], ⟨sB [(0, (some (.cells (layT [(wlV x5_1), (wlV x5_2), (nlV x5_3)]) 26)))], 1, 0⟩))
abbrev U_viewportlaw03NfaGoest5 (rd : Option Nat) (x5_0 : ByteArray) (x5_1 : WL rw_uuuu) (x5_2 : WL rw_L) (x5_3 : NL) (st : Unit) (r : NL) : Prop := CG P rd (fnN P 4) 0 (codeOf P 4 [true, false, false, true, false, true, true, true, true]) (S_viewportlaw03NfaGoest5 x5_0 x5_1 x5_2 x5_3 st) (X_viewportlaw03NfaGoest5 x5_0 x5_1 x5_2 x5_3 r)
def m_viewportlaw03NfaGoest5 (n : Nat) (x5_0 : ByteArray) (x5_1 : WL rw_uuuu) (x5_2 : WL rw_L) (x5_3 : NL) (st : Unit) : Option (NL) :=
 if 0 ≤ (0 : Int) ∧ (0 : Int) ≤ (((x5_0).size : Nat) : Int) then
  (m_nfaRunq1 n x5_1 x5_2 x5_3 (ByteArray.extract x5_0 0 ((0 : Int)).toNat)).bind fun y5_2_ =>
  (m_nfaRuleq1 n x5_1 x5_2 x5_3 [(0 : Int)]).bind fun y5_3_ =>
  if y5_2_ = y5_3_ then
   (m_viewportlaw03NfaGoest6 n x5_0 x5_1 x5_2 x5_3 false ()).bind fun _ =>
   if 0 ≤ (0 : Int) ∧ (0 : Int) < (((x5_0).size : Nat) : Int) then
    (m_nfaStepq1 n x5_1 x5_2 x5_3 [(0 : Int)] (byteAt x5_0 ((0 : Int)).toNat)).bind fun y5_7_ =>
    some y5_7_
   else none
  else
   (m_viewportlaw03NfaGoest6 n x5_0 x5_1 x5_2 x5_3 true ()).bind fun _ =>
   if 0 ≤ (0 : Int) ∧ (0 : Int) < (((x5_0).size : Nat) : Int) then
    (m_nfaStepq1 n x5_1 x5_2 x5_3 [(0 : Int)] (byteAt x5_0 ((0 : Int)).toNat)).bind fun y5_7_ =>
    some y5_7_
   else none
 else none
theorem m_viewportlaw03NfaGoest5_ok (n : Nat) {rnd : Option Nat} (x5_0 : ByteArray) (x5_1 : WL rw_uuuu) (x5_2 : WL rw_L) (x5_3 : NL) (st : Unit) (r : NL) (h : m_viewportlaw03NfaGoest5 n x5_0 x5_1 x5_2 x5_3 st = some r) : CG P rnd (fnN P 4) 0 (codeOf P 4 [true, false, false, true, false, true, true, true, true]) (S_viewportlaw03NfaGoest5 x5_0 x5_1 x5_2 x5_3 st) (X_viewportlaw03NfaGoest5 x5_0 x5_1 x5_2 x5_3 r) := by
 unfold m_viewportlaw03NfaGoest5 at h
 obtain ⟨hy5_1, h⟩ := gd h
 obtain ⟨y5_2_, hy5_2, h⟩ := oB h
 obtain ⟨y5_3_, hy5_3, h⟩ := oB h
 have k0 := fun {A L l} (k : PL A L l) => yy 7 (.pur (Value.string (ByteArray.extract x5_0 0 ((0 : Int)).toNat))) <|
  ww (p := opSlice P 9 (Value.string x5_0) none (some (i6 (0 : Int))) none Ax.h0 = some ((Value.string (ByteArray.extract x5_0 0 ((0 : Int)).toNat)), Ax.h0)) (slStrLo (by kernel_rfl) hy5_1) <|
  yy 8 (.call (C_nfaRunq1 x5_1 x5_2 x5_3 (ByteArray.extract x5_0 0 ((0 : Int)).toNat) y5_2_ [] [])) <|
  ww (m_nfaRunq1_ok n x5_1 x5_2 x5_3 (ByteArray.extract x5_0 0 ((0 : Int)).toNat) y5_2_ hy5_2) <|
  yy 11 (.call (C_nfaRuleq1 x5_1 x5_2 x5_3 [(0 : Int)] y5_3_ [(0, 1, false)] [])) <|
  ww (m_nfaRuleq1_ok n x5_1 x5_2 x5_3 [(0 : Int)] y5_3_ hy5_3) <|
  k
 by_cases hy5_4 : y5_2_ = y5_3_
 ·rw [if_pos hy5_4] at h
  obtain ⟨_, hy5_5, h⟩ := oB h
  obtain ⟨hy5_6, h⟩ := gd h
  obtain ⟨y5_7_, hy5_7, h⟩ := oB h
  obtain rfl := oI h
  exact runC2 hm ⟨[1, 2, 5, 6], [(0, 0, false)], 1, 0, [], false, [], [], []⟩ (k0 <|
   zz 12 (xnF hy5_4) <|
   ww (p := U_viewportlaw03NfaGoest6 rnd x5_0 x5_1 x5_2 x5_3 false () ()) (m_viewportlaw03NfaGoest6_ok n x5_0 x5_1 x5_2 x5_3 false () () hy5_5) <|
   ll 13 ⟨⟨[1, 2, 5, 6, 37], [(0, 0, false), (1, 1, false)], 2, 0, [], false, [], [], []⟩, (X_viewportlaw03NfaGoest6 x5_0 x5_1 x5_2 x5_3 false ()).1, (X_viewportlaw03NfaGoest6 x5_0 x5_1 x5_2 x5_3 false ()).2⟩ <|
   yy 18 (.pur (Value.int .u8 (byteAt x5_0 ((0 : Int)).toNat))) <|
   ww (p := opIndex P 9 (Value.string x5_0) (i6 (0 : Int)) Ax.h0 = some ((Value.int .u8 (byteAt x5_0 ((0 : Int)).toNat)), Ax.h0)) (ixStr (by kernel_rfl) hy5_6) <|
   yy 19 (.call (C_nfaStepq1 x5_1 x5_2 x5_3 [(0 : Int)] (byteAt x5_0 ((0 : Int)).toNat) y5_7_ [(0, 1, false)] [])) <|
   ww (m_nfaStepq1_ok n x5_1 x5_2 x5_3 [(0 : Int)] (byteAt x5_0 ((0 : Int)).toNat) y5_7_ hy5_7) <|
   ee) (by kernel_rfl)
 ·rw [if_neg hy5_4] at h
  obtain ⟨_, hy5_5, h⟩ := oB h
  obtain ⟨hy5_6, h⟩ := gd h
  obtain ⟨y5_7_, hy5_7, h⟩ := oB h
  obtain rfl := oI h
  exact runC2 hm ⟨[1, 2, 5, 6], [(0, 0, false)], 1, 0, [], false, [], [], []⟩ (k0 <|
   zz 12 (xnT hy5_4) <|
   ww (p := U_viewportlaw03NfaGoest6 rnd x5_0 x5_1 x5_2 x5_3 true () ()) (m_viewportlaw03NfaGoest6_ok n x5_0 x5_1 x5_2 x5_3 true () () hy5_5) <|
   ll 13 ⟨⟨[1, 2, 5, 6, 37], [(0, 0, false), (1, 1, false)], 2, 0, [], false, [], [], []⟩, (X_viewportlaw03NfaGoest6 x5_0 x5_1 x5_2 x5_3 true ()).1, (X_viewportlaw03NfaGoest6 x5_0 x5_1 x5_2 x5_3 true ()).2⟩ <|
   yy 18 (.pur (Value.int .u8 (byteAt x5_0 ((0 : Int)).toNat))) <|
   ww (p := opIndex P 9 (Value.string x5_0) (i6 (0 : Int)) Ax.h0 = some ((Value.int .u8 (byteAt x5_0 ((0 : Int)).toNat)), Ax.h0)) (ixStr (by kernel_rfl) hy5_6) <|
   yy 19 (.call (C_nfaStepq1 x5_1 x5_2 x5_3 [(0 : Int)] (byteAt x5_0 ((0 : Int)).toNat) y5_7_ [(0, 1, false)] [])) <|
   ww (m_nfaStepq1_ok n x5_1 x5_2 x5_3 [(0 : Int)] (byteAt x5_0 ((0 : Int)).toNat) y5_7_ hy5_7) <|
   ee) (by kernel_rfl)
def S_viewportlaw03NfaGoest8 (x8_0 : ByteArray) (x8_1 : WL rw_uuuu) (x8_2 : WL rw_L) (x8_3 : NL) (x8_4 : NL) (x8_5 : Int) (st : Unit) : XSt := (sT 63 [(1, (Value.string x8_0)), (2, (pN 0 0)), (5, (nlV x8_4)), (6, (i6 x8_5))], [], ⟨sB [(0, (some (.cells (layT [(wlV x8_1), (wlV x8_2), (nlV x8_3)]) 26)))], 1, 0⟩)
def X_viewportlaw03NfaGoest8 (x8_0 : ByteArray) (x8_1 : WL rw_uuuu) (x8_2 : WL rw_L) (x8_3 : NL) (x8_4 : NL) (x8_5 : Int) (r : NL) : Ex × XSt := match r with
 | z8_0 => (.normal, (sT 63 [(1, (Value.string x8_0)), (2, (pN 0 0)), (5, (nlV z8_0)), (6, (i6 (w64 (x8_5 + (1 : Int)))))], [], ⟨sB [(0, (some (.cells (layT [(wlV x8_1), (wlV x8_2), (nlV x8_3)]) 26)))], 1, 0⟩))
abbrev U_viewportlaw03NfaGoest8 (rd : Option Nat) (x8_0 : ByteArray) (x8_1 : WL rw_uuuu) (x8_2 : WL rw_L) (x8_3 : NL) (x8_4 : NL) (x8_5 : Int) (st : Unit) (r : NL) : Prop := CG P rd (fnN P 4) 0 (codeOf P 4 [true, false, false, true, false, true, true, true, true]) (S_viewportlaw03NfaGoest8 x8_0 x8_1 x8_2 x8_3 x8_4 x8_5 st) (X_viewportlaw03NfaGoest8 x8_0 x8_1 x8_2 x8_3 x8_4 x8_5 r)
def m_viewportlaw03NfaGoest8 (n : Nat) (x8_0 : ByteArray) (x8_1 : WL rw_uuuu) (x8_2 : WL rw_L) (x8_3 : NL) (x8_4 : NL) (x8_5 : Int) (st : Unit) : Option (NL) :=
 if 0 ≤ x8_5 ∧ x8_5 ≤ (((x8_0).size : Nat) : Int) then
  (m_nfaRunq1 n x8_1 x8_2 x8_3 (ByteArray.extract x8_0 0 (x8_5).toNat)).bind fun y8_2_ =>
  (m_nfaRuleq2 n x8_1 x8_2 x8_3 x8_4).bind fun y8_3_ =>
  if y8_2_ = y8_3_ then
   (m_viewportlaw03NfaGoest9 n x8_0 x8_1 x8_2 x8_3 x8_4 x8_5 false ()).bind fun _ =>
   if 0 ≤ x8_5 ∧ x8_5 < (((x8_0).size : Nat) : Int) then
    (m_nfaStepq2 n x8_1 x8_2 x8_3 x8_4 (byteAt x8_0 (x8_5).toNat)).bind fun y8_7_ =>
    some y8_7_
   else none
  else
   (m_viewportlaw03NfaGoest9 n x8_0 x8_1 x8_2 x8_3 x8_4 x8_5 true ()).bind fun _ =>
   if 0 ≤ x8_5 ∧ x8_5 < (((x8_0).size : Nat) : Int) then
    (m_nfaStepq2 n x8_1 x8_2 x8_3 x8_4 (byteAt x8_0 (x8_5).toNat)).bind fun y8_7_ =>
    some y8_7_
   else none
 else none
theorem m_viewportlaw03NfaGoest8_ok (n : Nat) {rnd : Option Nat} (x8_0 : ByteArray) (x8_1 : WL rw_uuuu) (x8_2 : WL rw_L) (x8_3 : NL) (x8_4 : NL) (x8_5 : Int) (st : Unit) (r : NL) (h : m_viewportlaw03NfaGoest8 n x8_0 x8_1 x8_2 x8_3 x8_4 x8_5 st = some r) : CG P rnd (fnN P 4) 0 (codeOf P 4 [true, false, false, true, false, true, true, true, true]) (S_viewportlaw03NfaGoest8 x8_0 x8_1 x8_2 x8_3 x8_4 x8_5 st) (X_viewportlaw03NfaGoest8 x8_0 x8_1 x8_2 x8_3 x8_4 x8_5 r) := by
 unfold m_viewportlaw03NfaGoest8 at h
 obtain ⟨hy8_1, h⟩ := gd h
 obtain ⟨y8_2_, hy8_2, h⟩ := oB h
 obtain ⟨y8_3_, hy8_3, h⟩ := oB h
 have k0 := fun {A L l} (k : PL A L l) => yy 7 (.pur (Value.string (ByteArray.extract x8_0 0 (x8_5).toNat))) <|
  ww (p := opSlice P 9 (Value.string x8_0) none (some (i6 x8_5)) none Ax.h0 = some ((Value.string (ByteArray.extract x8_0 0 (x8_5).toNat)), Ax.h0)) (slStrLo (by kernel_rfl) hy8_1) <|
  yy 8 (.call (C_nfaRunq1 x8_1 x8_2 x8_3 (ByteArray.extract x8_0 0 (x8_5).toNat) y8_2_ [] [])) <|
  ww (m_nfaRunq1_ok n x8_1 x8_2 x8_3 (ByteArray.extract x8_0 0 (x8_5).toNat) y8_2_ hy8_2) <|
  yy 11 (.call (C_nfaRuleq2 x8_1 x8_2 x8_3 x8_4 y8_3_ [] [])) <|
  ww (m_nfaRuleq2_ok n x8_1 x8_2 x8_3 x8_4 y8_3_ hy8_3) <|
  k
 by_cases hy8_4 : y8_2_ = y8_3_
 ·rw [if_pos hy8_4] at h
  obtain ⟨_, hy8_5, h⟩ := oB h
  obtain ⟨hy8_6, h⟩ := gd h
  obtain ⟨y8_7_, hy8_7, h⟩ := oB h
  obtain rfl := oI h
  exact runC2 hm ⟨[1, 2, 5, 6], [(0, 0, false)], 1, 0, [], false, [], [], []⟩ (k0 <|
   zz 12 (xnF hy8_4) <|
   ww (p := U_viewportlaw03NfaGoest9 rnd x8_0 x8_1 x8_2 x8_3 x8_4 x8_5 false () ()) (m_viewportlaw03NfaGoest9_ok n x8_0 x8_1 x8_2 x8_3 x8_4 x8_5 false () () hy8_5) <|
   ll 13 ⟨⟨[1, 2, 5, 6, 37], [(0, 0, false)], 1, 0, [], false, [], [], []⟩, (X_viewportlaw03NfaGoest9 x8_0 x8_1 x8_2 x8_3 x8_4 x8_5 false ()).1, (X_viewportlaw03NfaGoest9 x8_0 x8_1 x8_2 x8_3 x8_4 x8_5 false ()).2⟩ <|
   yy 18 (.pur (Value.int .u8 (byteAt x8_0 (x8_5).toNat))) <|
   ww (p := opIndex P 9 (Value.string x8_0) (i6 x8_5) Ax.h0 = some ((Value.int .u8 (byteAt x8_0 (x8_5).toNat)), Ax.h0)) (ixStr (by kernel_rfl) hy8_6) <|
   yy 19 (.call (C_nfaStepq2 x8_1 x8_2 x8_3 x8_4 (byteAt x8_0 (x8_5).toNat) y8_7_ [] [])) <|
   ww (m_nfaStepq2_ok n x8_1 x8_2 x8_3 x8_4 (byteAt x8_0 (x8_5).toNat) y8_7_ hy8_7) <|
   ee) (by kernel_rfl)
 ·rw [if_neg hy8_4] at h
  obtain ⟨_, hy8_5, h⟩ := oB h
  obtain ⟨hy8_6, h⟩ := gd h
  obtain ⟨y8_7_, hy8_7, h⟩ := oB h
  obtain rfl := oI h
  exact runC2 hm ⟨[1, 2, 5, 6], [(0, 0, false)], 1, 0, [], false, [], [], []⟩ (k0 <|
   zz 12 (xnT hy8_4) <|
   ww (p := U_viewportlaw03NfaGoest9 rnd x8_0 x8_1 x8_2 x8_3 x8_4 x8_5 true () ()) (m_viewportlaw03NfaGoest9_ok n x8_0 x8_1 x8_2 x8_3 x8_4 x8_5 true () () hy8_5) <|
   ll 13 ⟨⟨[1, 2, 5, 6, 37], [(0, 0, false)], 1, 0, [], false, [], [], []⟩, (X_viewportlaw03NfaGoest9 x8_0 x8_1 x8_2 x8_3 x8_4 x8_5 true ()).1, (X_viewportlaw03NfaGoest9 x8_0 x8_1 x8_2 x8_3 x8_4 x8_5 true ()).2⟩ <|
   yy 18 (.pur (Value.int .u8 (byteAt x8_0 (x8_5).toNat))) <|
   ww (p := opIndex P 9 (Value.string x8_0) (i6 x8_5) Ax.h0 = some ((Value.int .u8 (byteAt x8_0 (x8_5).toNat)), Ax.h0)) (ixStr (by kernel_rfl) hy8_6) <|
   yy 19 (.call (C_nfaStepq2 x8_1 x8_2 x8_3 x8_4 (byteAt x8_0 (x8_5).toNat) y8_7_ [] [])) <|
   ww (m_nfaStepq2_ok n x8_1 x8_2 x8_3 x8_4 (byteAt x8_0 (x8_5).toNat) y8_7_ hy8_7) <|
   ee) (by kernel_rfl)
def S_viewportlaw03NfaGoes_7 (x7_0 : ByteArray) (x7_1 : WL rw_uuuu) (x7_2 : WL rw_L) (x7_3 : NL) (st : NL × Int) : XSt := match st with
 | (x7_4, x7_5) => (sT 63 [(1, (Value.string x7_0)), (2, (pN 0 0)), (5, (nlV x7_4)), (6, (i6 x7_5))], [], ⟨sB [(0, (some (.cells (layT [(wlV x7_1), (wlV x7_2), (nlV x7_3)]) 26)))], 1, 0⟩)
def X_viewportlaw03NfaGoes_7 (x7_0 : ByteArray) (x7_1 : WL rw_uuuu) (x7_2 : WL rw_L) (x7_3 : NL) (r : NL) : Ex × XSt := match r with
 | z7_0 => (.exit 0, (sT 63 [(1, (Value.string x7_0)), (2, (pN 0 0)), (5, (nlV z7_0))], [], ⟨sB [(0, (some (.cells (layT [(wlV x7_1), (wlV x7_2), (nlV x7_3)]) 26)))], 1, 0⟩))
abbrev Q_viewportlaw03NfaGoes_7 (rnd : Option Nat) (x7_0 : ByteArray) (x7_1 : WL rw_uuuu) (x7_2 : WL rw_L) (x7_3 : NL) (st : NL × Int) (c : Ex × XSt) : Prop := CG P rnd (fnN P 4) 0 (codeOf P 4 [false, false, true, false, true, true, true, true]) (S_viewportlaw03NfaGoes_7 x7_0 x7_1 x7_2 x7_3 st) c
abbrev U_viewportlaw03NfaGoes_7 (rd : Option Nat) (x7_0 : ByteArray) (x7_1 : WL rw_uuuu) (x7_2 : WL rw_L) (x7_3 : NL) (st : NL × Int) (r : NL) : Prop := CG P rd (fnN P 4) 0 (codeOf P 4 [false, true, false, true, true, true, true]) (S_viewportlaw03NfaGoes_7 x7_0 x7_1 x7_2 x7_3 st) (X_viewportlaw03NfaGoes_7 x7_0 x7_1 x7_2 x7_3 r)
def B_viewportlaw03NfaGoes_7 (n : Nat) (x7_0 : ByteArray) (x7_1 : WL rw_uuuu) (x7_2 : WL rw_L) (x7_3 : NL) (st : NL × Int) : Option ((NL × Int) ⊕ (NL)) := match st with
 | (x7_4, x7_5) =>
  if x7_5 < (((x7_0).size : Nat) : Int) then
   (m_viewportlaw03NfaGoest8 n x7_0 x7_1 x7_2 x7_3 x7_4 x7_5 ()).bind fun y7_2_ =>
   some (.inl (y7_2_, (w64 (x7_5 + (1 : Int)))))
  else
   some (.inr x7_4)
def m_viewportlaw03NfaGoes_7 (n : Nat) (x7_0 : ByteArray) (x7_1 : WL rw_uuuu) (x7_2 : WL rw_L) (x7_3 : NL) (st : NL × Int) : Option (NL) := iterM (B_viewportlaw03NfaGoes_7 n x7_0 x7_1 x7_2 x7_3) n st
theorem b_viewportlaw03NfaGoes_7 (n : Nat) {rnd : Option Nat} (x7_0 : ByteArray) (x7_1 : WL rw_uuuu) (x7_2 : WL rw_L) (x7_3 : NL) (st : NL × Int) (o : (NL × Int) ⊕ (NL)) (h : B_viewportlaw03NfaGoes_7 n x7_0 x7_1 x7_2 x7_3 st = some o) : CG P rnd (fnN P 4) 0 (codeOf P 4 [false, false, true, false, true, true, true, true]) (S_viewportlaw03NfaGoes_7 x7_0 x7_1 x7_2 x7_3 st) (Sum.elim (fun s => (.normal, S_viewportlaw03NfaGoes_7 x7_0 x7_1 x7_2 x7_3 s)) (fun r => X_viewportlaw03NfaGoes_7 x7_0 x7_1 x7_2 x7_3 r) o) := by
 obtain ⟨x7_4, x7_5⟩ := st
 unfold B_viewportlaw03NfaGoes_7 at h
 dsimp only at h
 by_cases hy7_1 : x7_5 < (((x7_0).size : Nat) : Int)
 ·rw [if_pos hy7_1] at h
  obtain ⟨y7_2_, hy7_2, h⟩ := oB h
  obtain rfl := oI h
  exact runC2 hm ⟨[1, 2, 5, 6], [(0, 0, false)], 1, 0, [], false, [], [], []⟩ (zz 5 (xdT hy7_1) <|
   ww (p := U_viewportlaw03NfaGoest8 rnd x7_0 x7_1 x7_2 x7_3 x7_4 x7_5 () y7_2_) (m_viewportlaw03NfaGoest8_ok n x7_0 x7_1 x7_2 x7_3 x7_4 x7_5 () y7_2_ hy7_2) <|
   ll 7 ⟨⟨[1, 2, 5, 6], [(0, 0, false)], 1, 0, [], false, [], [], []⟩, (X_viewportlaw03NfaGoest8 x7_0 x7_1 x7_2 x7_3 x7_4 x7_5 y7_2_).1, (X_viewportlaw03NfaGoest8 x7_0 x7_1 x7_2 x7_3 x7_4 x7_5 y7_2_).2⟩ <|
   ee) (by kernel_rfl)
 ·rw [if_neg hy7_1] at h
  obtain rfl := oI h
  exact runC2 hm ⟨[1, 2, 5], [(0, 0, false)], 1, 0, [], false, [], [], []⟩ (zz 5 (xdF hy7_1) <|
   ee) (by kernel_rfl)
theorem m_viewportlaw03NfaGoes_7_ok (n : Nat) {rnd : Option Nat} (x7_0 : ByteArray) (x7_1 : WL rw_uuuu) (x7_2 : WL rw_L) (x7_3 : NL) (st : NL × Int) (r : NL) (h : m_viewportlaw03NfaGoes_7 n x7_0 x7_1 x7_2 x7_3 st = some r) : LG P rnd (fnN P 4) 0 (codeOf P 4 [false, false, true, false, true, true, true, true]) (S_viewportlaw03NfaGoes_7 x7_0 x7_1 x7_2 x7_3 st) (X_viewportlaw03NfaGoes_7 x7_0 x7_1 x7_2 x7_3 r) :=
 LG.iter (body := B_viewportlaw03NfaGoes_7 n x7_0 x7_1 x7_2 x7_3) (S := S_viewportlaw03NfaGoes_7 x7_0 x7_1 x7_2 x7_3) (X := X_viewportlaw03NfaGoes_7 x7_0 x7_1 x7_2 x7_3)
  (fun s s' h => b_viewportlaw03NfaGoes_7 n x7_0 x7_1 x7_2 x7_3 s (.inl s') h)
  (fun s r h => b_viewportlaw03NfaGoes_7 n x7_0 x7_1 x7_2 x7_3 s (.inr r) h)
  (fun r => by intro hx; cases hx) _ _ _ h
def S_viewportlaw03NfaGoest10 (x10_0 : ByteArray) (x10_1 : WL rw_uuuu) (x10_2 : WL rw_L) (x10_3 : NL) (x10_4 : NL) (st : Unit) : XSt := (sT 63 [(1, (Value.string x10_0)), (2, (pN 0 0)), (5, (nlV x10_4))], [], ⟨sB [(0, (some (.cells (layT [(wlV x10_1), (wlV x10_2), (nlV x10_3)]) 26)))], 1, 0⟩)
def X_viewportlaw03NfaGoest10 (x10_0 : ByteArray) (x10_1 : WL rw_uuuu) (x10_2 : WL rw_L) (x10_3 : NL) (x10_4 : NL) (r : Unit) : Ex × XSt := match r with
 | _ => (.ret, (sT 63 [(4, (bO true))], [], ⟨sB [], 0, 0⟩))
abbrev U_viewportlaw03NfaGoest10 (rd : Option Nat) (x10_0 : ByteArray) (x10_1 : WL rw_uuuu) (x10_2 : WL rw_L) (x10_3 : NL) (x10_4 : NL) (st : Unit) (r : Unit) : Prop := CG P rd (fnN P 4) 0 (codeOf P 4 [true, true, true, true, true]) (S_viewportlaw03NfaGoest10 x10_0 x10_1 x10_2 x10_3 x10_4 st) (X_viewportlaw03NfaGoest10 x10_0 x10_1 x10_2 x10_3 x10_4 r)
def m_viewportlaw03NfaGoest10 (n : Nat) (x10_0 : ByteArray) (x10_1 : WL rw_uuuu) (x10_2 : WL rw_L) (x10_3 : NL) (x10_4 : NL) (st : Unit) : Option (Unit) :=
 (m_nfaRunq1 n x10_1 x10_2 x10_3 x10_0).bind fun y10_1_ =>
 (m_nfaRuleq2 n x10_1 x10_2 x10_3 x10_4).bind fun y10_2_ =>
 if y10_1_ = y10_2_ then
  if (((x10_4).l.length : Nat) : Int) > (0 : Int) then
   some ()
  else
   if (x10_0).size + ((ByteArray.mk #[97])).size < 9223372036854775808 then
    (m_nfaRunq1 n x10_1 x10_2 x10_3 (x10_0 ++ (ByteArray.mk #[97]))).bind fun y10_6_ =>
    if y10_6_ = (-1 : Int) then
     some ()
    else
     none
   else none
 else
  none
theorem m_viewportlaw03NfaGoest10_ok (n : Nat) {rnd : Option Nat} (x10_0 : ByteArray) (x10_1 : WL rw_uuuu) (x10_2 : WL rw_L) (x10_3 : NL) (x10_4 : NL) (st : Unit) (r : Unit) (h : m_viewportlaw03NfaGoest10 n x10_0 x10_1 x10_2 x10_3 x10_4 st = some r) : CG P rnd (fnN P 4) 0 (codeOf P 4 [true, true, true, true, true]) (S_viewportlaw03NfaGoest10 x10_0 x10_1 x10_2 x10_3 x10_4 st) (X_viewportlaw03NfaGoest10 x10_0 x10_1 x10_2 x10_3 x10_4 r) := by
 unfold m_viewportlaw03NfaGoest10 at h
 obtain ⟨y10_1_, hy10_1, h⟩ := oB h
 obtain ⟨y10_2_, hy10_2, h⟩ := oB h
 have k0 := fun {A L l} (k : PL A L l) => yy 3 (.call (C_nfaRunq1 x10_1 x10_2 x10_3 x10_0 y10_1_ [] [])) <|
  ww (m_nfaRunq1_ok n x10_1 x10_2 x10_3 x10_0 y10_1_ hy10_1) <|
  yy 6 (.call (C_nfaRuleq2 x10_1 x10_2 x10_3 x10_4 y10_2_ [] [])) <|
  ww (m_nfaRuleq2_ok n x10_1 x10_2 x10_3 x10_4 y10_2_ hy10_2) <|
  k
 by_cases hy10_3 : y10_1_ = y10_2_
 ·rw [if_pos hy10_3] at h
  have k4 := fun {A L l} (k : PL A L l) => zz 7 (xeT hy10_3) <|
   k
  by_cases hy10_4 : (((x10_4).l.length : Nat) : Int) > (0 : Int)
  ·rw [if_pos hy10_4] at h
   obtain rfl := oI h
   exact runC2 hm ⟨[4], [], 0, 0, [], false, [], [], []⟩ (k0 <|
    k4 <|
    zz 11 (xdT hy10_4) <|
    ee) (by kernel_rfl)
  ·rw [if_neg hy10_4] at h
   obtain ⟨hy10_5, h⟩ := gd h
   obtain ⟨y10_6_, hy10_6, h⟩ := oB h
   have k5 := fun {A L l} (k : PL A L l) => zz 11 (xdF hy10_4) <|
    yy 15 (.pur (Value.string (x10_0 ++ (ByteArray.mk #[97])))) <|
    ww (p := opBin P .add 9 (.tmp 57) (.const (Value.string (ByteArray.mk #[97]))) (Value.string x10_0) (Value.string (ByteArray.mk #[97])) Ax.h0 = some ((Value.string (x10_0 ++ (ByteArray.mk #[97]))), Ax.h0)) (catStr hy10_5) <|
    yy 16 (.call (C_nfaRunq1 x10_1 x10_2 x10_3 (x10_0 ++ (ByteArray.mk #[97])) y10_6_ [] [])) <|
    ww (m_nfaRunq1_ok n x10_1 x10_2 x10_3 (x10_0 ++ (ByteArray.mk #[97])) y10_6_ hy10_6) <|
    k
   by_cases hy10_7 : y10_6_ = (-1 : Int)
   ·rw [if_pos hy10_7] at h
    obtain rfl := oI h
    exact runC2 hm ⟨[4], [], 0, 0, [], false, [], [], []⟩ (k0 <|
     k4 <|
     k5 <|
     zz 17 (xeT hy10_7) <|
     ee) (by kernel_rfl)
   ·rw [if_neg hy10_7] at h
    cases h
 ·rw [if_neg hy10_3] at h
  cases h
def S_viewportlaw03NfaGoest11 (x11_0 : ByteArray) (x11_1 : WL rw_uuuu) (x11_2 : WL rw_L) (x11_3 : NL) (st : Unit) : XSt := (sT 63 [(1, (Value.string x11_0)), (2, (pN 0 0)), (5, (sN 1 0 1 1))], [], ⟨sB [(0, (some (.cells (layT [(wlV x11_1), (wlV x11_2), (nlV x11_3)]) 26))), (1, (some (.cells (layT [(i6 (0 : Int))]) 3)))], 2, 0⟩)
def X_viewportlaw03NfaGoest11 (x11_0 : ByteArray) (x11_1 : WL rw_uuuu) (x11_2 : WL rw_L) (x11_3 : NL) (r : Unit) : Ex × XSt := match r with
 | _ => (.ret, (sT 63 [(4, (bO true))], [], ⟨sB [], 0, 0⟩))
abbrev U_viewportlaw03NfaGoest11 (rd : Option Nat) (x11_0 : ByteArray) (x11_1 : WL rw_uuuu) (x11_2 : WL rw_L) (x11_3 : NL) (st : Unit) (r : Unit) : Prop := CG P rd (fnN P 4) 0 (codeOf P 4 [true, true, true, true, true]) (S_viewportlaw03NfaGoest11 x11_0 x11_1 x11_2 x11_3 st) (X_viewportlaw03NfaGoest11 x11_0 x11_1 x11_2 x11_3 r)
def m_viewportlaw03NfaGoest11 (n : Nat) (x11_0 : ByteArray) (x11_1 : WL rw_uuuu) (x11_2 : WL rw_L) (x11_3 : NL) (st : Unit) : Option (Unit) :=
 (m_nfaRunq1 n x11_1 x11_2 x11_3 x11_0).bind fun y11_1_ =>
 (m_nfaRuleq1 n x11_1 x11_2 x11_3 [(0 : Int)]).bind fun y11_2_ =>
 if y11_1_ = y11_2_ then
  some ()
 else
  none
theorem m_viewportlaw03NfaGoest11_ok (n : Nat) {rnd : Option Nat} (x11_0 : ByteArray) (x11_1 : WL rw_uuuu) (x11_2 : WL rw_L) (x11_3 : NL) (st : Unit) (r : Unit) (h : m_viewportlaw03NfaGoest11 n x11_0 x11_1 x11_2 x11_3 st = some r) : CG P rnd (fnN P 4) 0 (codeOf P 4 [true, true, true, true, true]) (S_viewportlaw03NfaGoest11 x11_0 x11_1 x11_2 x11_3 st) (X_viewportlaw03NfaGoest11 x11_0 x11_1 x11_2 x11_3 r) := by
 unfold m_viewportlaw03NfaGoest11 at h
 obtain ⟨y11_1_, hy11_1, h⟩ := oB h
 obtain ⟨y11_2_, hy11_2, h⟩ := oB h
 have k0 := fun {A L l} (k : PL A L l) => yy 3 (.call (C_nfaRunq1 x11_1 x11_2 x11_3 x11_0 y11_1_ [] [])) <|
  ww (m_nfaRunq1_ok n x11_1 x11_2 x11_3 x11_0 y11_1_ hy11_1) <|
  yy 6 (.call (C_nfaRuleq1 x11_1 x11_2 x11_3 [(0 : Int)] y11_2_ [(0, 1, false)] [])) <|
  ww (m_nfaRuleq1_ok n x11_1 x11_2 x11_3 [(0 : Int)] y11_2_ hy11_2) <|
  k
 by_cases hy11_3 : y11_1_ = y11_2_
 ·rw [if_pos hy11_3] at h
  obtain rfl := oI h
  exact runC2 hm ⟨[4], [], 0, 0, [], false, [], [], []⟩ (k0 <|
   zz 7 (xeT hy11_3) <|
   ee) (by kernel_rfl)
 ·rw [if_neg hy11_3] at h
  cases h
def S_viewportlaw03NfaGoest3 (x3_0 : ByteArray) (x3_1 : WL rw_uuuu) (x3_2 : WL rw_L) (x3_3 : NL) (x3_4 : Bool) (st : Unit) : XSt := (sT 63 [(1, (Value.string x3_0)), (2, (pN 0 0)), (21, (bO x3_4))], [], ⟨sB [(0, (some (.cells (layT [(wlV x3_1), (wlV x3_2), (nlV x3_3)]) 26)))], 1, 0⟩)
def X_viewportlaw03NfaGoest3 (x3_0 : ByteArray) (x3_1 : WL rw_uuuu) (x3_2 : WL rw_L) (x3_3 : NL) (x3_4 : Bool) (r : (Unit) ⊕ (Unit)) : Ex × XSt := match r with
 | .inl _ => (.ret, (sT 63 [(4, (bO true))], [], ⟨sB [], 0, 0⟩))
 | .inr _ => (.normal, (sT 63 [(1, (Value.string x3_0)), (2, (pN 0 0))], [], ⟨sB [(0, (some (.cells (layT [(wlV x3_1), (wlV x3_2), (nlV x3_3)]) 26)))], 1, 0⟩))
abbrev U_viewportlaw03NfaGoest3 (rd : Option Nat) (x3_0 : ByteArray) (x3_1 : WL rw_uuuu) (x3_2 : WL rw_L) (x3_3 : NL) (x3_4 : Bool) (st : Unit) (r : (Unit) ⊕ (Unit)) : Prop := CG P rd (fnN P 4) 0 (codeOf P 4 [true, false, true, true]) (S_viewportlaw03NfaGoest3 x3_0 x3_1 x3_2 x3_3 x3_4 st) (X_viewportlaw03NfaGoest3 x3_0 x3_1 x3_2 x3_3 x3_4 r)
def m_viewportlaw03NfaGoest3 (n : Nat) (x3_0 : ByteArray) (x3_1 : WL rw_uuuu) (x3_2 : WL rw_L) (x3_3 : NL) (x3_4 : Bool) (st : Unit) : Option ((Unit) ⊕ (Unit)) :=
 if x3_4 = true then
  some (.inl ())
 else
  some (.inr ())
theorem m_viewportlaw03NfaGoest3_ok (n : Nat) {rnd : Option Nat} (x3_0 : ByteArray) (x3_1 : WL rw_uuuu) (x3_2 : WL rw_L) (x3_3 : NL) (x3_4 : Bool) (st : Unit) (r : (Unit) ⊕ (Unit)) (h : m_viewportlaw03NfaGoest3 n x3_0 x3_1 x3_2 x3_3 x3_4 st = some r) : CG P rnd (fnN P 4) 0 (codeOf P 4 [true, false, true, true]) (S_viewportlaw03NfaGoest3 x3_0 x3_1 x3_2 x3_3 x3_4 st) (X_viewportlaw03NfaGoest3 x3_0 x3_1 x3_2 x3_3 x3_4 r) := by
 unfold m_viewportlaw03NfaGoest3 at h
 by_cases hy3_1 : x3_4 = true
 ·rw [if_pos hy3_1] at h
  obtain rfl := oI h
  exact runC2 hm ⟨[4], [], 0, 0, [], false, [], [], []⟩ (zz 0 (xbT hy3_1) <|
   ee) (by kernel_rfl)
 ·rw [if_neg hy3_1] at h
  obtain rfl := oI h
  exact runC2 hm ⟨[1, 2], [(0, 0, false)], 1, 0, [], false, [], [], []⟩ (zz 0 (xbF hy3_1) <|
   ee) (by kernel_rfl)
def S_viewportlaw03NfaGoest1 (x1_0 : ByteArray) (x1_1 : WL rw_uuuu) (x1_2 : WL rw_L) (x1_3 : NL) (st : Unit) : XSt := (sT 63 [(1, (Value.string x1_0)), (2, (pN 0 0)), (8, (bO false))], [], ⟨sB [(0, (some (.cells (layT [(wlV x1_1), (wlV x1_2), (nlV x1_3)]) 26)))], 1, 0⟩)
def X_viewportlaw03NfaGoest1 (x1_0 : ByteArray) (x1_1 : WL rw_uuuu) (x1_2 : WL rw_L) (x1_3 : NL) (r : Unit) : Ex × XSt := match r with
 | _ => (.normal, (sT 63 [(1, (Value.string x1_0)), (2, (pN 0 0))], [], ⟨sB [(0, (some (.cells (layT [(wlV x1_1), (wlV x1_2), (nlV x1_3)]) 26)))], 1, 0⟩))
abbrev U_viewportlaw03NfaGoest1 (rd : Option Nat) (x1_0 : ByteArray) (x1_1 : WL rw_uuuu) (x1_2 : WL rw_L) (x1_3 : NL) (st : Unit) (r : Unit) : Prop := CG P rd (fnN P 4) 0 (codeOf P 4 [true, false, true]) (S_viewportlaw03NfaGoest1 x1_0 x1_1 x1_2 x1_3 st) (X_viewportlaw03NfaGoest1 x1_0 x1_1 x1_2 x1_3 r)
def m_viewportlaw03NfaGoest1 (n : Nat) (x1_0 : ByteArray) (x1_1 : WL rw_uuuu) (x1_2 : WL rw_L) (x1_3 : NL) (st : Unit) : Option (Unit) :=
 some ()
theorem m_viewportlaw03NfaGoest1_ok (n : Nat) {rnd : Option Nat} (x1_0 : ByteArray) (x1_1 : WL rw_uuuu) (x1_2 : WL rw_L) (x1_3 : NL) (st : Unit) (r : Unit) (h : m_viewportlaw03NfaGoest1 n x1_0 x1_1 x1_2 x1_3 st = some r) : CG P rnd (fnN P 4) 0 (codeOf P 4 [true, false, true]) (S_viewportlaw03NfaGoest1 x1_0 x1_1 x1_2 x1_3 st) (X_viewportlaw03NfaGoest1 x1_0 x1_1 x1_2 x1_3 r) := by
 unfold m_viewportlaw03NfaGoest1 at h
 obtain rfl := oI h
 exact runC2 hm ⟨[1, 2], [(0, 0, false)], 1, 0, [], false, [], [], []⟩ (ee) (by kernel_rfl)
def S_viewportlaw03NfaGoest4 (x4_0 : ByteArray) (x4_1 : WL rw_uuuu) (x4_2 : WL rw_L) (x4_3 : NL) (st : Unit) : XSt := (sT 63 [(1, (Value.string x4_0)), (2, (pN 0 0))], [], ⟨sB [(0, (some (.cells (layT [(wlV x4_1), (wlV x4_2), (nlV x4_3)]) 26)))], 1, 0⟩)
def X_viewportlaw03NfaGoest4 (x4_0 : ByteArray) (x4_1 : WL rw_uuuu) (x4_2 : WL rw_L) (x4_3 : NL) (r : Unit) : Ex × XSt := match r with
 | _ => (.ret, (sT 63 [(4, (bO true))], [], ⟨sB [], 0, 0⟩))
abbrev U_viewportlaw03NfaGoest4 (rd : Option Nat) (x4_0 : ByteArray) (x4_1 : WL rw_uuuu) (x4_2 : WL rw_L) (x4_3 : NL) (st : Unit) (r : Unit) : Prop := CG P rd (fnN P 4) 0 (codeOf P 4 [true, true, true]) (S_viewportlaw03NfaGoest4 x4_0 x4_1 x4_2 x4_3 st) (X_viewportlaw03NfaGoest4 x4_0 x4_1 x4_2 x4_3 r)
def m_viewportlaw03NfaGoest4 (n : Nat) (x4_0 : ByteArray) (x4_1 : WL rw_uuuu) (x4_2 : WL rw_L) (x4_3 : NL) (st : Unit) : Option (Unit) :=
 if (0 : Int) < (((x4_0).size : Nat) : Int) then
  (m_viewportlaw03NfaGoest5 n x4_0 x4_1 x4_2 x4_3 ()).bind fun y4_2_ =>
  (m_viewportlaw03NfaGoes_7 n x4_0 x4_1 x4_2 x4_3 (y4_2_, 1)).bind fun y4_3_ =>
  (m_viewportlaw03NfaGoest10 n x4_0 x4_1 x4_2 x4_3 y4_3_ ()).bind fun _ =>
  some ()
 else
  (m_viewportlaw03NfaGoest11 n x4_0 x4_1 x4_2 x4_3 ()).bind fun _ =>
  some ()
theorem m_viewportlaw03NfaGoest4_ok (n : Nat) {rnd : Option Nat} (x4_0 : ByteArray) (x4_1 : WL rw_uuuu) (x4_2 : WL rw_L) (x4_3 : NL) (st : Unit) (r : Unit) (h : m_viewportlaw03NfaGoest4 n x4_0 x4_1 x4_2 x4_3 st = some r) : CG P rnd (fnN P 4) 0 (codeOf P 4 [true, true, true]) (S_viewportlaw03NfaGoest4 x4_0 x4_1 x4_2 x4_3 st) (X_viewportlaw03NfaGoest4 x4_0 x4_1 x4_2 x4_3 r) := by
 unfold m_viewportlaw03NfaGoest4 at h
 by_cases hy4_1 : (0 : Int) < (((x4_0).size : Nat) : Int)
 ·rw [if_pos hy4_1] at h
  obtain ⟨y4_2_, hy4_2, h⟩ := oB h
  obtain ⟨y4_3_, hy4_3, h⟩ := oB h
  obtain ⟨_, hy4_4, h⟩ := oB h
  obtain rfl := oI h
  exact runC2 hm ⟨[4], [], 0, 0, [], false, [], [], []⟩ (zz 13 (xdT hy4_1) <|
   ww (p := U_viewportlaw03NfaGoest5 rnd x4_0 x4_1 x4_2 x4_3 () y4_2_) (m_viewportlaw03NfaGoest5_ok n x4_0 x4_1 x4_2 x4_3 () y4_2_ hy4_2) <|
   ll 15 ⟨⟨[1, 2, 5, 6], [(0, 0, false), (1, 1, false)], 2, 0, [], false, [], [], []⟩, (X_viewportlaw03NfaGoest5 x4_0 x4_1 x4_2 x4_3 y4_2_).1, (X_viewportlaw03NfaGoest5 x4_0 x4_1 x4_2 x4_3 y4_2_).2⟩ <|
   ww (p := LG P rnd (fnN P 4) 0 (codeOf P 4 [false, false, true, false, true, true, true, true]) (S_viewportlaw03NfaGoes_7 x4_0 x4_1 x4_2 x4_3 (y4_2_, 1)) (X_viewportlaw03NfaGoes_7 x4_0 x4_1 x4_2 x4_3 y4_3_)) (m_viewportlaw03NfaGoes_7_ok n x4_0 x4_1 x4_2 x4_3 (y4_2_, 1) y4_3_ hy4_3) <|
   ll 16 ⟨⟨[1, 2, 5, 6], [(0, 0, false)], 1, 0, [], false, [], [], []⟩, (X_viewportlaw03NfaGoes_7 x4_0 x4_1 x4_2 x4_3 y4_3_).1, (X_viewportlaw03NfaGoes_7 x4_0 x4_1 x4_2 x4_3 y4_3_).2⟩ <|
   ww (p := U_viewportlaw03NfaGoest10 rnd x4_0 x4_1 x4_2 x4_3 y4_3_ () ()) (m_viewportlaw03NfaGoest10_ok n x4_0 x4_1 x4_2 x4_3 y4_3_ () () hy4_4) <|
   ll 17 ⟨⟨[1, 2, 5], [(0, 0, false)], 1, 0, [], false, [], [], []⟩, (X_viewportlaw03NfaGoest10 x4_0 x4_1 x4_2 x4_3 y4_3_ ()).1, (X_viewportlaw03NfaGoest10 x4_0 x4_1 x4_2 x4_3 y4_3_ ()).2⟩ <|
   ee) (by kernel_rfl)
 ·rw [if_neg hy4_1] at h
  obtain ⟨_, hy4_2, h⟩ := oB h
  obtain rfl := oI h
  exact runC2 hm ⟨[4], [], 0, 0, [], false, [], [], []⟩ (zz 13 (xdF hy4_1) <|
   ww (p := U_viewportlaw03NfaGoest11 rnd x4_0 x4_1 x4_2 x4_3 () ()) (m_viewportlaw03NfaGoest11_ok n x4_0 x4_1 x4_2 x4_3 () () hy4_2) <|
   ll 15 ⟨⟨[1, 2, 5], [(0, 0, false), (1, 1, false)], 2, 0, [], false, [], [], []⟩, (X_viewportlaw03NfaGoest11 x4_0 x4_1 x4_2 x4_3 ()).1, (X_viewportlaw03NfaGoest11 x4_0 x4_1 x4_2 x4_3 ()).2⟩ <|
   ee) (by kernel_rfl)
def S_viewportlaw03NfaGoest2 (x2_0 : ByteArray) (x2_1 : WL rw_uuuu) (x2_2 : WL rw_L) (x2_3 : NL) (st : Unit) : XSt := (sT 63 [(1, (Value.string x2_0)), (2, (pN 0 0))], [], ⟨sB [(0, (some (.cells (layT [(wlV x2_1), (wlV x2_2), (nlV x2_3)]) 26)))], 1, 0⟩)
def X_viewportlaw03NfaGoest2 (x2_0 : ByteArray) (x2_1 : WL rw_uuuu) (x2_2 : WL rw_L) (x2_3 : NL) (r : Unit) : Ex × XSt := match r with
 | _ => (.ret, (sT 63 [(4, (bO true))], [], ⟨sB [], 0, 0⟩))
abbrev U_viewportlaw03NfaGoest2 (rd : Option Nat) (x2_0 : ByteArray) (x2_1 : WL rw_uuuu) (x2_2 : WL rw_L) (x2_3 : NL) (st : Unit) (r : Unit) : Prop := CG P rd (fnN P 4) 0 (codeOf P 4 [true, true]) (S_viewportlaw03NfaGoest2 x2_0 x2_1 x2_2 x2_3 st) (X_viewportlaw03NfaGoest2 x2_0 x2_1 x2_2 x2_3 r)
def m_viewportlaw03NfaGoest2 (n : Nat) (x2_0 : ByteArray) (x2_1 : WL rw_uuuu) (x2_2 : WL rw_L) (x2_3 : NL) (st : Unit) : Option (Unit) :=
 (m_viewportkitLightNfaq1 n x2_1 x2_2 x2_3 40).bind fun y2_1_ =>
 if y2_1_ = true then
  if (((x2_0).size : Nat) : Int) > (40 : Int) then
   match m_viewportlaw03NfaGoest3 n x2_0 x2_1 x2_2 x2_3 true () with
   | none => none
   | some (.inl _) =>
    some ()
   | some (.inr _) =>
    (m_viewportlaw03NfaGoest4 n x2_0 x2_1 x2_2 x2_3 ()).bind fun _ =>
    some ()
  else
   (m_nfaCheckq1 n x2_1 x2_2 x2_3).bind fun y2_4_ =>
   if y2_4_ = (0 : Int) then
    match m_viewportlaw03NfaGoest3 n x2_0 x2_1 x2_2 x2_3 false () with
    | none => none
    | some (.inl _) =>
     some ()
    | some (.inr _) =>
     (m_viewportlaw03NfaGoest4 n x2_0 x2_1 x2_2 x2_3 ()).bind fun _ =>
     some ()
   else
    match m_viewportlaw03NfaGoest3 n x2_0 x2_1 x2_2 x2_3 true () with
    | none => none
    | some (.inl _) =>
     some ()
    | some (.inr _) =>
     (m_viewportlaw03NfaGoest4 n x2_0 x2_1 x2_2 x2_3 ()).bind fun _ =>
     some ()
 else
  match m_viewportlaw03NfaGoest3 n x2_0 x2_1 x2_2 x2_3 true () with
  | none => none
  | some (.inl _) =>
   some ()
  | some (.inr _) =>
   (m_viewportlaw03NfaGoest4 n x2_0 x2_1 x2_2 x2_3 ()).bind fun _ =>
   some ()
theorem m_viewportlaw03NfaGoest2_ok (n : Nat) {rnd : Option Nat} (x2_0 : ByteArray) (x2_1 : WL rw_uuuu) (x2_2 : WL rw_L) (x2_3 : NL) (st : Unit) (r : Unit) (h : m_viewportlaw03NfaGoest2 n x2_0 x2_1 x2_2 x2_3 st = some r) : CG P rnd (fnN P 4) 0 (codeOf P 4 [true, true]) (S_viewportlaw03NfaGoest2 x2_0 x2_1 x2_2 x2_3 st) (X_viewportlaw03NfaGoest2 x2_0 x2_1 x2_2 x2_3 r) := by
 unfold m_viewportlaw03NfaGoest2 at h
 obtain ⟨y2_1_, hy2_1, h⟩ := oB h
 have k0 := fun {A L l} (k : PL A L l) => yy 3 (.call (C_viewportkitLightNfaq1 x2_1 x2_2 x2_3 40 y2_1_ [] [])) <|
  ww (m_viewportkitLightNfaq1_ok n x2_1 x2_2 x2_3 40 y2_1_ hy2_1) <|
  k
 by_cases hy2_2 : y2_1_ = true
 ·rw [if_pos hy2_2] at h
  have k2 := fun {A L l} (k : PL A L l) => yy 4 (vf) <|
   ww (p := (Value.bool (!y2_1_)) = (Value.bool false)) (vBn hy2_2) <|
   k
  by_cases hy2_3 : (((x2_0).size : Nat) : Int) > (40 : Int)
  ·rw [if_pos hy2_3] at h
   have k4 := fun {A L l} (k : PL A L l) => zz 8 (xdT hy2_3) <|
    k
   rcases hy2_4 : m_viewportlaw03NfaGoest3 n x2_0 x2_1 x2_2 x2_3 true () with _ | (⟨⟩ | ⟨⟩)
   ·rw [hy2_4] at h; cases h
   ·rw [hy2_4] at h
    dsimp only at h
    obtain rfl := oI h
    exact runC2 hm ⟨[4], [], 0, 0, [], false, [], [], []⟩ (k0 <|
     k2 <|
     k4 <|
     ww (p := U_viewportlaw03NfaGoest3 rnd x2_0 x2_1 x2_2 x2_3 true () (.inl ())) (m_viewportlaw03NfaGoest3_ok n x2_0 x2_1 x2_2 x2_3 true () (.inl ()) hy2_4) <|
     ll 15 ⟨⟨[1, 2, 21], [(0, 0, false)], 1, 0, [], false, [], [], []⟩, (X_viewportlaw03NfaGoest3 x2_0 x2_1 x2_2 x2_3 true (.inl ())).1, (X_viewportlaw03NfaGoest3 x2_0 x2_1 x2_2 x2_3 true (.inl ())).2⟩ <|
     ee) (by kernel_rfl)
   ·rw [hy2_4] at h
    dsimp only at h
    obtain ⟨_, hy2_5, h⟩ := oB h
    obtain rfl := oI h
    exact runC2 hm ⟨[4], [], 0, 0, [], false, [], [], []⟩ (k0 <|
     k2 <|
     k4 <|
     ww (p := U_viewportlaw03NfaGoest3 rnd x2_0 x2_1 x2_2 x2_3 true () (.inr ())) (m_viewportlaw03NfaGoest3_ok n x2_0 x2_1 x2_2 x2_3 true () (.inr ()) hy2_4) <|
     ll 15 ⟨⟨[1, 2, 21], [(0, 0, false)], 1, 0, [], false, [], [], []⟩, (X_viewportlaw03NfaGoest3 x2_0 x2_1 x2_2 x2_3 true (.inr ())).1, (X_viewportlaw03NfaGoest3 x2_0 x2_1 x2_2 x2_3 true (.inr ())).2⟩ <|
     ww (p := U_viewportlaw03NfaGoest4 rnd x2_0 x2_1 x2_2 x2_3 () ()) (m_viewportlaw03NfaGoest4_ok n x2_0 x2_1 x2_2 x2_3 () () hy2_5) <|
     ll 16 ⟨⟨[1, 2], [(0, 0, false)], 1, 0, [], false, [], [], []⟩, (X_viewportlaw03NfaGoest4 x2_0 x2_1 x2_2 x2_3 ()).1, (X_viewportlaw03NfaGoest4 x2_0 x2_1 x2_2 x2_3 ()).2⟩ <|
     ee) (by kernel_rfl)
  ·rw [if_neg hy2_3] at h
   obtain ⟨y2_4_, hy2_4, h⟩ := oB h
   have k4 := fun {A L l} (k : PL A L l) => zz 8 (xdF hy2_3) <|
    yy 12 (.call (C_nfaCheckq1 x2_1 x2_2 x2_3 y2_4_ [] [])) <|
    ww (m_nfaCheckq1_ok n x2_1 x2_2 x2_3 y2_4_ hy2_4) <|
    k
   by_cases hy2_5 : y2_4_ = (0 : Int)
   ·rw [if_pos hy2_5] at h
    have k7 := fun {A L l} (k : PL A L l) => zz 13 (xnF hy2_5) <|
     k
    rcases hy2_6 : m_viewportlaw03NfaGoest3 n x2_0 x2_1 x2_2 x2_3 false () with _ | (⟨⟩ | ⟨⟩)
    ·rw [hy2_6] at h; cases h
    ·rw [hy2_6] at h
     dsimp only at h
     obtain rfl := oI h
     exact runC2 hm ⟨[4], [], 0, 0, [], false, [], [], []⟩ (k0 <|
      k2 <|
      k4 <|
      k7 <|
      ww (p := U_viewportlaw03NfaGoest3 rnd x2_0 x2_1 x2_2 x2_3 false () (.inl ())) (m_viewportlaw03NfaGoest3_ok n x2_0 x2_1 x2_2 x2_3 false () (.inl ()) hy2_6) <|
      ll 15 ⟨⟨[1, 2, 21], [(0, 0, false)], 1, 0, [], false, [], [], []⟩, (X_viewportlaw03NfaGoest3 x2_0 x2_1 x2_2 x2_3 false (.inl ())).1, (X_viewportlaw03NfaGoest3 x2_0 x2_1 x2_2 x2_3 false (.inl ())).2⟩ <|
      ee) (by kernel_rfl)
    ·rw [hy2_6] at h
     dsimp only at h
     obtain ⟨_, hy2_7, h⟩ := oB h
     obtain rfl := oI h
     exact runC2 hm ⟨[4], [], 0, 0, [], false, [], [], []⟩ (k0 <|
      k2 <|
      k4 <|
      k7 <|
      ww (p := U_viewportlaw03NfaGoest3 rnd x2_0 x2_1 x2_2 x2_3 false () (.inr ())) (m_viewportlaw03NfaGoest3_ok n x2_0 x2_1 x2_2 x2_3 false () (.inr ()) hy2_6) <|
      ll 15 ⟨⟨[1, 2, 21], [(0, 0, false)], 1, 0, [], false, [], [], []⟩, (X_viewportlaw03NfaGoest3 x2_0 x2_1 x2_2 x2_3 false (.inr ())).1, (X_viewportlaw03NfaGoest3 x2_0 x2_1 x2_2 x2_3 false (.inr ())).2⟩ <|
      ww (p := U_viewportlaw03NfaGoest4 rnd x2_0 x2_1 x2_2 x2_3 () ()) (m_viewportlaw03NfaGoest4_ok n x2_0 x2_1 x2_2 x2_3 () () hy2_7) <|
      ll 16 ⟨⟨[1, 2], [(0, 0, false)], 1, 0, [], false, [], [], []⟩, (X_viewportlaw03NfaGoest4 x2_0 x2_1 x2_2 x2_3 ()).1, (X_viewportlaw03NfaGoest4 x2_0 x2_1 x2_2 x2_3 ()).2⟩ <|
      ee) (by kernel_rfl)
   ·rw [if_neg hy2_5] at h
    have k7 := fun {A L l} (k : PL A L l) => zz 13 (xnT hy2_5) <|
     k
    rcases hy2_6 : m_viewportlaw03NfaGoest3 n x2_0 x2_1 x2_2 x2_3 true () with _ | (⟨⟩ | ⟨⟩)
    ·rw [hy2_6] at h; cases h
    ·rw [hy2_6] at h
     dsimp only at h
     obtain rfl := oI h
     exact runC2 hm ⟨[4], [], 0, 0, [], false, [], [], []⟩ (k0 <|
      k2 <|
      k4 <|
      k7 <|
      ww (p := U_viewportlaw03NfaGoest3 rnd x2_0 x2_1 x2_2 x2_3 true () (.inl ())) (m_viewportlaw03NfaGoest3_ok n x2_0 x2_1 x2_2 x2_3 true () (.inl ()) hy2_6) <|
      ll 15 ⟨⟨[1, 2, 21], [(0, 0, false)], 1, 0, [], false, [], [], []⟩, (X_viewportlaw03NfaGoest3 x2_0 x2_1 x2_2 x2_3 true (.inl ())).1, (X_viewportlaw03NfaGoest3 x2_0 x2_1 x2_2 x2_3 true (.inl ())).2⟩ <|
      ee) (by kernel_rfl)
    ·rw [hy2_6] at h
     dsimp only at h
     obtain ⟨_, hy2_7, h⟩ := oB h
     obtain rfl := oI h
     exact runC2 hm ⟨[4], [], 0, 0, [], false, [], [], []⟩ (k0 <|
      k2 <|
      k4 <|
      k7 <|
      ww (p := U_viewportlaw03NfaGoest3 rnd x2_0 x2_1 x2_2 x2_3 true () (.inr ())) (m_viewportlaw03NfaGoest3_ok n x2_0 x2_1 x2_2 x2_3 true () (.inr ()) hy2_6) <|
      ll 15 ⟨⟨[1, 2, 21], [(0, 0, false)], 1, 0, [], false, [], [], []⟩, (X_viewportlaw03NfaGoest3 x2_0 x2_1 x2_2 x2_3 true (.inr ())).1, (X_viewportlaw03NfaGoest3 x2_0 x2_1 x2_2 x2_3 true (.inr ())).2⟩ <|
      ww (p := U_viewportlaw03NfaGoest4 rnd x2_0 x2_1 x2_2 x2_3 () ()) (m_viewportlaw03NfaGoest4_ok n x2_0 x2_1 x2_2 x2_3 () () hy2_7) <|
      ll 16 ⟨⟨[1, 2], [(0, 0, false)], 1, 0, [], false, [], [], []⟩, (X_viewportlaw03NfaGoest4 x2_0 x2_1 x2_2 x2_3 ()).1, (X_viewportlaw03NfaGoest4 x2_0 x2_1 x2_2 x2_3 ()).2⟩ <|
      ee) (by kernel_rfl)
 ·rw [if_neg hy2_2] at h
  have k2 := fun {A L l} (k : PL A L l) => yy 4 (vt) <|
   ww (p := (Value.bool (!y2_1_)) = (Value.bool true)) (vBn (Bool.eq_false_iff.2 hy2_2)) <|
   k
  rcases hy2_3 : m_viewportlaw03NfaGoest3 n x2_0 x2_1 x2_2 x2_3 true () with _ | (⟨⟩ | ⟨⟩)
  ·rw [hy2_3] at h; cases h
  ·rw [hy2_3] at h
   dsimp only at h
   obtain rfl := oI h
   exact runC2 hm ⟨[4], [], 0, 0, [], false, [], [], []⟩ (k0 <|
    k2 <|
    ww (p := U_viewportlaw03NfaGoest3 rnd x2_0 x2_1 x2_2 x2_3 true () (.inl ())) (m_viewportlaw03NfaGoest3_ok n x2_0 x2_1 x2_2 x2_3 true () (.inl ()) hy2_3) <|
    ll 15 ⟨⟨[1, 2, 21], [(0, 0, false)], 1, 0, [], false, [], [], []⟩, (X_viewportlaw03NfaGoest3 x2_0 x2_1 x2_2 x2_3 true (.inl ())).1, (X_viewportlaw03NfaGoest3 x2_0 x2_1 x2_2 x2_3 true (.inl ())).2⟩ <|
    ee) (by kernel_rfl)
  ·rw [hy2_3] at h
   dsimp only at h
   obtain ⟨_, hy2_4, h⟩ := oB h
   obtain rfl := oI h
   exact runC2 hm ⟨[4], [], 0, 0, [], false, [], [], []⟩ (k0 <|
    k2 <|
    ww (p := U_viewportlaw03NfaGoest3 rnd x2_0 x2_1 x2_2 x2_3 true () (.inr ())) (m_viewportlaw03NfaGoest3_ok n x2_0 x2_1 x2_2 x2_3 true () (.inr ()) hy2_3) <|
    ll 15 ⟨⟨[1, 2, 21], [(0, 0, false)], 1, 0, [], false, [], [], []⟩, (X_viewportlaw03NfaGoest3 x2_0 x2_1 x2_2 x2_3 true (.inr ())).1, (X_viewportlaw03NfaGoest3 x2_0 x2_1 x2_2 x2_3 true (.inr ())).2⟩ <|
    ww (p := U_viewportlaw03NfaGoest4 rnd x2_0 x2_1 x2_2 x2_3 () ()) (m_viewportlaw03NfaGoest4_ok n x2_0 x2_1 x2_2 x2_3 () () hy2_4) <|
    ll 16 ⟨⟨[1, 2], [(0, 0, false)], 1, 0, [], false, [], [], []⟩, (X_viewportlaw03NfaGoest4 x2_0 x2_1 x2_2 x2_3 ()).1, (X_viewportlaw03NfaGoest4 x2_0 x2_1 x2_2 x2_3 ()).2⟩ <|
    ee) (by kernel_rfl)
def m_viewportlaw03NfaGoes (n : Nat) (g02 : NL) (g1 : ByteArray) : Option (Unit) :=
 (m_viewportlaw03lives n).bind fun _ =>
 (m_viewportlaw03NfaGoest1 n g1 wA wB g02 ()).bind fun _ =>
 (m_viewportlaw03NfaGoest2 n g1 wA wB g02 ()).bind fun _ =>
 some ()
theorem m_viewportlaw03NfaGoes_ok (n : Nat) (g02 : NL) (g1 : ByteArray) (r : Unit) (h : m_viewportlaw03NfaGoes n g02 g1 = some r) : Gv P (.func 4) (A_viewportlaw03NfaGoes g02 g1) (H_viewportlaw03NfaGoes g02 g1) (V_viewportlaw03NfaGoes g02 g1 r) (R_viewportlaw03NfaGoes g02 g1 r) := by
 unfold m_viewportlaw03NfaGoes at h
 obtain ⟨_, hc1, h⟩ := oB h
 obtain ⟨_, hc2, h⟩ := oB h
 obtain ⟨_, hc3, h⟩ := oB h
 obtain rfl := oI h
 exact runF2 hm ⟨[4], [], 0, 0, [], false, [], [], []⟩ (yy 5 (.call ⟨0, [], (Value.bool true), Ax.h0, []⟩) <|
  ww (m_viewportlaw03lives_ok n  () hc1) <|
  ww (p := U_viewportlaw03NfaGoest1 none g1 wA wB g02 () ()) (m_viewportlaw03NfaGoest1_ok n g1 wA wB g02 () () hc2) <|
  ll 7 ⟨⟨[1, 2, 8], [(0, 0, false)], 1, 0, [], false, [], [], []⟩, (X_viewportlaw03NfaGoest1 g1 wA wB g02 ()).1, (X_viewportlaw03NfaGoest1 g1 wA wB g02 ()).2⟩ <|
  ww (p := U_viewportlaw03NfaGoest2 none g1 wA wB g02 () ()) (m_viewportlaw03NfaGoest2_ok n g1 wA wB g02 () () hc3) <|
  ll 8 ⟨⟨[1, 2], [(0, 0, false)], 1, 0, [], false, [], [], []⟩, (X_viewportlaw03NfaGoest2 g1 wA wB g02 ()).1, (X_viewportlaw03NfaGoest2 g1 wA wB g02 ()).2⟩ <|
  ee) (by kernel_rfl)

end Go.Proofs.Ytkdeabcaijfdfaa.nfg03
