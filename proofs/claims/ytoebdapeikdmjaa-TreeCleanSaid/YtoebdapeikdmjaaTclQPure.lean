/-
  The pure side. No condition.
-/
import Derived.Test.YtoebdapeikdmjaaTclPure
import Derived.IntWalk
set_option linter.unusedSimpArgs false
set_option linter.unusedVariables false
set_option linter.unusedSectionVars false
set_option linter.unnecessarySimpa false
namespace Go.Proofs.Ytoebdapeikdmjaa.tcl16
open Go Go.Proofs.Ytoebdapeikdmjaa Ax
variable [Args]


/-! copies -/
theorem ext_getD {L M : List Int} (hl : L.length = M.length) (h : ∀ j, j < M.length → L.getD j 0 = M.getD j 0) : L = M := by
 apply List.ext_getElem hl
 intro j h1 h2
 have := h j h2
 simpa [List.getD_eq_getElem?_getD, h1, h2] using this
theorem eachI {n : Nat} {x : NL} (hx : x.l.length ≤ 1000000) (hn : x.l.length < n) : m_eIq1 n x = some (if x.l = [] then .inl () else .inr (x.l, x.l.length)) := by
 unfold m_eIq1
 by_cases h0 : x.l = []
 ·rw [if_pos h0, if_pos (by rw [h0]; rfl)]
 ·have hp : 0 < x.l.length := List.length_pos_iff.2 h0
  rw [if_neg h0, if_neg (by omega), if_pos (by omega), if_pos (by omega), Int.toNat_natCast]
  obtain ⟨r, q1, q2⟩ := hoare (B := B_eIq1_1 n x.l.length x (x.l.length : Int)) (σ := List Int) (fun L i => (L, i)) (fun i L => L.length = x.l.length ∧ ∀ j, j < i → L.getD j 0 = x.l.getD j 0) (fun r => r = x.l) x.l.length
   (fun i L hi hI => by
    obtain ⟨hL, hI⟩ := hI
    refine .inl ⟨L.set i (x.l.getD i 0), ⟨by rw [List.length_set, hL], fun j hj => ?_⟩, ?_⟩
    ·rw [getD_set (by omega)]
     by_cases e : j = i
     ·rw [if_pos e, e]
     ·rw [if_neg e]; exact hI j (by omega)
    ·unfold B_eIq1_1
     dsimp only
     rw [if_pos (by omega), if_pos (by omega), Int.toNat_natCast, if_pos hi]
     simp only [Option.bind_some, m_treeCopy11q1]
     rw [if_pos (by omega), if_pos (by omega), w64_inc (by omega)])
   (fun L hI => by
    refine ⟨L, ext_getD hI.1 hI.2, ?_⟩
    unfold B_eIq1_1
    dsimp only
    rw [if_neg (by omega)])
   n 0 (List.replicate x.l.length 0) (Nat.zero_le _) ⟨List.length_replicate, fun j hj => by omega⟩ (by omega)
  show ((iterM _ n (_, ((0 : Nat) : Int))).bind _) = _
  rw [q2, q1]
  rfl
theorem moved_ok {n : Nat} (a0 a1 a2 a3 a4 a5 : Int) {x : NL} (a7 : Int) (hx : x.l.length ≤ 1000000) (hn : x.l.length < n) : ∃ k, m_treeCopy1q1 n a0 a1 a2 a3 a4 a5 x a7 = some k ∧ k.l = x.l := by
 unfold m_treeCopy1q1 m_treemovedq1
 rw [eachI hx hn]
 by_cases h0 : x.l = []
 ·rw [if_pos h0]
  exact ⟨nl0, rfl, h0.symm⟩
 ·rw [if_neg h0]
  dsimp only
  rw [if_pos rfl, dif_pos x.le]
  exact ⟨_, rfl, rfl⟩
/-- rows that are the tree's, Met by Met -/
structure Sf (f : Nat → Int) (L : List P8) : Prop where
 len : L.length = Args.A.length
 row : ∀ i, i < Args.A.length → ∃ k : NL, L.getD i (0, 0, 0, 0, 0, 0, nl0, 0) = ((pt i).1, (pt i).2.1, (pt i).2.2.1, (pt i).2.2.2.1, (pt i).2.2.2.2.1, (pt i).2.2.2.2.2.1, k, f i) ∧ k.l = kd i
def metF (i : Nat) : Int := (pt i).2.2.2.2.2.2.2
theorem copy_ok {n : Nat} (hA : 0 < Args.A.length) (hL : Args.A.length ≤ 1000000) (hk : ∀ i, (kd i).length ≤ Args.A.length) (hn : Args.A.length < n) : ∃ L, m_treeCopyq1 n = some (L, Args.A.length) ∧ Sf metF L := by
 unfold m_treeCopyq1 m_ePq1
 rw [if_neg (by omega), if_pos (by omega), if_pos (by omega), Int.toNat_natCast]
 obtain ⟨r, q1, q2⟩ := hoare (B := B_ePq1_1 n Args.A.length (Args.A.length : Int)) (σ := List P8) (fun L i => (L, i))
  (fun i L => L.length = Args.A.length ∧ ∀ j, j < i → ∃ k : NL, L.getD j (0, 0, 0, 0, 0, 0, nl0, 0) = ((pt j).1, (pt j).2.1, (pt j).2.2.1, (pt j).2.2.2.1, (pt j).2.2.2.2.1, (pt j).2.2.2.2.2.1, k, metF j) ∧ k.l = kd j) (fun r => Sf metF r) Args.A.length
  (fun i L hi hI => by
   obtain ⟨hL', hI⟩ := hI
   obtain ⟨k, e1, e2⟩ := moved_ok (n := n) (pt i).1 (pt i).2.1 (pt i).2.2.1 (pt i).2.2.2.1 (pt i).2.2.2.2.1 (pt i).2.2.2.2.2.1 (x := (pt i).2.2.2.2.2.2.1) (pt i).2.2.2.2.2.2.2 (Nat.le_trans (hk i) hL) (Nat.lt_of_le_of_lt (hk i) hn)
   refine .inl ⟨L.set i ((pt i).1, (pt i).2.1, (pt i).2.2.1, (pt i).2.2.2.1, (pt i).2.2.2.2.1, (pt i).2.2.2.2.2.1, k, metF i), ⟨by rw [List.length_set, hL'], fun j hj => ?_⟩, ?_⟩
   ·rw [getD_set (by omega)]
    by_cases e : j = i
    ·rw [if_pos e, e]; exact ⟨k, rfl, e2⟩
    ·rw [if_neg e]; exact hI j (by omega)
   ·unfold B_ePq1_1
    dsimp only
    rw [if_pos (by omega), if_pos (by omega), Int.toNat_natCast]
    show ((some (pt i)).bind _) = _
    dsimp only [Option.bind_some]
    rw [e1]
    dsimp only [Option.bind_some]
    rw [if_pos (by omega), if_pos (by omega), w64_inc (by omega)]
    rfl)
  (fun L hI => by
   refine ⟨L, ⟨hI.1, hI.2⟩, ?_⟩
   unfold B_ePq1_1
   dsimp only
   rw [if_neg (by omega)])
  n 0 (List.replicate Args.A.length (0, 0, 0, 0, 0, 0, nl0, 0)) (Nat.zero_le _) ⟨List.length_replicate, fun j hj => by omega⟩ (by omega)
 refine ⟨r, ?_, q1⟩
 have q2 : m_ePq1_1 n Args.A.length (Args.A.length : Int) (List.replicate Args.A.length (0, 0, 0, 0, 0, 0, nl0, 0), 0) = some r := q2
 rw [q2]
 rfl
/-- the i-th row; a row with other kids -/
def at8 (L : List P8) (i : Nat) : P8 := L.getD i (0, 0, 0, 0, 0, 0, nl0, 0)
def wk (r : P8) (k : NL) (m : Int) : P8 := (r.1, r.2.1, r.2.2.1, r.2.2.2.1, r.2.2.2.2.1, r.2.2.2.2.2.1, k, m)
def kl (r : P8) : List Int := r.2.2.2.2.2.2.1.l
def mt (r : P8) : Int := r.2.2.2.2.2.2.2
theorem at_set {L : List P8} {i j : Nat} {x : P8} (h : i < L.length) : at8 (L.set i x) j = if j = i then x else at8 L j := getD_set h
/-- a copy of rows of one's own -/
theorem copy2 {n : Nat} {L : List P8} (h0 : 0 < L.length) (hL : L.length ≤ 1000000) (hk : ∀ i, i < L.length → (kl (at8 L i)).length ≤ 1000000 ∧ (kl (at8 L i)).length < n) (hn : L.length < n) : ∃ M : List P8, m_treeCopyq2 n L L.length L.length = some M ∧ M.length = L.length ∧ ∀ i, i < L.length → ∃ k : NL, at8 M i = wk (at8 L i) k (mt (at8 L i)) ∧ k.l = kl (at8 L i) := by
 unfold m_treeCopyq2 m_ePq2
 rw [if_neg (by omega), if_pos (by omega), if_pos (by omega), Int.toNat_natCast]
 obtain ⟨r, q1, q2⟩ := hoare (B := B_ePq2_1 n L L.length L.length L.length (L.length : Int)) (σ := List P8) (fun M i => (M, i))
  (fun i M => M.length = L.length ∧ ∀ j, j < i → ∃ k : NL, at8 M j = wk (at8 L j) k (mt (at8 L j)) ∧ k.l = kl (at8 L j))
  (fun M => M.length = L.length ∧ ∀ j, j < L.length → ∃ k : NL, at8 M j = wk (at8 L j) k (mt (at8 L j)) ∧ k.l = kl (at8 L j)) L.length
  (fun i M hi hI => by
   obtain ⟨hL', hI⟩ := hI
   obtain ⟨k, e1, e2⟩ := moved_ok (n := n) (at8 L i).1 (at8 L i).2.1 (at8 L i).2.2.1 (at8 L i).2.2.2.1 (at8 L i).2.2.2.2.1 (at8 L i).2.2.2.2.2.1 (x := (at8 L i).2.2.2.2.2.2.1) (at8 L i).2.2.2.2.2.2.2 (hk i hi).1 (hk i hi).2
   refine .inl ⟨M.set i (wk (at8 L i) k (mt (at8 L i))), ⟨by rw [List.length_set, hL'], fun j hj => ?_⟩, ?_⟩
   ·rw [at_set (by omega)]
    by_cases e : j = i
    ·rw [if_pos e, e]; exact ⟨k, rfl, e2⟩
    ·rw [if_neg e]; exact hI j (by omega)
   ·unfold B_ePq2_1
    dsimp only
    rw [if_pos (by omega), if_pos (by omega), Int.toNat_natCast, if_pos hi]
    show ((some (at8 L i)).bind _) = _
    dsimp only [Option.bind_some]
    rw [e1]
    dsimp only [Option.bind_some]
    rw [if_pos (by omega), if_pos (by omega), w64_inc (by omega)]
    rfl)
  (fun M hI => by
   refine ⟨M, hI, ?_⟩
   unfold B_ePq2_1
   dsimp only
   rw [if_neg (by omega)])
  n 0 (List.replicate L.length (0, 0, 0, 0, 0, 0, nl0, 0)) (Nat.zero_le _) ⟨List.length_replicate, fun j hj => by omega⟩ (by omega)
 refine ⟨r, ?_, q1⟩
 have q2 : m_ePq2_1 n L L.length L.length L.length (L.length : Int) (List.replicate L.length (0, 0, 0, 0, 0, 0, nl0, 0), 0) = some r := q2
 rw [q2]
 rfl


/-! what an edit makes of a part -/
theorem Ks.count {i k next e : Nat} {a : Int} (h : Ks i k next a e) : (kd i).length + next ≤ e + k := by
 induction h with
 | done hk => omega
 | kid hk hv hn ha h1 h2 ih1 ih2 => have := h1.lt; omega
theorem kd_out {i : Nat} (h : Args.A.length ≤ i) : kd i = [] := by
 have : pt i = d8 := by unfold pt; rw [List.getD_eq_getElem?_getD, List.getElem?_eq_none h]; rfl
 unfold kd; rw [this]; rfl
theorem Tree.few (hT : Tree) (i : Nat) : (kd i).length ≤ Args.A.length := by
 rcases Nat.lt_or_ge i Args.A.length with h | h
 ·obtain ⟨e, h1, -, h3⟩ := hT.end h
  have := h1.count
  omega
 ·rw [kd_out h]; exact Nat.zero_le _
theorem start_tot (n : Nat) (a b c d : Int) : ∃ r, m_sSq1 n a b c d = some r := by
 unfold m_sSq1
 rw [show m_shiftnumberq1 n a = some () from rfl, show m_shifteditq1 n b c d = some () from rfl]
 dsimp only [Option.bind_some]
 by_cases c1 : (minB (maxB a (-1099511627776)) 1099511627776) < (minB (maxB b (-1099511627776)) 1099511627776)
 ·rw [if_pos c1]; exact ⟨_, rfl⟩
 ·rw [if_neg c1]
  by_cases c2 : (minB (maxB a (-1099511627776)) 1099511627776) ≥ w64 ((minB (maxB b (-1099511627776)) 1099511627776) + (minB (maxB c (-1099511627776)) 1099511627776))
  ·rw [if_pos c2]; exact ⟨_, rfl⟩
  ·rw [if_neg c2]; exact ⟨_, rfl⟩
theorem end_tot (n : Nat) (a b c d : Int) : ∃ r, m_shiftEndq1 n a b c d = some r := by
 unfold m_shiftEndq1
 rw [show m_shiftnumberq1 n a = some () from rfl, show m_shifteditq1 n b c d = some () from rfl]
 dsimp only [Option.bind_some]
 by_cases c1 : (minB (maxB a (-1099511627776)) 1099511627776) ≤ (minB (maxB b (-1099511627776)) 1099511627776)
 ·rw [if_pos c1]; exact ⟨_, rfl⟩
 ·rw [if_neg c1]
  by_cases c2 : (minB (maxB a (-1099511627776)) 1099511627776) ≥ w64 ((minB (maxB b (-1099511627776)) 1099511627776) + (minB (maxB c (-1099511627776)) 1099511627776))
  ·rw [if_pos c2]; exact ⟨_, rfl⟩
  ·rw [if_neg c2]; exact ⟨_, rfl⟩
theorem len_tot (n : Nat) (a b c d : Int) : ∃ r, m_shiftLenq1 n a b c d = some r := ⟨_, rfl⟩
theorem meets_tot (n : Nat) (a b c d e : Int) : ∃ r, m_sMq1 n a b c d e = some r := by
 unfold m_sMq1
 rw [show m_shiftspanq1 n a b = some () from rfl, show m_shifteditq1 n c d e = some () from rfl]
 dsimp only [Option.bind_some]
 have two : ∀ (p : Prop) [Decidable p] (x y : Option Bool), (∃ r, x = some r) → (∃ r, y = some r) → ∃ r, (if p then x else y) = some r := fun p _ x y hx hy => by
  by_cases h : p
  ·rw [if_pos h]; exact hx
  ·rw [if_neg h]; exact hy
 repeat' first | exact ⟨_, rfl⟩ | apply two
theorem edited_ok (n : Nat) (a1 a2 a3 a4 a5 a8 a9 a10 : Int) : ∃ (r0 r1 r2 r3 : Int) (b : Bool), ∀ (a0 : Int) (a6 : NL) (a7 a11 : Int), m_tdq1 n a0 a1 a2 a3 a4 a5 a6 a7 a8 a9 a10 a11 = some (r0, r1, r2, r3, if b = true then bOr .u64 a7 a11 else a7) := by
 obtain ⟨s2, h2⟩ := start_tot n a2 a8 a9 a10
 obtain ⟨s3, h3⟩ := start_tot n a3 a8 a9 a10
 obtain ⟨e4, h4⟩ := end_tot n a4 a8 a9 a10
 obtain ⟨e5, h5⟩ := end_tot n a5 a8 a9 a10
 obtain ⟨ln, hl⟩ := len_tot n a8 a9 a10 a4
 by_cases c1 : a1 = 1
 ·obtain ⟨b, hb⟩ := meets_tot n (-1) a5 a8 a9 a10
  by_cases c3 : a3 = a2
  ·refine ⟨0, 0, maxB ln 0, 1, b, fun a0 a6 a7 a11 => ?_⟩
   unfold m_tdq1 m_treeownq1
   rw [if_pos c1, h2]
   dsimp only [Option.bind_some]
   rw [h4]
   dsimp only [Option.bind_some]
   rw [hl]
   dsimp only [Option.bind_some]
   rw [if_pos c3, h5]
   dsimp only [Option.bind_some]
   rw [if_pos c1]
   dsimp only [Option.bind_some]
   rw [hb]
   cases b <;> rfl
  ·refine ⟨0, minB (maxB s3 0) (maxB ln 0), maxB ln 0, 1, b, fun a0 a6 a7 a11 => ?_⟩
   unfold m_tdq1 m_treeownq1
   rw [if_pos c1, h2]
   dsimp only [Option.bind_some]
   rw [h4]
   dsimp only [Option.bind_some]
   rw [hl]
   dsimp only [Option.bind_some]
   rw [if_neg c3, h3]
   dsimp only [Option.bind_some]
   rw [h5]
   dsimp only [Option.bind_some]
   rw [if_pos c1]
   dsimp only [Option.bind_some]
   rw [hb]
   cases b <;> rfl
 ·obtain ⟨b, hb⟩ := meets_tot n a2 a5 a8 a9 a10
  by_cases c3 : a3 = a2
  ·refine ⟨s2, s2, maxB e4 s2, if b = true then maxB (maxB e5 (w64 (s2 + 1))) (w64 (a8 + 1)) else maxB e5 (w64 (s2 + 1)), b, fun a0 a6 a7 a11 => ?_⟩
   unfold m_tdq1 m_treeownq1
   rw [if_neg c1, h2]
   dsimp only [Option.bind_some]
   rw [h4]
   dsimp only [Option.bind_some]
   rw [if_pos c3, h5]
   dsimp only [Option.bind_some]
   rw [if_neg c1]
   dsimp only [Option.bind_some]
   rw [hb]
   cases b <;> rfl
  ·refine ⟨s2, minB (maxB s3 s2) (maxB e4 s2), maxB e4 s2, if b = true then maxB (maxB e5 (w64 (s2 + 1))) (w64 (a8 + 1)) else maxB e5 (w64 (s2 + 1)), b, fun a0 a6 a7 a11 => ?_⟩
   unfold m_tdq1 m_treeownq1
   rw [if_neg c1, h2]
   dsimp only [Option.bind_some]
   rw [h4]
   dsimp only [Option.bind_some]
   rw [if_neg c3, h3]
   dsimp only [Option.bind_some]
   rw [h5]
   dsimp only [Option.bind_some]
   rw [if_neg c1]
   dsimp only [Option.bind_some]
   rw [hb]
   cases b <;> rfl


/-! two edits that differ in their bits alone -/
theorem or0 {m : Int} (h : 0 ≤ m ∧ m < 18446744073709551616) : bOr .u64 m 0 = m := by
 obtain ⟨k, rfl⟩ := Int.eq_ofNat_of_zero_le h.1
 unfold bOr
 rw [show IntKind.u64.bits = 64 from rfl, BitVec.ofInt_natCast, show BitVec.ofInt 64 0 = 0#64 from rfl, BitVec.or_zero, BitVec.toNat_ofNat, Nat.mod_eq_of_lt (by omega)]
 exact IntWalk.u64_in _ (by omega)
theorem met_u {i : Nat} (hi : i < Args.A.length) : 0 ≤ metF i ∧ metF i < 18446744073709551616 := Args.uA (pt i) (getD_mem hi)
/-- rows that are alike but for Met; those from t on were edited -/
structure Rl (bit : Int) (t : Nat) (L M : List P8) : Prop where
 lL : L.length = Args.A.length
 lM : M.length = Args.A.length
 row : ∀ i, i < Args.A.length → ∃ (k k' : NL) (g : Int), at8 M i = wk (at8 L i) k' g ∧ at8 L i = wk (at8 L i) k (metF i) ∧ k.l = kd i ∧ k'.l = kd i ∧ (g = metF i ∨ g = bOr .u64 (metF i) bit) ∧ (i < t → g = metF i)
theorem wk_eq {r s : P8} {k k' : NL} {m m' : Int} (h : s = wk r k' m') (hr : r = wk r k m) (h1 : k.l = k'.l) : s.1 = r.1 ∧ s.2.1 = r.2.1 ∧ s.2.2.1 = r.2.2.1 ∧ s.2.2.2.1 = r.2.2.2.1 ∧ s.2.2.2.2.1 = r.2.2.2.2.1 ∧ s.2.2.2.2.2.1 = r.2.2.2.2.2.1 ∧ kl s = kl r := by
 refine ⟨by rw [h]; rfl, by rw [h]; rfl, by rw [h]; rfl, by rw [h]; rfl, by rw [h]; rfl, by rw [h]; rfl, ?_⟩
 rw [h, hr]
 show k'.l = k.l
 exact h1.symm
/-- both rows are set anew -/
theorem Rl.put {bit : Int} {t t' i : Nat} {L M : List P8} (h : Rl bit t L M) (hi : i < Args.A.length) (ht : ∀ j, j < t' → j < t) {r s : P8} {k k' : NL} {g : Int} (hs : s = wk r k' g) (hr : r = wk r k (metF i)) (h1 : k.l = kd i) (h2 : k'.l = kd i) (h3 : g = metF i ∨ g = bOr .u64 (metF i) bit) (h4 : i < t' → g = metF i) : Rl bit t' (L.set i r) (M.set i s) := by
 refine ⟨by rw [List.length_set, h.lL], by rw [List.length_set, h.lM], fun j hj => ?_⟩
 rw [at_set (by rw [h.lM]; exact hi), at_set (by rw [h.lL]; exact hi)]
 by_cases e : j = i
 ·rw [if_pos e, if_pos e, e]
  exact ⟨k, k', g, hs, hr, h1, h2, h3, h4⟩
 ·rw [if_neg e, if_neg e]
  obtain ⟨k, k', g, a1, a2, a3, a4, a5, a6⟩ := h.row j hj
  exact ⟨k, k', g, a1, a2, a3, a4, a5, fun h => a6 (ht j h)⟩
theorem kids_ok {n i : Nat} {e1 e2 e3 b1 b2 bit : Int} {c1 c2 : Nat} (hT : Tree) (hi : i < Args.A.length) (hA : Args.A.length ≤ 1000000) : ∀ (f k : Nat) (L M : List P8), k ≤ (kd i).length → (kd i).length - k < f → Rl bit i L M → ∃ L' M', iterM (B_tEy_1 n e1 e2 e3 b1 Args.A.length c1 (i : Int) (pt i).2.2.2.2.2.2.1 ((kd i).length : Int)) f (L, (k : Int)) = some L' ∧ iterM (B_tEy_1 n e1 e2 e3 b2 Args.A.length c2 (i : Int) (pt i).2.2.2.2.2.2.1 ((kd i).length : Int)) f (M, (k : Int)) = some M' ∧ Rl bit i L' M'
 | 0, k, L, M, _, h, _ => absurd h (Nat.not_lt_zero _)
 | f + 1, k, L, M, hk, hf, hR => by
  have hkl := kd_le i
  have hlL := hR.lL
  have hlM := hR.lM
  rw [iterM_succ, iterM_succ]
  by_cases hlt : k < (kd i).length
  ·obtain ⟨c, g1, g2, g3⟩ := hT.kid hi hlt
   obtain ⟨k1, k1', m1, a1, a2, a3, a4, a5, a6⟩ := hR.row i hi
   obtain ⟨k2, k2', m2, d1, d2, d3, d4, d5, d6⟩ := hR.row c g3
   have body : ∀ (b : Int) (X : List P8) (cc : Nat), X.length = Args.A.length → B_tEy_1 n e1 e2 e3 b Args.A.length cc (i : Int) (pt i).2.2.2.2.2.2.1 ((kd i).length : Int) (X, (k : Int)) = some (.inl (X.set i ((at8 X i).1, (at8 X i).2.1, (at8 X i).2.2.1, (at8 X i).2.2.2.1, maxB (at8 X i).2.2.2.2.1 (at8 X c).2.2.2.2.1, (at8 X i).2.2.2.2.2.1, (at8 X i).2.2.2.2.2.2.1, (at8 X i).2.2.2.2.2.2.2), ((k + 1 : Nat) : Int))) := fun b X cc hX => by
    unfold B_tEy_1
    dsimp only
    rw [if_pos (by omega)]
    show (if 0 ≤ (k : Int) ∧ (k : Int) < ((kd i).length : Int) then (if (k : Int).toNat < (kd i).length then (some ((kd i).getD (k : Int).toNat 0)).bind _ else _) else _) = _
    rw [if_pos (by omega), Int.toNat_natCast, if_pos hlt, g1]
    dsimp only [Option.bind_some]
    rw [if_pos (by omega), Int.toNat_natCast, if_pos (by omega)]
    rw [if_pos (by omega), Int.toNat_natCast, if_pos (by omega), w64_inc' (by omega)]
    rfl
   rw [body b1 L c1 hlL, body b2 M c2 hlM]
   obtain ⟨w1, w2, w3, w4, w5, w6, w7⟩ := wk_eq a1 a2 (by rw [a3, a4])
   obtain ⟨v1, v2, v3, v4, v5, v6, v7⟩ := wk_eq d1 d2 (by rw [d3, d4])
   refine kids_ok hT hi hA f (k + 1) _ _ (by omega) (by omega) (hR.put hi (fun j h => h) (k := k1) (k' := k1') (g := m1) ?_ ?_ a3 a4 a5 (fun h => absurd h (Nat.lt_irrefl _)))
   ·rw [w1, w2, w3, w4, w5, w6, v5]
    have q1 : (at8 M i).2.2.2.2.2.2.1 = k1' := by rw [a1]; rfl
    have q2 : (at8 M i).2.2.2.2.2.2.2 = m1 := by rw [a1]; rfl
    rw [q1, q2]; rfl
   ·have q1 : (at8 L i).2.2.2.2.2.2.1 = k1 := by rw [a2]; rfl
    have q2 : (at8 L i).2.2.2.2.2.2.2 = metF i := by rw [a2]; rfl
    rw [q1, q2]; rfl
  ·have body : ∀ (b : Int) (X : List P8) (cc : Nat), B_tEy_1 n e1 e2 e3 b Args.A.length cc (i : Int) (pt i).2.2.2.2.2.2.1 ((kd i).length : Int) (X, (k : Int)) = some (.inr X) := fun b X cc => by
    unfold B_tEy_1
    dsimp only
    rw [if_neg (by omega)]
   rw [body, body]
   exact ⟨L, M, rfl, rfl, hR⟩
theorem round_ok {n i : Nat} {e1 e2 e3 bit : Int} {L M : List P8} {c1 c2 : Nat} (hT : Tree) (hi : i < Args.A.length) (hA : Args.A.length ≤ 1000000) (hn : (kd i).length < n) (hR : Rl bit (i + 1) L M) : ∃ L' M', m_treeEdit_111010y1 n e1 e2 e3 0 L Args.A.length c1 (i : Int) (pt i).1 (pt i).2.1 (pt i).2.2.1 (pt i).2.2.2.1 (pt i).2.2.2.2.1 (pt i).2.2.2.2.2.1 (pt i).2.2.2.2.2.2.1 (pt i).2.2.2.2.2.2.2 = some L' ∧ m_treeEdit_111010y1 n e1 e2 e3 bit M Args.A.length c2 (i : Int) (pt i).1 (pt i).2.1 (pt i).2.2.1 (pt i).2.2.2.1 (pt i).2.2.2.2.1 (pt i).2.2.2.2.2.1 (pt i).2.2.2.2.2.2.1 (pt i).2.2.2.2.2.2.2 = some M' ∧ Rl bit i L' M' := by
 have hlL := hR.lL
 have hlM := hR.lM
 obtain ⟨k1, k1', m1, a1, a2, a3, a4, a5, a6⟩ := hR.row i hi
 have hm1 := a6 (Nat.lt_succ_self i)
 subst hm1
 obtain ⟨w1, w2, w3, w4, w5, w6, w7⟩ := wk_eq a1 a2 (by rw [a3, a4])
 obtain ⟨r0, r1, r2, r3, b, he⟩ := edited_ok n (at8 L i).2.1 (at8 L i).2.2.1 (at8 L i).2.2.2.1 (at8 L i).2.2.2.2.1 (at8 L i).2.2.2.2.2.1 e1 e2 e3
 have qL : (at8 L i).2.2.2.2.2.2.2 = metF i := by rw [a2]; rfl
 have qM : (at8 M i).2.2.2.2.2.2.2 = metF i := by rw [a1]; rfl
 have kL : (at8 L i).2.2.2.2.2.2.1 = k1 := by rw [a2]; rfl
 have kM : (at8 M i).2.2.2.2.2.2.1 = k1' := by rw [a1]; rfl
 have hu := met_u hi
 have h0 : (if b = true then bOr .u64 (metF i) 0 else metF i) = metF i := by
  cases b
  ·rfl
  ·exact or0 hu
 have hR2 : Rl bit i (L.set i ((at8 L i).1, (at8 L i).2.1, r0, r1, r2, r3, k1, metF i)) (M.set i ((at8 M i).1, (at8 M i).2.1, r0, r1, r2, r3, k1', if b = true then bOr .u64 (metF i) bit else metF i)) := by
  refine hR.put hi (fun j h => by omega) (k := k1) (k' := k1') (g := if b = true then bOr .u64 (metF i) bit else metF i) ?_ rfl a3 a4 ?_ (fun h => absurd h (Nat.lt_irrefl _))
  ·rw [w1, w2]; rfl
  ·cases b
   ·exact .inl rfl
   ·exact .inr rfl
 obtain ⟨L', M', f1, f2, f3⟩ := kids_ok (n := n) (e1 := e1) (e2 := e2) (e3 := e3) (b1 := 0) (b2 := bit) (c1 := c1) (c2 := c2) hT hi hA n 0 _ _ (Nat.zero_le _) (by omega) hR2
 refine ⟨L', M', ?_, ?_, f3⟩
 ·unfold m_treeEdit_111010y1
  rw [if_pos (by omega), Int.toNat_natCast, if_pos (by omega)]
  show ((some (at8 L i)).bind _) = _
  dsimp only [Option.bind_some]
  rw [he]
  dsimp only [Option.bind_some]
  rw [qL, kL, h0]
  show ((iterM _ n (_, ((0 : Nat) : Int))).bind _) = _
  rw [show ((((pt i).2.2.2.2.2.2.1.l.length : Nat)) : Int) = ((kd i).length : Int) from rfl, f1]
  rfl
 ·unfold m_treeEdit_111010y1
  rw [if_pos (by omega), Int.toNat_natCast, if_pos (by omega)]
  show ((some (at8 M i)).bind _) = _
  dsimp only [Option.bind_some]
  rw [w2, w3, w4, w5, w6, he]
  dsimp only [Option.bind_some]
  rw [qM, kM, ← w2]
  show ((iterM _ n (_, ((0 : Nat) : Int))).bind _) = _
  rw [show ((((pt i).2.2.2.2.2.2.1.l.length : Nat)) : Int) = ((kd i).length : Int) from rfl, f2]
  rfl
theorem back_ok {n : Nat} {e1 e2 e3 bit : Int} {c1 c2 : Nat} (hT : Tree) (hA : Args.A.length ≤ 1000000) (hn : ∀ i, (kd i).length < n) : ∀ (f t : Nat) (L M : List P8), t ≤ Args.A.length → t < f → Rl bit t L M → ∃ L' M', iterM (B_bK1q1_1 n e1 e2 e3 0 Args.A.length c1) f (L, (t : Int) - 1) = some L' ∧ iterM (B_bK1q1_1 n e1 e2 e3 bit Args.A.length c2) f (M, (t : Int) - 1) = some M' ∧ Rl bit 0 L' M'
 | 0, t, L, M, _, h, _ => absurd h (Nat.not_lt_zero _)
 | f + 1, t, L, M, ht, hf, hR => by
  rw [iterM_succ, iterM_succ]
  cases t with
  | zero =>
   have body : ∀ (b : Int) (X : List P8) (cc : Nat), B_bK1q1_1 n e1 e2 e3 b Args.A.length cc (X, ((0 : Nat) : Int) - 1) = some (.inr X) := fun b X cc => by
    unfold B_bK1q1_1
    dsimp only
    rw [if_neg (by omega)]
   rw [body, body]
   exact ⟨L, M, rfl, rfl, hR⟩
  | succ i =>
   have hi : i < Args.A.length := by omega
   obtain ⟨L1, M1, g1, g2, g3⟩ := round_ok (n := n) (e1 := e1) (e2 := e2) (e3 := e3) (c1 := c1) (c2 := c2) hT hi hA (hn i) hR
   have ei : ((i + 1 : Nat) : Int) - 1 = (i : Int) := by omega
   have ew : w64 ((i : Int) - 1) = (i : Int) - 1 := w64_sm (by omega) (by omega)
   have b1 : B_bK1q1_1 n e1 e2 e3 0 Args.A.length c1 (L, (i : Int)) = some (.inl (L1, (i : Int) - 1)) := by
    unfold B_bK1q1_1
    dsimp only
    rw [if_pos (by omega), if_pos (by omega), Int.toNat_natCast]
    show ((some (pt i)).bind _) = _
    dsimp only [Option.bind_some]
    rw [g1, ew]
    rfl
   have b2 : B_bK1q1_1 n e1 e2 e3 bit Args.A.length c2 (M, (i : Int)) = some (.inl (M1, (i : Int) - 1)) := by
    unfold B_bK1q1_1
    dsimp only
    rw [if_pos (by omega), if_pos (by omega), Int.toNat_natCast]
    show ((some (pt i)).bind _) = _
    dsimp only [Option.bind_some]
    rw [g2, ew]
    rfl
   rw [ei, b1, b2]
   exact back_ok hT hA hn f i L1 M1 (by omega) (by omega) g3
theorem Sf.rl {bit : Int} {L M : List P8} (h : Sf metF L) (g : Sf metF M) : Rl bit Args.A.length L M := by
 refine ⟨h.len, g.len, fun i hi => ?_⟩
 obtain ⟨k, e1, e2⟩ := h.row i hi
 obtain ⟨k', e3, e4⟩ := g.row i hi
 have e1 : at8 L i = _ := e1
 have e3 : at8 M i = _ := e3
 exact ⟨k, k', metF i, by rw [e1, e3]; rfl, by rw [e1]; rfl, e2, e4, .inl rfl, fun _ => rfl⟩
theorem edit_ok {n : Nat} {e1 e2 e3 bit : Int} (hT : Tree) (hA : Args.A.length ≤ 1000000) (hn : Args.A.length + 1 < n) (h1 : ¬ e1 < 0) (h2 : ¬ e2 < 0) (h3 : ¬ e3 < 0) : ∃ L M, m_treeEditq1 n e1 e2 e3 0 = some (L, Args.A.length) ∧ m_treeEditq1 n e1 e2 e3 bit = some (M, Args.A.length) ∧ Rl bit 0 L M := by
 have hfew := hT.few
 obtain ⟨X, c1, hX⟩ := copy_ok (n := n) hT.pos hA hfew (by omega)
 obtain ⟨L, M, g1, g2, g3⟩ := back_ok (n := n) (e1 := e1) (e2 := e2) (e3 := e3) (bit := bit) (c1 := Args.A.length) (c2 := Args.A.length) hT hA (fun i => by have := hfew i; omega) n Args.A.length X X (Nat.le_refl _) (by omega) (hX.rl hX)
 have hw : w64 (((Args.A.length : Nat) : Int) - 1) = ((Args.A.length : Nat) : Int) - 1 := w64_sm (by omega) (by omega)
 refine ⟨L, M, ?_, ?_, g3⟩
 ·unfold m_treeEditq1 m_bK1q1 m_bK1q1_1
  rw [if_neg h1, if_neg h2, if_neg h3, check_ok hT (by omega)]
  dsimp only [Option.bind_some]
  rw [if_pos rfl, c1]
  dsimp only [Option.bind_some]
  rw [hw, g1]
  rfl
 ·unfold m_treeEditq1 m_bK1q1 m_bK1q1_1
  rw [if_neg h1, if_neg h2, if_neg h3, check_ok hT (by omega)]
  dsimp only [Option.bind_some]
  rw [if_pos rfl, c1]
  dsimp only [Option.bind_some]
  rw [hw, g2]
  rfl


/-! the check does not look at Met, nor where kids are kept -/
@[reducible] def withZ (L : List P8) (h : L.length ≤ 9223372036854775807) (hu : ∀ x ∈ L, 0 ≤ x.2.2.2.2.2.2.2 ∧ x.2.2.2.2.2.2.2 < 18446744073709551616) : Args := { toNest := inferInstance, A := L, bA := 0, dA := 0, cA := 0, hA := h, uA := hu }
/-- rows that are alike but for Met -/
structure Al (X M : List P8) : Prop where
 len : M.length = X.length
 row : ∀ i, i < X.length → (at8 M i).1 = (at8 X i).1 ∧ (at8 M i).2.1 = (at8 X i).2.1 ∧ (at8 M i).2.2.1 = (at8 X i).2.2.1 ∧ (at8 M i).2.2.2.1 = (at8 X i).2.2.2.1 ∧ (at8 M i).2.2.2.2.1 = (at8 X i).2.2.2.2.1 ∧ (at8 M i).2.2.2.2.2.1 = (at8 X i).2.2.2.2.2.1 ∧ kl (at8 M i) = kl (at8 X i)
theorem inB2 {X M : List P8} {hX : X.length ≤ 9223372036854775807} {hu} (h : Al X M) {n c : Nat} {x : Int} (st : OSt) : B_iOq2_1 n M M.length c x st = @B_iOq1_1 (withZ X hX hu) n x st := by
 obtain ⟨S, s, i⟩ := st
 have hl := h.len
 have hA : (@Args.A (withZ X hX hu)).length = X.length := rfl
 have row : ∀ j : Int, 0 ≤ j ∧ j < (M.length : Int) → (M.getD j.toNat (0, 0, 0, 0, 0, 0, nl0, 0)).2.2.1 = (X.getD j.toNat (0, 0, 0, 0, 0, 0, nl0, 0)).2.2.1 ∧ (M.getD j.toNat (0, 0, 0, 0, 0, 0, nl0, 0)).2.2.2.2.1 = (X.getD j.toNat (0, 0, 0, 0, 0, 0, nl0, 0)).2.2.2.2.1 ∧ (M.getD j.toNat (0, 0, 0, 0, 0, 0, nl0, 0)).2.2.2.2.2.2.1.l = (X.getD j.toNat (0, 0, 0, 0, 0, 0, nl0, 0)).2.2.2.2.2.2.1.l := fun j hj => by
  obtain ⟨-, -, q1, -, q2, -, q3⟩ := h.row j.toNat (by omega)
  exact ⟨q1, q2, q3⟩
 unfold B_iOq2_1 B_iOq1_1
 cases S with
 | nil =>
  dsimp only
  by_cases h1 : i < x
  ·rw [if_pos h1, if_pos h1]
   by_cases h2 : 0 ≤ i ∧ i < (M.length : Int)
   ·obtain ⟨r1, r2, r3⟩ := row i h2
    rw [if_pos h2, if_pos (by omega), if_pos (by rw [hA]; omega)]
    dsimp only [Option.bind_some]
    rw [r1, r3]
    rfl
   ·rw [if_neg h2, if_neg (by rw [hA]; omega)]
  ·rw [if_neg h1, if_neg h1]
 | cons a t =>
  dsimp only
  by_cases h1 : i < x
  ·rw [if_pos h1, if_pos h1]
   by_cases h2 : 0 ≤ i ∧ i < (M.length : Int)
   ·obtain ⟨r1, r2, r3⟩ := row i h2
    rw [if_pos h2, if_pos (by omega), if_pos (by rw [hA]; omega)]
    dsimp only [Option.bind_some]
    rw [r1, r2, r3]
    by_cases h3 : i > 0
    ·rw [if_pos h3, if_pos h3]
     by_cases h4 : ((s : Nat) : Int) = 0
     ·rw [if_pos h4, if_pos h4]
     ·rw [if_neg h4, if_neg h4]
      by_cases h5 : 0 ≤ w64 (((s : Nat) : Int) - 1) ∧ w64 (((s : Nat) : Int) - 1) < ((s : Nat) : Int)
      ·rw [if_pos h5, if_pos h5]
       by_cases h6 : (w64 (((s : Nat) : Int) - 1)).toNat < (a :: t).length
       ·rw [if_pos h6, if_pos h6]
        generalize (a :: t).getD (w64 (((s : Nat) : Int) - 1)).toNat (0, 0, 0) = y
        by_cases h7 : 0 ≤ y.1 ∧ y.1 < (M.length : Int)
        ·obtain ⟨u1, u2, u3⟩ := row y.1 h7
         rw [if_pos h7, if_pos (show y.1.toNat < M.length by omega), if_pos (show 0 ≤ y.1 ∧ y.1 < (((@Args.A (withZ X hX hu)).length : Nat) : Int) by rw [hA]; omega), u2, u3]
         rfl
        ·rw [if_neg h7, if_neg (show ¬ (0 ≤ y.1 ∧ y.1 < (((@Args.A (withZ X hX hu)).length : Nat) : Int)) by rw [hA]; omega)]
       ·rw [if_neg h6, if_neg h6]
      ·rw [if_neg h5, if_neg h5]
    ·rw [if_neg h3, if_neg h3]
     rfl
   ·rw [if_neg h2, if_neg (by rw [hA]; omega)]
  ·rw [if_neg h1, if_neg h1]
theorem sound_eq (n : Nat) (a0 b0 a1 a2 a3 a4 a5 : Int) (k k' : NL) (m m' : Int) (h : k.l = k'.l) : m_soq1 n a0 a1 a2 a3 a4 a5 k m = m_soq1 n b0 a1 a2 a3 a4 a5 k' m' := by
 unfold m_soq1
 rw [h]
theorem chB2 {X M : List P8} {hX : X.length ≤ 9223372036854775807} {hu} (h : Al X M) {n c : Nat} {x : Int} (i : Int) : B_tCq2_1 n M M.length c x i = @B_tCq1_1 (withZ X hX hu) n x i := by
 have hl := h.len
 have hA : (@Args.A (withZ X hX hu)).length = X.length := rfl
 unfold B_tCq2_1 B_tCq1_1
 dsimp only
 by_cases h1 : i < x
 ·rw [if_pos h1, if_pos h1]
  by_cases h2 : 0 ≤ i ∧ i < (M.length : Int)
  ·obtain ⟨q0, q1, q2, q3, q4, q5, q6⟩ := h.row i.toNat (by omega)
   have q1 : (M.getD i.toNat (0, 0, 0, 0, 0, 0, nl0, 0)).2.1 = (X.getD i.toNat (0, 0, 0, 0, 0, 0, nl0, 0)).2.1 := q1
   have q2 : (M.getD i.toNat (0, 0, 0, 0, 0, 0, nl0, 0)).2.2.1 = (X.getD i.toNat (0, 0, 0, 0, 0, 0, nl0, 0)).2.2.1 := q2
   have q3 : (M.getD i.toNat (0, 0, 0, 0, 0, 0, nl0, 0)).2.2.2.1 = (X.getD i.toNat (0, 0, 0, 0, 0, 0, nl0, 0)).2.2.2.1 := q3
   have q4 : (M.getD i.toNat (0, 0, 0, 0, 0, 0, nl0, 0)).2.2.2.2.1 = (X.getD i.toNat (0, 0, 0, 0, 0, 0, nl0, 0)).2.2.2.2.1 := q4
   have q5 : (M.getD i.toNat (0, 0, 0, 0, 0, 0, nl0, 0)).2.2.2.2.2.1 = (X.getD i.toNat (0, 0, 0, 0, 0, 0, nl0, 0)).2.2.2.2.2.1 := q5
   have q6 : (M.getD i.toNat (0, 0, 0, 0, 0, 0, nl0, 0)).2.2.2.2.2.2.1.l = (X.getD i.toNat (0, 0, 0, 0, 0, 0, nl0, 0)).2.2.2.2.2.2.1.l := q6
   rw [if_pos h2, if_pos (show i.toNat < M.length by omega), if_pos (show 0 ≤ i ∧ i < (((@Args.A (withZ X hX hu)).length : Nat) : Int) by rw [hA]; omega)]
   dsimp only [Option.bind_some]
   rw [q1, q2, q3, q4, q5, sound_eq n _ (X.getD i.toNat (0, 0, 0, 0, 0, 0, nl0, 0)).1 _ _ _ _ _ _ (X.getD i.toNat (0, 0, 0, 0, 0, 0, nl0, 0)).2.2.2.2.2.2.1 _ (X.getD i.toNat (0, 0, 0, 0, 0, 0, nl0, 0)).2.2.2.2.2.2.2 q6]
   rfl
  ·rw [if_neg h2, if_neg (show ¬ (0 ≤ i ∧ i < (((@Args.A (withZ X hX hu)).length : Nat) : Int)) by rw [hA]; omega)]
 ·rw [if_neg h1, if_neg h1]
theorem check2 {X M : List P8} {hX : X.length ≤ 9223372036854775807} {hu} (h : Al X M) {n c : Nat} : m_tCq2 n M M.length c = @m_tCq1 (withZ X hX hu) n := by
 have e1 : ∀ x, B_iOq2_1 n M M.length c x = @B_iOq1_1 (withZ X hX hu) n x := fun x => funext fun st => inB2 h st
 have e2 : ∀ x, B_tCq2_1 n M M.length c x = @B_tCq1_1 (withZ X hX hu) n x := fun x => funext fun i => chB2 h i
 have hl := h.len
 unfold m_tCq2 m_tCq1 m_iOq2 m_iOq1 m_iOq2_1 m_iOq1_1 m_tCq2_1 m_tCq1_1
 rw [e1, e2, hl]
 rfl


/-! trees without bits -/
/-- all bits are put out -/
def zB (L M : List P8) : Prop := M.length = L.length ∧ ∀ i, i < L.length → ∃ k : NL, at8 M i = wk (at8 L i) k 0 ∧ k.l = kl (at8 L i)
theorem bareL1 {n : Nat} {L X : List P8} (hX : X.length = L.length) (hr : ∀ i, i < L.length → ∃ k : NL, at8 X i = wk (at8 L i) k (mt (at8 L i)) ∧ k.l = kl (at8 L i)) (hL : L.length ≤ 1000000) (hn : L.length < n) : ∃ M, m_treeBareq1_1 n L.length (L.length : Int) (X, 0) = some M ∧ zB L M := by
 obtain ⟨r, q1, q2⟩ := hoare (B := B_treeBareq1_1 n L.length (L.length : Int)) (σ := List P8) (fun M i => (M, i))
  (fun i M => M.length = L.length ∧ ∀ j, j < L.length → ∃ (k : NL) (m : Int), at8 M j = wk (at8 L j) k m ∧ k.l = kl (at8 L j) ∧ (j < i → m = 0)) (fun M => zB L M) L.length
  (fun i M hi hI => by
   obtain ⟨hM, hI⟩ := hI
   obtain ⟨k, m, e1, e2, -⟩ := hI i hi
   refine .inl ⟨M.set i (wk (at8 L i) k 0), ⟨by rw [List.length_set, hM], fun j hj => ?_⟩, ?_⟩
   ·rw [at_set (by omega)]
    by_cases e : j = i
    ·rw [if_pos e, e]; exact ⟨k, 0, rfl, e2, fun _ => rfl⟩
    ·rw [if_neg e]
     obtain ⟨k', m', a1, a2, a3⟩ := hI j hj
     exact ⟨k', m', a1, a2, fun h => a3 (by omega)⟩
   ·unfold B_treeBareq1_1
    dsimp only
    rw [if_pos (by omega), if_pos (by omega), Int.toNat_natCast, if_pos (by omega)]
    show ((some (at8 M i)).bind _) = _
    dsimp only [Option.bind_some]
    rw [e1, w64_inc (by omega)]
    rfl)
  (fun M hI => by
   refine ⟨M, ⟨hI.1, fun j hj => ?_⟩, ?_⟩
   ·obtain ⟨k, m, a1, a2, a3⟩ := hI.2 j hj
    exact ⟨k, by rw [a1, a3 hj], a2⟩
   ·unfold B_treeBareq1_1
    dsimp only
    rw [if_neg (by omega)])
  n 0 X (Nat.zero_le _) ⟨hX, fun j hj => by
   obtain ⟨k, a1, a2⟩ := hr j hj
   exact ⟨k, _, a1, a2, fun h => absurd h (Nat.not_lt_zero _)⟩⟩ (by omega)
 exact ⟨r, q2, q1⟩
theorem bareL2 {n : Nat} {L X : List P8} (hX : X.length = L.length) (hr : ∀ i, i < L.length → ∃ k : NL, at8 X i = wk (at8 L i) k (mt (at8 L i)) ∧ k.l = kl (at8 L i)) (hL : L.length ≤ 1000000) (hn : L.length < n) : ∃ M, m_treeBareq2_1 n L L.length (L.length : Int) (X, 0) = some M ∧ zB L M := by
 obtain ⟨M, h1, h2⟩ := bareL1 (n := n) hX hr hL hn
 refine ⟨M, ?_, h2⟩
 rw [← h1]
 rfl
theorem bare1_ok {n : Nat} (hT : Tree) (hA : Args.A.length ≤ 1000000) (hn : Args.A.length < n) : ∃ M, m_treeBareq1 n = some (.inl (M, Args.A.length)) ∧ zB Args.A M := by
 obtain ⟨X, c1, hX⟩ := copy_ok (n := n) hT.pos hA hT.few hn
 obtain ⟨M, g1, g2⟩ := bareL1 (n := n) (L := Args.A) hX.len (fun i hi => by
  obtain ⟨k, e1, e2⟩ := hX.row i hi
  exact ⟨k, e1, e2⟩) hA hn
 refine ⟨M, ?_, g2⟩
 unfold m_treeBareq1
 rw [check_ok hT hn]
 dsimp only [Option.bind_some]
 rw [if_pos rfl, c1]
 dsimp only [Option.bind_some]
 rw [g1]
 rfl
theorem bare2_ok {n : Nat} {L : List P8} (h0 : 0 < L.length) (hL : L.length ≤ 1000000) (hk : ∀ i, i < L.length → (kl (at8 L i)).length ≤ 1000000 ∧ (kl (at8 L i)).length < n) (hn : L.length < n) {c : Int} (hc : m_tCq2 n L L.length L.length = some c) : (c ≠ 0 ∧ m_treeBareq2 n L L.length L.length = some (.inr ())) ∨ (c = 0 ∧ ∃ M, m_treeBareq2 n L L.length L.length = some (.inl M) ∧ zB L M) := by
 unfold m_treeBareq2
 rw [hc]
 dsimp only [Option.bind_some]
 by_cases h : c = 0
 ·right
  obtain ⟨X, c1, hX, hr⟩ := copy2 h0 hL hk hn
  obtain ⟨M, g1, g2⟩ := bareL2 (n := n) hX hr hL hn
  refine ⟨h, M, ?_, g2⟩
  rw [if_pos h, c1]
  dsimp only [Option.bind_some]
  rw [Int.toNat_natCast, g1]
  rfl
 ·exact .inl ⟨h, by rw [if_neg h]⟩
theorem eqI {n : Nat} {x y : NL} (h : x.l = y.l) (hx : x.l.length ≤ 1000000) (hn : x.l.length < n) : m_qIq1 n x y = some true := by
 obtain ⟨r, q1, q2⟩ := hoare (B := B_qIq1_1 n x y (x.l.length : Int)) (σ := Unit) (fun _ j => j) (fun _ _ => True) (fun r => r = .inr ()) x.l.length
  (fun j _ hj _ => by
   refine .inl ⟨(), trivial, ?_⟩
   unfold B_qIq1_1
   dsimp only
   rw [← h, if_pos (by omega), if_pos (by omega), Int.toNat_natCast, if_pos hj]
   dsimp only [Option.bind_some]
   rw [if_pos (by omega), if_pos hj, if_pos rfl, w64_inc (by omega)])
  (fun _ _ => by
   refine ⟨.inr (), rfl, ?_⟩
   unfold B_qIq1_1
   dsimp only
   rw [if_neg (by omega)])
  n 0 () (Nat.zero_le _) trivial (by omega)
 have q2 : m_qIq1_1 n x y (x.l.length : Int) 0 = some r := q2
 unfold m_qIq1
 rw [if_pos (by rw [h]), q2, q1]
theorem sameR {n : Nat} {r s : P8} {k k' : NL} (hs : s = wk r k' 0) (hr : r = wk r k 0) (h : k.l = k'.l) (hl : k.l.length ≤ 1000000) (hn : k.l.length < n) : m_pS1q1 n r.1 r.2.1 r.2.2.1 r.2.2.2.1 r.2.2.2.2.1 r.2.2.2.2.2.1 r.2.2.2.2.2.2.1 r.2.2.2.2.2.2.2 s.1 s.2.1 s.2.2.1 s.2.2.2.1 s.2.2.2.2.1 s.2.2.2.2.2.1 s.2.2.2.2.2.2.1 s.2.2.2.2.2.2.2 = some true := by
 have e1 : r.2.2.2.2.2.2.1 = k := by rw [hr]; rfl
 have e2 : r.2.2.2.2.2.2.2 = 0 := by rw [hr]; rfl
 have e3 : s.2.2.2.2.2.2.1 = k' := by rw [hs]; rfl
 have e4 : s.2.2.2.2.2.2.2 = 0 := by rw [hs]; rfl
 have w1 : s.1 = r.1 := by rw [hs]; rfl
 have w2 : s.2.1 = r.2.1 := by rw [hs]; rfl
 have w3 : s.2.2.1 = r.2.2.1 := by rw [hs]; rfl
 have w4 : s.2.2.2.1 = r.2.2.2.1 := by rw [hs]; rfl
 have w5 : s.2.2.2.2.1 = r.2.2.2.2.1 := by rw [hs]; rfl
 have w6 : s.2.2.2.2.2.1 = r.2.2.2.2.2.1 := by rw [hs]; rfl
 rw [e1, e2, e3, e4, w1, w2, w3, w4, w5, w6]
 unfold m_pS1q1 m_partsFitsq1
 rw [if_pos rfl, if_pos rfl, if_pos rfl, if_pos rfl]
 dsimp only [Option.bind_some]
 rw [if_pos rfl, if_pos rfl, if_pos rfl, if_pos rfl, eqI h hl hn]
 rfl
theorem same_ok {n : Nat} {X Y : List P8} (hl : Y.length = X.length) (hL : X.length ≤ 1000000) (hn : X.length < n) (h : ∀ i, i < X.length → ∃ k k' : NL, at8 Y i = wk (at8 X i) k' 0 ∧ at8 X i = wk (at8 X i) k 0 ∧ k.l = k'.l ∧ k.l.length ≤ 1000000 ∧ k.l.length < n) : m_tSq1 n X X.length X.length Y X.length X.length = some true := by
 obtain ⟨r, q1, q2⟩ := hoare (B := B_qFq1_1 n X Y X.length X.length X.length X.length (X.length : Int)) (σ := Unit) (fun _ j => j) (fun _ _ => True) (fun r => r = .inr ()) X.length
  (fun i _ hi _ => by
   refine .inl ⟨(), trivial, ?_⟩
   obtain ⟨k, k', a1, a2, a3, a4, a5⟩ := h i hi
   unfold B_qFq1_1
   dsimp only
   rw [if_pos (by omega), if_pos (by omega), Int.toNat_natCast, if_pos hi]
   show ((some (at8 X i)).bind _) = _
   dsimp only [Option.bind_some]
   rw [if_pos (by omega), if_pos (by omega)]
   show (m_pS1q1 n (at8 X i).1 (at8 X i).2.1 (at8 X i).2.2.1 (at8 X i).2.2.2.1 (at8 X i).2.2.2.2.1 (at8 X i).2.2.2.2.2.1 (at8 X i).2.2.2.2.2.2.1 (at8 X i).2.2.2.2.2.2.2 (at8 Y i).1 (at8 Y i).2.1 (at8 Y i).2.2.1 (at8 Y i).2.2.2.1 (at8 Y i).2.2.2.2.1 (at8 Y i).2.2.2.2.2.1 (at8 Y i).2.2.2.2.2.2.1 (at8 Y i).2.2.2.2.2.2.2).bind _ = _
   rw [sameR a1 a2 a3 a4 a5]
   dsimp only [Option.bind_some]
   rw [if_pos rfl, w64_inc (by omega)])
  (fun _ _ => by
   refine ⟨.inr (), rfl, ?_⟩
   unfold B_qFq1_1
   dsimp only
   rw [if_neg (by omega)])
  n 0 () (Nat.zero_le _) trivial (by omega)
 have q2 : m_qFq1_1 n X Y X.length X.length X.length X.length (X.length : Int) 0 = some r := q2
 unfold m_tSq1 m_pSq1 m_qFq1
 rw [if_pos rfl, q2, q1]
 rfl
/-! nothing is stale where nothing is met -/
theorem rep_set {N i : Nat} : (List.replicate N false).set i false = List.replicate N false := by
 apply List.ext_getElem (by simp)
 intro j h1 h2
 simp [List.getElem_set]
theorem rep_get {N j : Nat} : (List.replicate N false).getD j false = false := by
 rw [List.getD_eq_getElem?_getD, List.getElem?_replicate]
 split <;> rfl
theorem cont0 {n N : Nat} {x : NL} (hx : x.l.length ≤ 1000000) (hn : x.l.length < n) (hk : ∀ v ∈ x.l, 0 ≤ v ∧ v < (N : Int)) : m_cFq1 n x (List.replicate N false) N N = some false := by
 obtain ⟨r, q1, q2⟩ := hoare (B := B_xFq1_1 n (List.replicate N false) N N x (x.l.length : Int)) (σ := Unit) (fun _ j => j) (fun _ _ => True) (fun r => r = .inr ()) x.l.length
  (fun j _ hj _ => by
   refine .inl ⟨(), trivial, ?_⟩
   obtain ⟨h1, h2⟩ := hk _ (getD_mem (d := 0) hj)
   unfold B_xFq1_1 m_treeStale1q1
   dsimp only
   rw [if_pos (by omega), if_pos (by omega), Int.toNat_natCast, if_pos hj]
   dsimp only [Option.bind_some]
   rw [if_pos ⟨h1, h2⟩, if_pos (by rw [List.length_replicate]; omega)]
   dsimp only [Option.bind_some]
   rw [rep_get, if_neg (by decide), w64_inc (by omega)])
  (fun _ _ => by
   refine ⟨.inr (), rfl, ?_⟩
   unfold B_xFq1_1
   dsimp only
   rw [if_neg (by omega)])
  n 0 () (Nat.zero_le _) trivial (by omega)
 have q2 : m_xFq1_1 n (List.replicate N false) N N x (x.l.length : Int) 0 = some r := q2
 unfold m_cFq1 m_xFq1
 rw [q2, q1]
 rfl


/-! TreeClean -/
theorem lightP_ok {n : Nat} (hL : Args.A.length ≤ 1200000 ∨ True) (hn : 200 < n) : ∃ b, m_LPq1 n 120 = some b ∧ (b = true → Args.A.length ≤ 120) := by
 obtain ⟨r, -, h⟩ := whileI (B := B_LPq1_1 n 120) (fun s => ∃ i : Nat, s.2 = i ∧ i ≤ 121) (fun s => 121 - s.2.toNat) (fun r => True)
  (fun s hI => by
   obtain ⟨x, q⟩ := s
   obtain ⟨i, rfl, hi⟩ := hI
   unfold B_LPq1_1
   dsimp only
   by_cases c1 : (i : Int) < ((Args.A.length : Nat) : Int)
   ·rw [if_pos c1]
    by_cases c2 : (i : Int) ≤ 120
    ·rw [if_pos c2, if_pos (by omega), w64_inc (by omega)]
     simp only [Option.bind_some]
     generalize Args.A.getD ((i : Int)).toNat (0, 0, 0, 0, 0, 0, nl0, 0) = p
     by_cases d1 : p.2.2.1 > 1048576
     ·rw [if_pos d1]; exact .inr ⟨_, trivial, rfl⟩
     rw [if_neg d1]
     by_cases d2 : p.2.2.2.2.1 > 1048576
     ·rw [if_pos d2]; exact .inr ⟨_, trivial, rfl⟩
     rw [if_neg d2]
     by_cases d3 : p.2.2.2.2.2.1 > 1048576
     ·rw [if_pos d3]; exact .inr ⟨_, trivial, rfl⟩
     rw [if_neg d3]
     by_cases d4 : p.2.2.1 < -1048576
     ·rw [if_pos d4]; exact .inr ⟨_, trivial, rfl⟩
     rw [if_neg d4]
     by_cases d5 : p.2.2.2.2.1 < -1048576
     ·rw [if_pos d5]; exact .inr ⟨_, trivial, rfl⟩
     rw [if_neg d5]
     by_cases d6 : p.2.2.2.2.2.1 < -1048576
     ·rw [if_pos d6]; exact .inr ⟨_, trivial, rfl⟩
     rw [if_neg d6]
     exact .inl ⟨(_, ((i + 1 : Nat) : Int)), ⟨i + 1, rfl, by omega⟩, by dsimp only; omega, rfl⟩
    ·rw [if_neg c2]; exact .inr ⟨_, trivial, rfl⟩
   ·rw [if_neg c1]; exact .inr ⟨_, trivial, rfl⟩) n (0, 0) ⟨0, rfl, by omega⟩ (by dsimp only; omega)
 unfold m_LPq1 m_LPq1_1
 rw [h]
 rcases r with r | r
 ·exact ⟨_, rfl, fun h => by cases h⟩
 ·dsimp only
  by_cases c1 : ((Args.A.length : Nat) : Int) ≤ 120
  ·rw [if_pos c1]
   split
   ·exact ⟨_, rfl, fun _ => by omega⟩
   ·exact ⟨_, rfl, fun h => by cases h⟩
  ·rw [if_neg c1]; exact ⟨_, rfl, fun h => by cases h⟩

theorem light2 {n : Nat} (hn : 0 < n) : m_LPq2 n 120 = some true := by
 obtain ⟨m, rfl⟩ : ∃ m, n = m + 1 := ⟨n - 1, by omega⟩
 unfold m_LPq2 m_LPq2_1
 rw [iterM_succ]
 unfold B_LPq2_1
 dsimp only [Option.bind_some]
 rw [if_pos (by decide), if_pos (by decide)]
theorem light_tot {n : Nat} (a b c : Int) (hn : 200 < n) : ∃ r, m_liq1 n a b c = some r ∧ (r = true → Args.A.length ≤ 120) := by
 obtain ⟨b1, e1, h1⟩ := lightP_ok (n := n) (.inr trivial) hn
 have hE : ∃ r, m_lEq1 n a b c = some r := by
  unfold m_lEq1
  have two : ∀ (p : Prop) [Decidable p] (x y : Option Bool), (∃ r, x = some r) → (∃ r, y = some r) → ∃ r, (if p then x else y) = some r := fun p _ x y hx hy => by
   by_cases h : p
   ·rw [if_pos h]; exact hx
   ·rw [if_neg h]; exact hy
  repeat' first | exact ⟨_, rfl⟩ | apply two
 obtain ⟨b2, e2⟩ := hE
 unfold m_liq1
 rw [e1]
 dsimp only [Option.bind_some]
 cases b1 with
 | false => exact ⟨false, rfl, fun h => by cases h⟩
 | true =>
  rw [if_pos rfl, light2 (by omega)]
  dsimp only [Option.bind_some]
  rw [if_pos rfl, e2]
  exact ⟨b2, rfl, fun _ => h1 rfl⟩
theorem zB.al {L M : List P8} (h : zB L M) : Al L M := ⟨h.1, fun i hi => by
 obtain ⟨k, e1, e2⟩ := h.2 i hi
 rw [e1]
 exact ⟨rfl, rfl, rfl, rfl, rfl, rfl, e2⟩⟩
theorem stale0 {n : Nat} {M : List P8} (hT : Tree) (hM : zB Args.A M) (hA : Args.A.length ≤ 1000000) (hn : Args.A.length + 1 < n) : m_treeStaleq1 n M Args.A.length Args.A.length = some (List.replicate Args.A.length false) := by
 have hl := hM.1
 have hfew := hT.few
 have hc : m_tCq2 n M M.length Args.A.length = some 0 := by
  rw [check2 (X := Args.A) (hX := Args.hA) (hu := Args.uA) hM.al]
  exact check_ok hT (by omega)
 rw [hl] at hc
 have loop : ∀ (f t : Nat), t ≤ Args.A.length → t < f → iterM (B_bK1q2_1 n Args.A.length Args.A.length M Args.A.length Args.A.length) f (List.replicate Args.A.length false, (t : Int) - 1) = some (List.replicate Args.A.length false) := by
  intro f
  induction f with
  | zero => intro t _ h; exact absurd h (Nat.not_lt_zero _)
  | succ f ih =>
   intro t ht hf
   rw [iterM_succ]
   cases t with
   | zero =>
    unfold B_bK1q2_1
    dsimp only
    rw [if_neg (by omega)]
    rfl
   | succ i =>
    have hi : i < Args.A.length := by omega
    obtain ⟨k, e1, e2⟩ := hM.2 i hi
    have ei : ((i + 1 : Nat) : Int) - 1 = (i : Int) := by omega
    have ew : w64 ((i : Int) - 1) = (i : Int) - 1 := w64_sm (by omega) (by omega)
    have e2 : k.l = kd i := e2
    have hB : B_bK1q2_1 n Args.A.length Args.A.length M Args.A.length Args.A.length (List.replicate Args.A.length false, (i : Int)) = some (.inl (List.replicate Args.A.length false, (i : Int) - 1)) := by
     unfold B_bK1q2_1
     dsimp only
     rw [if_pos (by omega), if_pos (by omega), Int.toNat_natCast, if_pos (by omega)]
     show ((some (at8 M i)).bind _) = _
     dsimp only [Option.bind_some]
     rw [e1]
     unfold m_treeStale_111010y1 wk
     dsimp only
     rw [if_pos rfl, cont0 (N := Args.A.length) (x := k) (by rw [e2]; have := hfew i; omega) (by rw [e2]; have := hfew i; omega) (fun v hv => by
      rw [e2] at hv
      obtain ⟨q, hq, rfl⟩ := mem_getD 0 hv
      obtain ⟨c, g1, g2, g3⟩ := hT.kid hi hq
      rw [g1]; omega)]
     dsimp only [Option.bind_some]
     rw [if_pos (by omega), Int.toNat_natCast, if_pos (by rw [List.length_replicate]; omega), rep_set]
     dsimp only [Option.bind_some]
     rw [ew]
    rw [ei, hB]
    exact ih i (by omega) (by omega)
 unfold m_treeStaleq1 m_bK1q2 m_bK1q2_1
 rw [hc]
 dsimp only [Option.bind_some]
 rw [if_pos rfl, if_pos (by omega), if_pos (by omega), Int.toNat_natCast, show w64 (((Args.A.length : Nat) : Int) - 1) = ((Args.A.length : Nat) : Int) - 1 from w64_sm (by omega) (by omega)]
 have := loop n Args.A.length (Nat.le_refl _) (by omega)
 rw [this]
 rfl
theorem lawL {n : Nat} {bit : Int} {L M : List P8} (h : Rl bit 0 L M) (hA : Args.A.length ≤ 1000000) (hn : Args.A.length < n) : m_V_1 n bit L Args.A.length M Args.A.length (List.replicate Args.A.length false) Args.A.length 0 = some () := by
 obtain ⟨r, q1, q2⟩ := hoare (B := B_V_1 n bit L Args.A.length M Args.A.length (List.replicate Args.A.length false) Args.A.length) (σ := Unit) (fun _ j => j) (fun _ _ => True) (fun r => r = ()) Args.A.length
  (fun i _ hi _ => by
   refine .inl ⟨(), trivial, ?_⟩
   have hlL := h.lL
   have hlM := h.lM
   obtain ⟨k, k', g, a1, a2, a3, a4, a5, a6⟩ := h.row i hi
   have qL : (at8 L i).2.2.2.2.2.2.2 = metF i := by rw [a2]; rfl
   have qM : (at8 M i).2.2.2.2.2.2.2 = g := by rw [a1]; rfl
   unfold B_V_1
   dsimp only
   rw [if_pos (by omega), if_pos (by omega), Int.toNat_natCast, if_pos (by rw [List.length_replicate]; omega), rep_get]
   dsimp only [Option.bind_some]
   rw [if_neg (by decide), if_pos (by omega), if_pos (by omega), if_pos (by omega)]
   show (if (at8 L i).2.2.2.2.2.2.2 = metF i then (if 0 ≤ (i : Int) ∧ (i : Int) < ((Args.A.length : Nat) : Int) then (if i < M.length then (if (at8 M i).2.2.2.2.2.2.2 = metF i then (some (.inl (w64 ((i : Int) + 1))) : Option (Int ⊕ Unit)) else if (at8 M i).2.2.2.2.2.2.2 = bOr .u64 (metF i) bit then some (.inl (w64 ((i : Int) + 1))) else none) else none) else none) else none) = _
   rw [qL, qM, if_pos rfl, if_pos (by omega), if_pos (by omega), w64_inc (by omega)]
   by_cases c : g = metF i
   ·rw [if_pos c]
   ·rw [if_neg c, if_pos (a5.resolve_left c)])
  (fun _ _ => by
   refine ⟨(), rfl, ?_⟩
   unfold B_V_1
   dsimp only
   rw [if_neg (by omega)])
  n 0 () (Nat.zero_le _) trivial (by omega)
 exact q2
def z0 (L : List P8) : List P8 := L.map fun r => wk r r.2.2.2.2.2.2.1 0
theorem z0_al {L M : List P8} (hl : M.length = L.length) (h : ∀ i, i < L.length → (at8 M i).1 = (at8 L i).1 ∧ (at8 M i).2.1 = (at8 L i).2.1 ∧ (at8 M i).2.2.1 = (at8 L i).2.2.1 ∧ (at8 M i).2.2.2.1 = (at8 L i).2.2.2.1 ∧ (at8 M i).2.2.2.2.1 = (at8 L i).2.2.2.2.1 ∧ (at8 M i).2.2.2.2.2.1 = (at8 L i).2.2.2.2.2.1 ∧ kl (at8 M i) = kl (at8 L i)) : Al (z0 L) M := by
 have hz : (z0 L).length = L.length := by unfold z0; rw [List.length_map]
 refine ⟨by rw [hz, hl], fun i hi => ?_⟩
 rw [hz] at hi
 have : at8 (z0 L) i = wk (at8 L i) (at8 L i).2.2.2.2.2.2.1 0 := by
  unfold at8 z0
  simp [List.getD_eq_getElem?_getD, hi]
 rw [this]
 exact h i hi
theorem z0_u {L : List P8} : ∀ x ∈ z0 L, 0 ≤ x.2.2.2.2.2.2.2 ∧ x.2.2.2.2.2.2.2 < 18446744073709551616 := fun x hx => by
 unfold z0 at hx
 obtain ⟨r, -, rfl⟩ := List.mem_map.1 hx
 exact ⟨Int.le_refl _, (by decide : (0 : Int) < 18446744073709551616)⟩
theorem checks {n : Nat} {bit : Int} {L M : List P8} (h : Rl bit 0 L M) (hA : Args.A.length ≤ 1000000) (hn : Args.A.length < n) : ∃ c, m_tCq2 n L Args.A.length Args.A.length = some c ∧ m_tCq2 n M Args.A.length Args.A.length = some c := by
 have hlL := h.lL
 have hlM := h.lM
 have hz : (z0 L).length = Args.A.length := by unfold z0; rw [List.length_map, hlL]
 have aL : Al (z0 L) L := z0_al rfl fun i hi => ⟨rfl, rfl, rfl, rfl, rfl, rfl, rfl⟩
 have aM : Al (z0 L) M := z0_al (by omega) fun i hi => by
  obtain ⟨k, k', g, a1, a2, a3, a4, a5, a6⟩ := h.row i (by omega)
  exact wk_eq a1 a2 (by rw [a3, a4])
 have hX : (z0 L).length ≤ 9223372036854775807 := by omega
 obtain ⟨c, e, -⟩ := @prgCheck (withZ (z0 L) hX z0_u) n (by show (z0 L).length < n; omega) (by show (z0 L).length ≤ _; omega)
 refine ⟨c, ?_, ?_⟩
 ·rw [← e, ← check2 (c := Args.A.length) aL, hlL]
 ·rw [← e, ← check2 (c := Args.A.length) aM, hlM]
theorem treeClean_true (g10 g11 g12 g2 : Int) : ∃ n, m_V n g10 g11 g12 g2 = some () := by
 refine ⟨3000 + Args.A.length, ?_⟩
 generalize hn : 3000 + Args.A.length = n
 unfold m_V m_viewportlaw16lives
 dsimp only [Option.bind_some]
 obtain ⟨b, e1, h1⟩ := light_tot (n := n) g10 g11 g12 (by omega)
 rw [e1]
 dsimp only [Option.bind_some]
 cases b with
 | false => rw [if_neg (by decide)]
 | true =>
  have hL := h1 rfl
  rw [if_pos rfl]
  obtain ⟨c, e2, h2⟩ := prgCheck (n := n) (by omega) (by omega)
  rw [e2]
  dsimp only [Option.bind_some]
  by_cases c0 : ¬ c = 0
  ·rw [if_neg c0]
  obtain rfl := Decidable.not_not.1 c0
  have hT := h2 rfl
  have hpos := hT.pos
  rw [if_pos rfl]
  by_cases d1 : g10 < 0
  ·rw [if_pos d1]
  by_cases d2 : g11 < 0
  ·rw [if_neg d1, if_pos d2]
  by_cases d3 : g12 < 0
  ·rw [if_neg d1, if_neg d2, if_pos d3]
  rw [if_neg d1, if_neg d2, if_neg d3]
  obtain ⟨L, M, f1, f2, hR⟩ := edit_ok (n := n) (e1 := g10) (e2 := g11) (e3 := g12) (bit := g2) hT (by omega) (by omega) d1 d2 d3
  obtain ⟨Z, f3, hZ⟩ := bare1_ok (n := n) hT (by omega) (by omega)
  obtain ⟨c, k1, k2⟩ := checks (n := n) hR (by omega) (by omega)
  have hlL := hR.lL
  have hlM := hR.lM
  have hfew := hT.few
  have hLaw := lawL (n := n) hR (by omega) (by omega)
  have kb : ∀ X : List P8, (∀ i, i < Args.A.length → kl (at8 X i) = kd i) → ∀ i, i < Args.A.length → (kl (at8 X i)).length ≤ 1000000 ∧ (kl (at8 X i)).length < n := fun X hX i hi => by
   rw [hX i hi]; have := hfew i; omega
  have kL : ∀ i, i < Args.A.length → kl (at8 L i) = kd i := fun i hi => by
   obtain ⟨k, k', g, a1, a2, a3, a4, a5, a6⟩ := hR.row i hi
   rw [a2]; exact a3
  have kM : ∀ i, i < Args.A.length → kl (at8 M i) = kd i := fun i hi => by
   obtain ⟨k, k', g, a1, a2, a3, a4, a5, a6⟩ := hR.row i hi
   rw [a1]; exact a4
  rw [f1]
  dsimp only [Option.bind_some]
  rw [f2]
  dsimp only [Option.bind_some]
  rw [f3]
  dsimp only
  rw [stale0 hT hZ (by omega) (by omega)]
  dsimp only [Option.bind_some]
  rw [if_pos rfl, if_pos rfl, if_pos (by omega), Int.toNat_natCast]
  have bL := bare2_ok (n := n) (L := L) (c := c) (by omega) (by omega) (fun i hi => kb L kL i (by omega)) (by omega) (by rw [hlL]; exact k1)
  have bM := bare2_ok (n := n) (L := M) (c := c) (by omega) (by omega) (fun i hi => kb M kM i (by omega)) (by omega) (by rw [hlM]; exact k2)
  rw [hlL] at bL
  rw [hlM] at bM
  by_cases hc : c = 0
  ·rcases bL with ⟨h, -⟩ | ⟨-, X, g1, g2⟩
   ·exact absurd hc h
   rcases bM with ⟨h, -⟩ | ⟨-, Y, g3, g4⟩
   ·exact absurd hc h
   have lX : X.length = Args.A.length := by rw [g2.1, hlL]
   have lY : Y.length = Args.A.length := by rw [g4.1, hlM]
   have hs := same_ok (n := n) (X := X) (Y := Y) (by omega) (by omega) (by omega) (fun i hi => by
    obtain ⟨k, k', g, a1, a2, a3, a4, a5, a6⟩ := hR.row i (by omega)
    obtain ⟨u, x1, x2⟩ := g2.2 i (by omega)
    obtain ⟨v, y1, y2⟩ := g4.2 i (by omega)
    rw [kL i (by omega)] at x2
    rw [kM i (by omega)] at y2
    refine ⟨u, v, ?_, ?_, by rw [x2, y2], by rw [x2]; have := hfew i; omega, by rw [x2]; have := hfew i; omega⟩
    ·rw [y1, x1, a1]; rfl
    ·rw [x1]; rfl)
   rw [lX] at hs
   rw [g1]
   dsimp only
   rw [g3]
   dsimp only
   rw [hs]
   dsimp only [Option.bind_some]
   rw [if_pos rfl, hLaw]
   rfl
  ·have g1 := bL.elim (fun h => h.2) (fun h => absurd h.1 hc)
   have g2 := bM.elim (fun h => h.2) (fun h => absurd h.1 hc)
   rw [g1]
   dsimp only
   rw [g2]
   dsimp only
   have h4 : m_tSq4 n = some () := by
    obtain ⟨m, rfl⟩ : ∃ m, n = m + 1 := ⟨n - 1, by omega⟩
    rfl
   rw [h4]
   dsimp only [Option.bind_some]
   rw [hLaw]
   rfl

end Go.Proofs.Ytoebdapeikdmjaa.tcl16
