/-
  The pure side. No condition.
-/
import Derived.Test.YteefneejedljmaaRtkPure
import Derived.IntWalk
set_option linter.unusedSimpArgs false
set_option linter.unusedVariables false
set_option linter.unusedSectionVars false
set_option linter.unnecessarySimpa false
namespace Go.Proofs.Yteefneejedljmaa.rtk
open Go Go.Proofs.Yteefneejedljmaa Ax
variable [Args]


/-! the document's Check of rows of one's own is that of a window with these rows -/
@[reducible] def withA (L : List P8) (h : L.length ≤ 9223372036854775807) : Args := { toNest := inferInstance, A := L, bA := 0, dA := 0, cA := 0, hA := h }
theorem endW {L : List P8} (h : L.length ≤ 9223372036854775807) : ∀ (n : Nat) (x : Int), m_Rendq2 n L x = @m_Rendq1 (withA L h) n x
 | 0, x => rfl
 | n + 1, x => by
  have ih : (fun x => m_Rendq2 n L x) = @m_Rendq1 (withA L h) n := funext (endW h n)
  show s_Rendq2 (m_Rendq2 n) n L x = @s_Rendq1 (withA L h) (@m_Rendq1 (withA L h) n) n x
  rw [← ih]
  rfl
theorem checkW {L : List P8} (h : L.length ≤ 9223372036854775807) (n : Nat) : m_RCheckq2 n L = @m_RCheckq1 (withA L h) n := by
 unfold m_RCheckq2 m_RCheckq1
 rw [endW h]
 rfl


/-! a part and everything inside it is handed over in order: the first that is meant -/
def fh (p : Nat → Bool) : Nat → Nat → Option Nat
 | _, 0 => none
 | a, n + 1 => if p a = true then some a else fh p (a + 1) n
theorem fh_add {p : Nat → Bool} : ∀ (n m a : Nat), fh p a (n + m) = match fh p a n with | some c => some c | none => fh p (a + n) m
 | 0, m, a => by rw [Nat.zero_add]; rfl
 | n + 1, m, a => by
  rw [show n + 1 + m = (n + m) + 1 by omega]
  show (if p a = true then some a else fh p (a + 1) (n + m)) = match (if p a = true then some a else fh p (a + 1) n) with | some c => some c | none => fh p (a + (n + 1)) m
  by_cases h : p a = true
  ·rw [if_pos h, if_pos h]
  ·rw [if_neg h, if_neg h, fh_add n m (a + 1), show a + 1 + n = a + (n + 1) by omega]
def oR : Option Nat → Int ⊕ Unit
 | some c => .inl (c : Int)
 | none => .inr ()
def hit (s t : Int) (j : Nat) : Bool := decide (((pt j).2.1 = 1 ∨ (pt j).2.1 = 2) ∧ (pt j).1 = s ∧ (pt j).2.2.1 = t)
theorem find1 {n j : Nat} {s t z : Int} {b : Bool} (hj : j < Args.A.length) : m_treeFind_11010y1 n s t z b 0 (j : Int) = some (if hit s t j = true then .inl () else .inr ()) := by
 unfold m_treeFind_11010y1 m_pIq1
 rw [if_pos (by omega), Int.toNat_natCast]
 show ((some (pt j)).bind _) = _
 dsimp only [Option.bind_some]
 unfold hit
 by_cases c1 : (pt j).2.1 = 1
 ·rw [if_pos c1]
  dsimp only [Option.bind_some]
  rw [if_pos rfl]
  by_cases c2 : (pt j).1 = s
  ·rw [if_pos c2]
   by_cases c3 : (pt j).2.2.1 = t
   ·rw [if_pos c3, if_pos (by simp [c1, c2, c3])]
   ·rw [if_neg c3, if_neg (by simp [c3])]
  ·rw [if_neg c2, if_neg (by simp [c2])]
 ·rw [if_neg c1]
  by_cases c0 : (pt j).2.1 = 2
  ·rw [if_pos c0]
   dsimp only [Option.bind_some]
   rw [if_pos rfl]
   by_cases c2 : (pt j).1 = s
   ·rw [if_pos c2]
    by_cases c3 : (pt j).2.2.1 = t
    ·rw [if_pos c3, if_pos (by simp [c0, c2, c3])]
    ·rw [if_neg c3, if_neg (by simp [c3])]
   ·rw [if_neg c2, if_neg (by simp [c2])]
  ·rw [if_neg c0]
   dsimp only [Option.bind_some]
   rw [if_neg (by decide), if_neg (by simp [c1, c0])]
theorem visit1 {s t z : Int} {b : Bool} {m j e : Nat} {f : Nat → Prop} (hj : j < Args.A.length) (he : j + 1 ≤ e)
  (hr : iterM (B_viq1_1 (m_viq1 m) m s t z b 0 (pt j).2.2.2.2.2.2.1 ((kd j).length : Int)) m 0 = some (oR (fh (hit s t) (j + 1) (e - (j + 1))))) :
  m_viq1 (m + 1) (j : Int) s t z b 0 = some (oR (fh (hit s t) j (e - j))) := by
 show s_viq1 (m_viq1 m) m (j : Int) s t z b 0 = _
 unfold s_viq1 m_viq1_1
 rw [find1 hj, show e - j = (e - (j + 1)) + 1 by omega]
 show _ = some (oR (if hit s t j = true then some j else fh (hit s t) (j + 1) (e - (j + 1))))
 by_cases c : hit s t j = true
 ·rw [if_pos c, if_pos c]; rfl
 ·rw [if_neg c, if_neg c]
  dsimp only
  rw [if_pos (by omega), Int.toNat_natCast]
  show ((some (pt j)).bind _) = _
  dsimp only [Option.bind_some]
  show (match iterM (B_viq1_1 (m_viq1 m) m s t z b 0 (pt j).2.2.2.2.2.2.1 ((kd j).length : Int)) m 0 with | none => (none : Option (Int ⊕ Unit)) | some (.inl c4_) => some (Sum.inl c4_) | some (.inr _) => some (Sum.inr ())) = _
  rw [hr]
  cases fh (hit s t) (j + 1) (e - (j + 1)) <;> rfl
theorem Ks.vis {K i k next e : Nat} {a s t z : Int} {b : Bool} (hK : ∀ j, (kd j).length ≤ K) (h : Ks i k next a e) : i < next → i < Args.A.length → ∀ n f, Args.A.length - i + K + 9 < n → (kd i).length - k < f → iterM (B_viq1_1 (m_viq1 n) n s t z b 0 (pt i).2.2.2.2.2.2.1 ((kd i).length : Int)) f (k : Int) = some (oR (fh (hit s t) next (e - next))) := by
 induction h with
 | @done i k next a hk ha =>
  intro hin hi n f hn hf
  obtain ⟨f, rfl⟩ : ∃ g, f = g + 1 := ⟨f - 1, by omega⟩
  rw [iterM_succ, Nat.sub_self]
  unfold B_viq1_1
  dsimp only
  rw [if_neg (by omega)]
  rfl
 | @kid i k next e' e a hk hv hn' ha h1 h2 ih1 ih2 =>
  intro hin hi n f hn hf
  obtain ⟨f, rfl⟩ : ∃ g, f = g + 1 := ⟨f - 1, by omega⟩
  have hkl := kd_le i
  have l1 := h1.lt
  have l2 := h2.lt
  obtain ⟨m, rfl⟩ : ∃ m, n = m + 1 := ⟨n - 1, by omega⟩
  have e1 := visit1 (s := s) (t := t) (z := z) (b := b) (f := fun _ => True) hn' l1 (ih1 (by omega) hn' m m (by omega) (by have := hK next; omega))
  have hB : B_viq1_1 (m_viq1 (m + 1)) (m + 1) s t z b 0 (pt i).2.2.2.2.2.2.1 ((kd i).length : Int) (k : Int) = match fh (hit s t) next (e' - next) with | some c => some (.inr (.inl (c : Int))) | Option.none => some (.inl ((k + 1 : Nat) : Int)) := by
   unfold B_viq1_1
   dsimp only
   rw [if_pos (by omega)]
   show (if 0 ≤ (k : Int) ∧ (k : Int) < ((kd i).length : Int) then (if (k : Int).toNat < (kd i).length then (some ((kd i).getD (k : Int).toNat 0)).bind _ else _) else _) = _
   rw [if_pos (by omega), Int.toNat_natCast, if_pos hk, hv]
   dsimp only [Option.bind_some]
   rw [e1, w64_inc' (by omega)]
   cases fh (hit s t) next (e' - next) <;> rfl
  rw [iterM_succ, hB, show e - next = (e' - next) + (e - e') by omega, fh_add, show next + (e' - next) = e' by omega]
  cases hq : fh (hit s t) next (e' - next) with
  | some c => rfl
  | none => exact ih2 (by omega) hi (m + 1) f hn (by omega)


/-! a part with its kids' places less z -/
theorem extD {L M : List Int} (hl : L.length = M.length) (h : ∀ j, j < M.length → L.getD j 0 = M.getD j 0) : L = M := by
 apply List.ext_getElem hl
 intro j h1 h2
 have := h j h2
 simpa [List.getD_eq_getElem?_getD, h1, h2] using this
theorem sub1 {n : Nat} {v z : Int} : m_treeSub1q2 n v [z] = some (w64 (v - z)) := by
 unfold m_treeSub1q2
 rw [if_pos (by simp)]
 rfl
def shf (z : Int) (l : List Int) : List Int := l.map fun v => w64 (v - z)
theorem shf_get {z : Int} {l : List Int} {j : Nat} (h : j < l.length) : (shf z l).getD j 0 = w64 (l.getD j 0 - z) := by
 unfold shf
 simp [List.getD_eq_getElem?_getD, h]
theorem eachS {n : Nat} {x : NL} {z : Int} (hx : x.l.length ≤ 1000000) (hn : x.l.length < n) : m_eIq1 n x z = some (if x.l = [] then .inl () else .inr (shf z x.l, x.l.length)) := by
 unfold m_eIq1
 by_cases h0 : x.l = []
 ·rw [if_pos h0, if_pos (by rw [h0]; rfl)]
 ·have hp : 0 < x.l.length := List.length_pos_iff.2 h0
  rw [if_neg h0, if_neg (by omega), if_pos (by omega), if_pos (by omega), Int.toNat_natCast]
  obtain ⟨r, q1, q2⟩ := hoare (B := B_eIq1_1 n [z] x.l.length x (x.l.length : Int)) (σ := List Int) (fun L i => (L, i)) (fun i L => L.length = x.l.length ∧ ∀ j, j < i → L.getD j 0 = w64 (x.l.getD j 0 - z)) (fun r => r = shf z x.l) x.l.length
   (fun i L hi hI => by
    obtain ⟨hL, hI⟩ := hI
    refine .inl ⟨L.set i (w64 (x.l.getD i 0 - z)), ⟨by rw [List.length_set, hL], fun j hj => ?_⟩, ?_⟩
    ·rw [getD_set (by omega)]
     by_cases e : j = i
     ·rw [if_pos e, e]
     ·rw [if_neg e]; exact hI j (by omega)
    ·unfold B_eIq1_1
     dsimp only
     rw [if_pos (by omega), if_pos (by omega), Int.toNat_natCast, if_pos hi]
     dsimp only [Option.bind_some]
     rw [sub1]
     dsimp only [Option.bind_some]
     rw [if_pos (by omega), if_pos (by omega), w64_inc (by omega)])
   (fun L hI => by
    refine ⟨L, extD (by rw [hI.1]; simp [shf]) (fun j hj => by
     have hj : j < x.l.length := by simpa [shf] using hj
     rw [hI.2 j hj, shf_get hj]), ?_⟩
    unfold B_eIq1_1
    dsimp only
    rw [if_neg (by omega)])
   n 0 (List.replicate x.l.length 0) (Nat.zero_le _) ⟨List.length_replicate, fun j hj => by omega⟩ (by omega)
  have q2 : m_eIq1_1 n [z] x.l.length x (x.l.length : Int) (List.replicate x.l.length 0, 0) = some r := q2
  rw [q2, q1]
  rfl
theorem movedS {n : Nat} (a0 a1 a2 a3 a4 a5 : Int) {x : NL} (a7 z : Int) (hx : x.l.length ≤ 1000000) (hn : x.l.length < n) : ∃ k, m_treemovedq1 n a0 a1 a2 a3 a4 a5 x a7 z = some k ∧ k.l = shf z x.l := by
 unfold m_treemovedq1
 rw [eachS hx hn]
 by_cases h0 : x.l = []
 ·rw [if_pos h0]
  exact ⟨nl0, rfl, by rw [h0]; rfl⟩
 ·rw [if_neg h0]
  dsimp only
  have hl : (shf z x.l).length = x.l.length := by simp [shf]
  rw [if_pos hl.symm, dif_pos (by omega)]
  exact ⟨_, rfl, rfl⟩
/-- rows of the part i and what is inside it, up to c, kids' places less z -/
structure Sb (z : Int) (i c : Nat) (L : List P8) : Prop where
 len : L.length = c - i
 row : ∀ j, i ≤ j → j < c → ∃ k : NL, L.getD (j - i) (0, 0, 0, 0, 0, 0, nl0, 0) = ((pt j).1, (pt j).2.1, (pt j).2.2.1, (pt j).2.2.2.1, (pt j).2.2.2.2.1, (pt j).2.2.2.2.2.1, k, (pt j).2.2.2.2.2.2.2) ∧ k.l = shf z (kd j)
theorem snocD {α : Type} {L : List α} {x d : α} {j : Nat} : (L ++ [x]).getD j d = if j < L.length then L.getD j d else if j = L.length then x else d := by
 simp only [List.getD_eq_getElem?_getD]
 by_cases h : j < L.length
 ·rw [if_pos h, List.getElem?_append_left h]
 ·rw [if_neg h, List.getElem?_append_right (by omega)]
  by_cases e : j = L.length
  ·rw [if_pos e, e, Nat.sub_self]; rfl
  ·rw [if_neg e, List.getElem?_eq_none (by simp; omega)]; rfl
theorem add2 {n i j : Nat} {L : List P8} {z s : Int} (hi : i ≤ j) (hj : j < Args.A.length) (hA : Args.A.length ≤ 1000000) (hk : (kd j).length ≤ 1000000) (hn : (kd j).length < n) (hL : Sb z i j L) : ∃ M, m_treeSub_111010y2 n z L s (j : Int) = some M ∧ Sb z i (j + 1) M := by
 obtain ⟨k, e1, e2⟩ := movedS (n := n) (pt j).1 (pt j).2.1 (pt j).2.2.1 (pt j).2.2.2.1 (pt j).2.2.2.2.1 (pt j).2.2.2.2.2.1 (x := (pt j).2.2.2.2.2.2.1) (pt j).2.2.2.2.2.2.2 z hk hn
 refine ⟨L ++ [((pt j).1, (pt j).2.1, (pt j).2.2.1, (pt j).2.2.2.1, (pt j).2.2.2.2.1, (pt j).2.2.2.2.2.1, k, (pt j).2.2.2.2.2.2.2)], ?_, ⟨by rw [List.length_append, hL.len]; simp; omega, fun q h1 h2 => ?_⟩⟩
 ·unfold m_treeSub_111010y2
  rw [if_pos (by omega), Int.toNat_natCast]
  show ((some (pt j)).bind _) = _
  dsimp only [Option.bind_some]
  rw [e1]
  dsimp only [Option.bind_some]
  rw [if_pos (by rw [hL.len]; omega)]
 ·rw [snocD, hL.len]
  by_cases c : q < j
  ·rw [if_pos (by omega)]; exact hL.row q h1 c
  ·obtain rfl : q = j := by omega
   rw [if_neg (by omega), if_pos rfl]
   exact ⟨k, rfl, e2⟩


/-! Sub gathers a part and everything inside it -/
theorem Ks.col {K i k next e i0 : Nat} {a z s : Int} (hA : Args.A.length ≤ 1000000) (hK : ∀ j, (kd j).length ≤ K) (hK1 : K ≤ 1000000) (h : Ks i k next a e) : i < next → i < Args.A.length → i0 ≤ next → ∀ n f (L : List P8), Args.A.length - i + K + 9 < n → (kd i).length - k < f → Sb z i0 next L → ∃ M, iterM (B_viq3_1 (m_viq3 n) n z s (pt i).2.2.2.2.2.2.1 ((kd i).length : Int)) f (L, (k : Int)) = some M ∧ Sb z i0 e M := by
 induction h with
 | @done i k next a hk ha =>
  intro hin hi h0 n f L hn hf hL
  obtain ⟨f, rfl⟩ : ∃ g, f = g + 1 := ⟨f - 1, by omega⟩
  refine ⟨L, ?_, hL⟩
  rw [iterM_succ]
  unfold B_viq3_1
  dsimp only
  rw [if_neg (by omega)]
  rfl
 | @kid i k next e' e a hk hv hn' ha h1 h2 ih1 ih2 =>
  intro hin hi h0 n f L hn hf hL
  obtain ⟨f, rfl⟩ : ∃ g, f = g + 1 := ⟨f - 1, by omega⟩
  have hkl := hK next
  have l1 := h1.lt
  have l2 := h2.lt
  obtain ⟨m, rfl⟩ : ∃ m, n = m + 1 := ⟨n - 1, by omega⟩
  obtain ⟨L1, g1, hL1⟩ := add2 (n := m) (s := s) h0 hn' hA (by omega) (by omega) hL
  obtain ⟨M, g2, hM⟩ := ih1 (by omega) hn' (by omega) m m L1 (by omega) (by omega) hL1
  have hrec : m_viq3 (m + 1) (next : Int) z L s = some M := by
   show s_viq3 (m_viq3 m) m (next : Int) z L s = _
   unfold s_viq3 m_viq3_1
   rw [g1]
   dsimp only [Option.bind_some]
   rw [if_pos (by omega), Int.toNat_natCast]
   show ((iterM (B_viq3_1 (m_viq3 m) m z s (pt next).2.2.2.2.2.2.1 ((kd next).length : Int)) m (L1, ((0 : Nat) : Int))).bind _) = _
   rw [g2]
   rfl
  have hki := hK i
  obtain ⟨M', g3, hM'⟩ := ih2 (by omega) hi (by omega) (m + 1) f M hn (by omega) hM
  refine ⟨M', ?_, hM'⟩
  have hB : B_viq3_1 (m_viq3 (m + 1)) (m + 1) z s (pt i).2.2.2.2.2.2.1 ((kd i).length : Int) (L, (k : Int)) = some (.inl (M, ((k + 1 : Nat) : Int))) := by
   unfold B_viq3_1
   dsimp only
   rw [if_pos (by omega)]
   show (if 0 ≤ (k : Int) ∧ (k : Int) < ((kd i).length : Int) then (if (k : Int).toNat < (kd i).length then (some ((kd i).getD (k : Int).toNat 0)).bind _ else _) else _) = _
   rw [if_pos (by omega), Int.toNat_natCast, if_pos hk, hv]
   dsimp only [Option.bind_some]
   rw [hrec, w64_inc' (by omega)]
   rfl
  rw [iterM_succ, hB]
  exact g3
theorem sub2 {K n i e : Nat} {s : Int} (hA : Args.A.length ≤ 1000000) (hK : ∀ j, (kd j).length ≤ K) (hK1 : K ≤ 1000000) (h : Ks i 0 (i + 1) (atF i) e) (hi : i < Args.A.length) (hn : Args.A.length + K + 20 < n) : ∃ M, m_viq2 n (i : Int) s (i : Int) = some M ∧ Sb s i e M := by
 have hki := hK i
 obtain ⟨k, e1, e2⟩ := movedS (n := n) (pt i).1 (pt i).2.1 (pt i).2.2.1 (pt i).2.2.2.1 (pt i).2.2.2.2.1 (pt i).2.2.2.2.2.1 (x := (pt i).2.2.2.2.2.2.1) (pt i).2.2.2.2.2.2.2 s (show (kd i).length ≤ 1000000 by omega) (show (kd i).length < n by omega)
 have hS : Sb s i (i + 1) [((pt i).1, (pt i).2.1, (pt i).2.2.1, (pt i).2.2.2.1, (pt i).2.2.2.2.1, (pt i).2.2.2.2.2.1, k, (pt i).2.2.2.2.2.2.2)] := ⟨by simp, fun j h1 h2 => by
  obtain rfl : j = i := by omega
  rw [Nat.sub_self]
  exact ⟨k, rfl, e2⟩⟩
 obtain ⟨M, g, hM⟩ := h.col (s := (i : Int)) hA hK hK1 (by omega) hi (by omega) n n _ (by omega) (by omega) hS
 refine ⟨M, ?_, hM⟩
 have hy : m_treeSub_111010y1 n s (i : Int) (i : Int) = some ((pt i).1, (pt i).2.1, (pt i).2.2.1, (pt i).2.2.2.1, (pt i).2.2.2.2.1, (pt i).2.2.2.2.2.1, k, (pt i).2.2.2.2.2.2.2) := by
  unfold m_treeSub_111010y1
  rw [if_pos (by omega), Int.toNat_natCast]
  show ((some (pt i)).bind _) = _
  dsimp only [Option.bind_some]
  rw [e1]
  rfl
 unfold m_viq2 m_viq2_1
 rw [hy]
 dsimp only [Option.bind_some]
 rw [if_pos (by omega), Int.toNat_natCast]
 show ((iterM (B_viq3_1 (m_viq3 n) n s (i : Int) (pt i).2.2.2.2.2.2.1 ((kd i).length : Int)) n (_, ((0 : Nat) : Int))).bind _) = _
 rw [g]
 rfl


/-! what Sub gives is a tree -/
theorem sb_pt {i E j : Nat} {M : List P8} {h : M.length ≤ 9223372036854775807} (hS : Sb (i : Int) i E M) (h1 : i ≤ j) (h2 : j < E) : @kd (withA M h) (j - i) = shf (i : Int) (kd j) ∧ @atF (withA M h) (j - i) = atF j ∧ @toF (withA M h) (j - i) = toF j := by
 obtain ⟨k, e1, e2⟩ := hS.row j h1 h2
 have e : @pt (withA M h) (j - i) = ((pt j).1, (pt j).2.1, (pt j).2.2.1, (pt j).2.2.2.1, (pt j).2.2.2.2.1, (pt j).2.2.2.2.2.1, k, (pt j).2.2.2.2.2.2.2) := e1
 refine ⟨?_, ?_, ?_⟩
 ·unfold kd; rw [e]; exact e2
 ·unfold atF; rw [e]
 ·unfold toF; rw [e]
theorem Ks.shift {i E p k next e : Nat} {a : Int} {M : List P8} {h : M.length ≤ 9223372036854775807} (hS : Sb (i : Int) i E M) (hE : E ≤ Args.A.length) (hA : Args.A.length ≤ 1000000) (hk : Ks p k next a e) : i ≤ p → p < E → e ≤ E → i ≤ next → @Ks (withA M h) (p - i) k (next - i) a (e - i) := by
 induction hk with
 | @done p k next a hk ha =>
  intro h1 h2 h3 h4
  obtain ⟨g1, g2, g3⟩ := sb_pt (h := h) hS h1 h2
  exact @Ks.done (withA M h) _ _ _ _ (by rw [g1, hk]; simp [shf]) (by rw [g3]; exact ha)
 | @kid p k next e' e a hk hv hn ha c1 c2 ih1 ih2 =>
  intro h1 h2 h3 h4
  have l1 := c1.lt
  have l2 := c2.lt
  obtain ⟨g1, g2, g3⟩ := sb_pt (h := h) hS h1 h2
  obtain ⟨f1, f2, f3⟩ := sb_pt (h := h) hS h4 (show next < E by omega)
  have q1 := ih1 h4 (by omega) (by omega) (by omega)
  have q2 := ih2 h1 h2 h3 (by omega)
  refine @Ks.kid (withA M h) _ _ _ (e' - i) _ _ ?_ ?_ ?_ ?_ ?_ ?_
  ·rw [g1]; simpa [shf] using hk
  ·rw [g1, shf_get hk, hv, w64_sm (by omega) (by omega)]; omega
  ·show next - i < M.length
   rw [hS.len]; omega
  ·rw [f2]; exact ha
  ·rw [f2, show next - i + 1 = next + 1 - i by omega]; exact q1
  ·rw [f3]; exact q2


/-! a part that may be is told so by the document -/
theorem bare_true (n : Nat) (a0 a1 a2 a3 a4 a5 : Int) (a6 : NL) (a7 : Int) (h : SP a1 a2 a3 a4 a5 a6.l.length) : m_Rbareq1 n a0 a1 a2 a3 a4 a5 a6 a7 = some true := by
 obtain ⟨h1, h2, h3, h4, h5, h6, h7, h8, h9⟩ := h
 unfold m_Rbareq1
 rw [if_neg (by omega), if_neg (by omega), if_neg (by omega), if_neg (by omega), if_neg (by omega)]
 have hc : a1 = 1 ∨ a1 = 2 ∨ a1 = 3 ∨ a1 = 4 ∨ a1 = 5 ∨ a1 = 6 := by omega
 rcases hc with rfl | rfl | rfl | rfl | rfl | rfl
 ·have g := h7 (by omega)
  simp only [leaf_ok, Option.bind_some, Int.reduceEq, reduceIte, g, Bool.false_eq_true]
 ·have g := h7 (by omega)
  simp only [leaf_ok, Option.bind_some, Int.reduceEq, reduceIte, g, Bool.false_eq_true]
 ·have g := h6 (by omega)
  have l := h9 (by omega) (by omega)
  simp only [leaf_ok, Option.bind_some, Int.reduceEq, reduceIte, if_neg (show ¬ a3 < a2 by omega), if_neg (show ¬ a3 > a4 by omega), l]
  rfl
 ·have g := h7 (by omega)
  have g8 := h8 rfl
  have l := h9 (by omega) (by omega)
  simp only [leaf_ok, Option.bind_some, Int.reduceEq, reduceIte, g, g8, l]
  rfl
 ·have g := h6 (by omega)
  have l := h9 (by omega) (by omega)
  simp only [leaf_ok, Option.bind_some, Int.reduceEq, reduceIte, if_neg (show ¬ a3 < a2 by omega), if_neg (show ¬ a3 > a4 by omega), l]
  rfl
 ·have g := h6 (by omega)
  have l := h9 (by omega) (by omega)
  simp only [leaf_ok, Option.bind_some, Int.reduceEq, reduceIte, if_neg (show ¬ a3 < a2 by omega), if_neg (show ¬ a3 > a4 by omega), l]
  rfl


/-! the document's Check of what Sub gives -/
theorem checkM {n K i E : Nat} {M : List P8} (h : M.length ≤ 9223372036854775807) (hT : Tree) (hA : Args.A.length ≤ 1000000) (hK : ∀ j, (kd j).length ≤ K) (hS : Sb (i : Int) i E M) (hi : i < E) (hE : E ≤ Args.A.length) (hk : Ks i 0 (i + 1) (atF i) E) (hn : Args.A.length + K + 20 < n) : @m_RCheckq1 (withA M h) n = some 0 := by
 have hl := hS.len
 have hmax := hT.max
 have hl2 : (@Args.A (withA M h)).length = M.length := rfl
 obtain ⟨r, q1, q2⟩ := hoare (B := @B_RCheckq1_1 (withA M h) n) (σ := Unit) (fun _ i => i) (fun _ _ => True) (fun r => r = .inr ()) M.length
  (fun j _ hj _ => by
   refine .inl ⟨(), trivial, ?_⟩
   obtain ⟨k, e1, e2⟩ := hS.row (i + j) (by omega) (by omega)
   rw [show i + j - i = j by omega] at e1
   have e1 : @pt (withA M h) j = ((pt (i + j)).1, (pt (i + j)).2.1, (pt (i + j)).2.2.1, (pt (i + j)).2.2.2.1, (pt (i + j)).2.2.2.2.1, (pt (i + j)).2.2.2.2.2.1, k, (pt (i + j)).2.2.2.2.2.2.2) := e1
   have hb := bare_true n (pt (i + j)).1 (pt (i + j)).2.1 (pt (i + j)).2.2.1 (pt (i + j)).2.2.2.1 (pt (i + j)).2.2.2.2.1 (pt (i + j)).2.2.2.2.2.1 k (pt (i + j)).2.2.2.2.2.2.2 (by
    have := hT.sp (i + j) (by omega)
    rw [e2]; unfold SPi at this; simpa [shf] using this)
   unfold B_RCheckq1_1
   dsimp only
   rw [if_pos (by omega), if_pos (by omega), Int.toNat_natCast]
   show ((some (@pt (withA M h) j)).bind _) = _
   rw [e1]
   dsimp only [Option.bind_some]
   rw [show @m_Rbareq1 (withA M h) n (pt (i + j)).1 (pt (i + j)).2.1 (pt (i + j)).2.2.1 (pt (i + j)).2.2.2.1 (pt (i + j)).2.2.2.2.1 (pt (i + j)).2.2.2.2.2.1 k (pt (i + j)).2.2.2.2.2.2.2 = some true from hb]
   dsimp only [Option.bind_some]
   rw [if_pos rfl, w64_inc (by omega)]
   by_cases c : (j : Int) > 0
   ·rw [if_pos c, if_neg (hT.root (i + j) (by omega) (by omega))]
   ·rw [if_neg c])
  (fun _ _ => by
   refine ⟨.inr (), rfl, ?_⟩
   unfold B_RCheckq1_1
   dsimp only
   rw [if_neg (by omega)])
  n 0 () (Nat.zero_le _) trivial (by omega)
 have q2 : @m_RCheckq1_1 (withA M h) n 0 = some r := q2
 have hs := hk.shift (h := h) hS hE hA (Nat.le_refl i) hi (Nat.le_refl E) (by omega)
 rw [Nat.sub_self, show i + 1 - i = 0 + 1 by omega] at hs
 have hKB : ∀ j, (@kd (withA M h) j).length ≤ K := fun j => by
  rcases Nat.lt_or_ge j M.length with c | c
  ·have := (sb_pt (h := h) (j := i + j) hS (by omega) (by omega)).1
   rw [show i + j - i = j by omega] at this
   rw [this]
   have := hK (i + j)
   simpa [shf] using this
  ·have : @pt (withA M h) j = d8 := by unfold pt; rw [List.getD_eq_getElem?_getD, List.getElem?_eq_none (show (@Args.A (withA M h)).length ≤ j from c)]; rfl
   unfold kd; rw [this]; exact Nat.zero_le _
 have ha : atF i = @atF (withA M h) 0 := by
  have := (sb_pt (h := h) (j := i) hS (Nat.le_refl i) hi).2.1
  rw [Nat.sub_self] at this
  exact this.symm
 rw [ha] at hs
 have he := @endOf (withA M h) K 0 (E - i) hKB hs (by show 0 < M.length; omega) n (by show M.length - 0 + K + 10 < n; omega)
 have he : @m_Rendq1 (withA M h) n 0 = some ((E - i : Nat) : Int) := he
 unfold m_RCheckq1
 rw [if_neg (by omega), q2, q1]
 dsimp only
 rw [if_neg (by omega), he]
 dsimp only [Option.bind_some]
 rw [if_pos (by omega)]


/-! what is not stale has met nothing; the first that is meant -/
theorem stN_get (hT : Tree) : ∀ m, m ≤ Args.A.length → ∀ j, Args.A.length - m ≤ j → j < Args.A.length → (stN m).getD j false = (decide (metF j ≠ 0) || anyK (stN m) (kd j))
 | 0, _, j, h1, h2 => absurd h1 (by omega)
 | m + 1, hm, j, h1, h2 => by
  have ih := stN_get hT m (by omega)
  have hl := stN_len m
  have hk : ∀ i, i < Args.A.length → ∀ k ∈ kd i, ∃ c : Nat, k = c ∧ i < c := fun i hi k h => by
   obtain ⟨c, e1, e2, _⟩ := kid_mem hT hi k h
   exact ⟨c, e1, e2⟩
  show (stepS (stN m) (Args.A.length - (m + 1))).getD j false = (_ || anyK (stepS (stN m) (Args.A.length - (m + 1))) (kd j))
  unfold stepS
  rw [getD_setB (by omega), anyK_set (by omega) fun k hkk => by
   obtain ⟨c, e1, e2⟩ := hk j h2 k hkk
   exact ⟨c, e1, by omega⟩]
  by_cases e : j = Args.A.length - (m + 1)
  ·rw [if_pos e, e]
  ·rw [if_neg e, ih j (by omega) h2]
theorem stL_get (hT : Tree) {j : Nat} (h : j < Args.A.length) : stL.getD j false = (decide (metF j ≠ 0) || anyK stL (kd j)) := stN_get hT _ (Nat.le_refl _) j (by omega) h
theorem Ks.unmet {i k next e : Nat} {a : Int} (hT : Tree) (h : Ks i k next a e) : stL.getD i false = false → i < Args.A.length → ∀ j, next ≤ j → j < e → metF j = 0 := by
 induction h with
 | done => exact fun _ _ j h1 h2 => absurd h1 (by omega)
 | @kid i k next e' e a hk hv hn ha h1 h2 ih1 ih2 =>
  intro hs hi j h3 h4
  have hg := stL_get hT hi
  rw [hs] at hg
  have hany : anyK stL (kd i) = false := by
   cases h : anyK stL (kd i) with
   | false => rfl
   | true => rw [h] at hg; simp at hg
  have hsn : stL.getD next false = false := by
   unfold anyK at hany
   rw [List.any_eq_false] at hany
   have := hany (next : Int) (by rw [← hv]; exact getD_mem hk)
   rw [Int.toNat_natCast] at this
   exact Bool.eq_false_iff.2 this
  have hgn := stL_get hT hn
  rw [hsn] at hgn
  have hm : metF next = 0 := by
   rcases Decidable.em (metF next = 0) with h | h
   ·exact h
   ·simp [h] at hgn
  by_cases e1 : j = next
  ·rw [e1]; exact hm
  ·by_cases e2 : j < e'
   ·exact ih1 hsn hn j (by omega) e2
   ·exact ih2 hs hi j (by omega) h4
theorem stale_met (hT : Tree) {i : Nat} (hi : i < Args.A.length) (h : stL.getD i false = false) : metF i = 0 := by
 have hg := stL_get hT hi
 rw [h] at hg
 rcases Decidable.em (metF i = 0) with h | h
 ·exact h
 ·simp [h] at hg
theorem fh_some {p : Nat → Bool} : ∀ {n a c : Nat}, fh p a n = some c → p c = true ∧ a ≤ c ∧ c < a + n
 | 0, a, c, h => by cases h
 | n + 1, a, c, h => by
  have h : (if p a = true then some a else fh p (a + 1) n) = some c := h
  by_cases e : p a = true
  ·rw [if_pos e] at h
   obtain rfl := Option.some.inj h
   exact ⟨e, Nat.le_refl _, by omega⟩
  ·rw [if_neg e] at h
   obtain ⟨h1, h2, h3⟩ := fh_some h
   exact ⟨h1, by omega, by omega⟩
theorem find_ok {n K : Nat} {s t : Int} (hT : Tree) (hK : ∀ j, (kd j).length ≤ K) (hn : Args.A.length + K + 20 < n) : (∃ c : Nat, m_treeFindq1 n s t = some (.inl ((c : Int), true)) ∧ c < Args.A.length ∧ hit s t c = true) ∨ m_treeFindq1 n s t = some (.inl (0, false)) := by
 obtain ⟨m, rfl⟩ : ∃ m, n = m + 1 := ⟨n - 1, by omega⟩
 have hk := hT.ks
 have hpos := hT.pos
 have h1 := hk.vis (s := s) (t := t) (z := 0) (b := false) hK (by omega) hpos m m (by omega) (by have := hK 0; omega)
 have h2 := visit1 (s := s) (t := t) (z := 0) (b := false) (m := m) (j := 0) (e := Args.A.length) (f := fun _ => True) hpos (by omega) h1
 have h2 : m_viq1 (m + 1) 0 s t 0 false 0 = _ := h2
 unfold m_treeFindq1 m_pl1q1
 rw [check_ok hT (by omega)]
 dsimp only [Option.bind_some]
 rw [if_pos rfl]
 rw [h2, show m_plq1 (m + 1) 0 = some () from rfl]
 dsimp only [Option.bind_some]
 cases hq : fh (hit s t) 0 (Args.A.length - 0) with
 | none => exact .inr rfl
 | some c =>
  obtain ⟨g1, g2, g3⟩ := fh_some hq
  exact .inl ⟨c, rfl, by omega, g1⟩


/-! the law -/
def can (i : Nat) : Prop := (pt i).2.1 = 2 ∧ stL.getD i false = false
theorem reusable_ok {n i : Nat} (hi : i < Args.A.length) : ∃ b, m_rRq1 n stL Args.A.length Args.A.length (i : Int) = some b ∧ (b = true ↔ can i) := by
 have hl : stL.length = Args.A.length := stN_len _
 unfold m_rRq1 can
 rw [if_pos (by omega)]
 simp only [Option.bind_some, Int.toNat_natCast]
 by_cases c1 : (pt i).2.1 = 2
 ·rw [if_pos (show (Args.A.getD i (0, 0, 0, 0, 0, 0, nl0, 0)).2.1 = 2 from c1), if_pos (by omega), if_pos (by omega)]
  by_cases c2 : stL.getD i false = true
  ·rw [if_pos c2]; exact ⟨_, rfl, (fun h => by cases h), fun h => by rw [c2] at h; cases h.2⟩
  ·rw [if_neg c2]; exact ⟨_, rfl, (fun _ => ⟨c1, Bool.eq_false_iff.2 c2⟩), fun _ => rfl⟩
 ·rw [if_neg (show ¬ (Args.A.getD i (0, 0, 0, 0, 0, 0, nl0, 0)).2.1 = 2 from c1)]; exact ⟨_, rfl, (fun h => by cases h), fun h => absurd h.1 c1⟩
theorem lightP_ok {n : Nat} (hL : Args.A.length ≤ 1200000 ∨ True) (hn : 200 < n) : ∃ b, m_LPq1 n 120 = some b ∧ (b = true → Args.A.length ≤ 120) := by
 obtain ⟨r, -, h⟩ := whileI (B := B_LPq1_1 n 120) (fun s => ∃ i : Nat, s.2 = i ∧ i ≤ 121) (fun s => 121 - s.2.toNat) (fun r => True)
  (fun s hI => by
   obtain ⟨x, q⟩ := s
   obtain ⟨i, rfl, hi⟩ := hI
   unfold B_LPq1_1
   dsimp only
   by_cases c1 : (i : Int) < ((Args.A.length : Nat) : Int)
   ·rw [if_pos c1]
    by_cases c2 : (i : Int) ≤ 120
    ·rw [if_pos c2, if_pos (by omega), w64_inc (by omega)]
     simp only [Option.bind_some]
     generalize Args.A.getD ((i : Int)).toNat (0, 0, 0, 0, 0, 0, nl0, 0) = p
     by_cases d1 : p.2.2.1 > 1048576
     ·rw [if_pos d1]; exact .inr ⟨_, trivial, rfl⟩
     rw [if_neg d1]
     by_cases d2 : p.2.2.2.2.1 > 1048576
     ·rw [if_pos d2]; exact .inr ⟨_, trivial, rfl⟩
     rw [if_neg d2]
     by_cases d3 : p.2.2.2.2.2.1 > 1048576
     ·rw [if_pos d3]; exact .inr ⟨_, trivial, rfl⟩
     rw [if_neg d3]
     by_cases d4 : p.2.2.1 < -1048576
     ·rw [if_pos d4]; exact .inr ⟨_, trivial, rfl⟩
     rw [if_neg d4]
     by_cases d5 : p.2.2.2.2.1 < -1048576
     ·rw [if_pos d5]; exact .inr ⟨_, trivial, rfl⟩
     rw [if_neg d5]
     by_cases d6 : p.2.2.2.2.2.1 < -1048576
     ·rw [if_pos d6]; exact .inr ⟨_, trivial, rfl⟩
     rw [if_neg d6]
     exact .inl ⟨(_, ((i + 1 : Nat) : Int)), ⟨i + 1, rfl, by omega⟩, by dsimp only; omega, rfl⟩
    ·rw [if_neg c2]; exact .inr ⟨_, trivial, rfl⟩
   ·rw [if_neg c1]; exact .inr ⟨_, trivial, rfl⟩) n (0, 0) ⟨0, rfl, by omega⟩ (by dsimp only; omega)
 unfold m_LPq1 m_LPq1_1
 rw [h]
 rcases r with r | r
 ·exact ⟨_, rfl, fun h => by cases h⟩
 ·dsimp only
  by_cases c1 : ((Args.A.length : Nat) : Int) ≤ 120
  ·rw [if_pos c1]
   split
   ·exact ⟨_, rfl, fun _ => by omega⟩
   ·exact ⟨_, rfl, fun h => by cases h⟩
  ·rw [if_neg c1]; exact ⟨_, rfl, fun h => by cases h⟩

theorem pickN {n : Nat} {g : Int} (h0 : 0 < Args.A.length) (hL : Args.A.length ≤ 120) : ∃ p : Nat, m_pKq1 n g (((Args.A.length : Nat) : Int)) = some (p : Int) ∧ p < Args.A.length := by
 unfold m_pKq1
 rw [if_neg (by omega), if_pos (by omega)]
 have h1 : (-((Args.A.length : Nat) : Int)) < Int.tmod g ((Args.A.length : Nat) : Int) := Int.lt_tmod_of_pos g (by omega)
 have h2 : Int.tmod g ((Args.A.length : Nat) : Int) < ((Args.A.length : Nat) : Int) := Int.tmod_lt_of_pos g (by omega)
 generalize Int.tmod g ((Args.A.length : Nat) : Int) = x at *
 by_cases c : x < 0
 ·rw [if_pos c, w64_sm (by omega) (by omega)]
  exact ⟨(x + ((Args.A.length : Nat) : Int)).toNat, by rw [Int.toNat_of_nonneg (by omega)], by omega⟩
 ·rw [if_neg c]
  exact ⟨x.toNat, by rw [Int.toNat_of_nonneg (by omega)], by omega⟩
theorem Ks.count {i k next e : Nat} {a : Int} (h : Ks i k next a e) : (kd i).length + next ≤ e + k := by
 induction h with
 | done hk => omega
 | kid hk hv hn ha h1 h2 ih1 ih2 => have := h1.lt; omega
theorem max_eq {n : Nat} {M : List P8} (hl : M.length ≤ 1000000) (hn : M.length < n) : ∃ v, (M.length = M.length) ∧ m_vL1q1 n 0 M = some v ∧ ((∀ j, j < M.length → (M.getD j (0, 0, 0, 0, 0, 0, nl0, 0)).2.2.2.2.2.2.2 = 0) → m_VReuseTakes_1 n M (0, 0) = some v) := by
 let F : Nat → Int := fun j => (M.take j).foldl (fun a p => maxB a p.2.2.2.2.2.1) 0
 have hF : ∀ j, j < M.length → F (j + 1) = maxB (F j) (M.getD j (0, 0, 0, 0, 0, 0, nl0, 0)).2.2.2.2.2.1 := fun j hj => by
  show (M.take (j + 1)).foldl _ 0 = _
  rw [List.take_add_one, List.getElem?_eq_getElem hj, List.foldl_append, List.getD_eq_getElem?_getD, List.getElem?_eq_getElem hj]
  rfl
 refine ⟨F M.length, rfl, ?_, fun h0 => ?_⟩
 ·obtain ⟨r, q1, q2⟩ := hoare (B := B_vL1q1_1 n M (M.length : Int)) (σ := Int) (fun v j => (v, j)) (fun j v => v = F j) (fun r => r = F M.length) M.length
   (fun j v hj hv => by
    subst hv
    refine .inl ⟨_, (hF j hj).symm, ?_⟩
    unfold B_vL1q1_1
    dsimp only
    rw [if_pos (by omega), if_pos (by omega), Int.toNat_natCast, w64_inc (by omega)]
    rfl)
   (fun v hv => by
    refine ⟨_, hv, ?_⟩
    unfold B_vL1q1_1
    dsimp only
    rw [if_neg (by omega)])
   n 0 0 (Nat.zero_le _) rfl (by omega)
  have q2 : m_vL1q1_1 n M (M.length : Int) (0, 0) = some r := q2
  unfold m_vL1q1
  rw [q2, q1]
  rfl
 ·obtain ⟨r, q1, q2⟩ := hoare (B := B_VReuseTakes_1 n M) (σ := Int) (fun v j => (v, j)) (fun j v => v = F j) (fun r => r = F M.length) M.length
   (fun j v hj hv => by
    subst hv
    refine .inl ⟨_, (hF j hj).symm, ?_⟩
    unfold B_VReuseTakes_1
    dsimp only
    rw [if_pos (by omega), if_pos (by omega), Int.toNat_natCast, w64_inc (by omega)]
    dsimp only [Option.bind_some]
    rw [if_pos (h0 j hj)])
   (fun v hv => by
    refine ⟨_, hv, ?_⟩
    unfold B_VReuseTakes_1
    dsimp only
    rw [if_neg (by omega)])
   n 0 0 (Nat.zero_le _) rfl (by omega)
  have q2 : m_VReuseTakes_1 n M (0, 0) = some r := q2
  rw [q2, q1]
theorem prgW {L : List P8} (h : L.length ≤ 9223372036854775807) (n : Nat) : m_tCq2 n L = @m_tCq1 (withA L h) n := rfl
theorem treeM {K i E : Nat} {M : List P8} (h : M.length ≤ 9223372036854775807) (hT : Tree) (hS : Sb (i : Int) i E M) (hi : i < E) (hE : E ≤ Args.A.length) (hk : Ks i 0 (i + 1) (atF i) E) : @Tree (withA M h) := by
 have hl := hS.len
 have hmax := hT.max
 have hs := hk.shift (h := h) hS hE (by omega) (Nat.le_refl i) hi (Nat.le_refl E) (by omega)
 rw [Nat.sub_self, show i + 1 - i = 0 + 1 by omega] at hs
 have ha : atF i = @atF (withA M h) 0 := by
  have := (sb_pt (h := h) (j := i) hS (Nat.le_refl i) hi).2.1
  rw [Nat.sub_self] at this
  exact this.symm
 have row : ∀ j, j < M.length → ∃ k : NL, @pt (withA M h) j = ((pt (i + j)).1, (pt (i + j)).2.1, (pt (i + j)).2.2.1, (pt (i + j)).2.2.2.1, (pt (i + j)).2.2.2.2.1, (pt (i + j)).2.2.2.2.2.1, k, (pt (i + j)).2.2.2.2.2.2.2) ∧ k.l = shf (i : Int) (kd (i + j)) := fun j hj => by
  obtain ⟨k, e1, e2⟩ := hS.row (i + j) (by omega) (by omega)
  rw [show i + j - i = j by omega] at e1
  exact ⟨k, e1, e2⟩
 refine @Tree.mk (withA M h) (by show 0 < M.length; omega) (by show M.length ≤ _; omega) (fun j hj => ?_) (fun j h0 hj => ?_) (by rw [← ha, show (@Args.A (withA M h)).length = E - i from hl]; exact hs)
 ·obtain ⟨k, e1, e2⟩ := row j hj
  have := hT.sp (i + j) (by have : j < M.length := hj; omega)
  unfold SPi at this ⊢
  rw [show @kd (withA M h) j = shf (i : Int) (kd (i + j)) by unfold kd; rw [e1]; exact e2, e1]
  simpa [shf] using this
 ·obtain ⟨k, e1, e2⟩ := row j hj
  rw [e1]
  exact hT.root (i + j) (by omega) (by have : j < M.length := hj; omega)
theorem take_ok {n K i : Nat} (hT : Tree) (hK : ∀ j, (kd j).length ≤ K) (hK1 : K ≤ 1000000) (hL : Args.A.length ≤ 120) (hn : Args.A.length + K + 1000 < n) : m_reuseTakeq1 n (pt i).1 (atF i) = some (.inr ()) ∨ ∃ (c E : Nat) (M : List P8), m_reuseTakeq1 n (pt i).1 (atF i) = some (.inl M) ∧ c < E ∧ E ≤ Args.A.length ∧ Sb (c : Int) c E M ∧ Ks c 0 (c + 1) (atF c) E ∧ (pt c).1 = (pt i).1 ∧ atF c = atF i ∧ (pt c).2.1 = 2 ∧ ∀ j, c ≤ j → j < E → metF j = 0 := by
 unfold m_reuseTakeq1
 rcases find_ok (n := n) (s := (pt i).1) (t := atF i) hT hK (by omega) with ⟨c, e, hc, hh⟩ | e
 ·rw [e]
  dsimp only
  rw [if_pos rfl, prgStale hT hK (by omega)]
  dsimp only [Option.bind_some]
  obtain ⟨b, e2, hb⟩ := reusable_ok (n := n) hc
  rw [e2]
  dsimp only [Option.bind_some]
  cases b with
  | false => exact .inl (by rw [if_neg (by decide)])
  | true =>
   have hcan := hb.1 rfl
   obtain ⟨E, g1, g2, g3⟩ := hT.end hc
   obtain ⟨M, e3, hM⟩ := sub2 (n := n) (s := (c : Int)) (by omega) hK hK1 g1 hc (by omega)
   rw [if_pos rfl]
   refine .inr ⟨c, E, M, ?_, g2, g3, hM, g1, ?_, ?_, hcan.1, fun j h1 h2 => ?_⟩
   ·unfold m_treeSubq1 m_treehasq1
    rw [if_pos (by omega), if_pos (by omega), check_ok hT (by omega)]
    dsimp only [Option.bind_some]
    rw [if_pos rfl]
    dsimp only [Option.bind_some]
    rw [if_pos rfl, show m_plq1 n (c : Int) = some () from rfl]
    unfold m_pl1q2
    dsimp only [Option.bind_some]
    rw [e3]
    rfl
   ·unfold hit at hh; simp at hh; exact hh.2.1
   ·unfold hit at hh; simp at hh; exact hh.2.2
   ·by_cases e : j = c
    ·rw [e]; exact stale_met hT hc hcan.2
    ·exact g1.unmet hT hcan.2 hc j (by omega) h2
 ·rw [e]
  exact .inl rfl
theorem reuseTakes_true (g1 : Int) : ∃ n, m_VReuseTakes n g1 = some () := by
 obtain ⟨K, hK⟩ := bound_kd
 refine ⟨3000 + Args.A.length + K, ?_⟩
 generalize hn : 3000 + Args.A.length + K = n
 unfold m_VReuseTakes m_Vlives
 simp only [Option.bind_some]
 obtain ⟨b, e1, h1⟩ := lightP_ok (n := n) (.inr trivial) (by omega)
 rw [e1]
 simp only [Option.bind_some]
 cases b with
 | false => rw [if_neg (by decide)]
 | true =>
  have hL := h1 rfl
  rw [if_pos rfl]
  obtain ⟨c, e2, h2⟩ := refCheck_ok (n := n) hK (by omega) (by omega)
  rw [e2]
  simp only [Option.bind_some]
  by_cases c0 : ¬ c = 0
  ·rw [if_neg c0]
  obtain rfl := Decidable.not_not.1 c0
  have hT := h2 rfl
  have hpos := hT.pos
  have hfew : ∀ j, (kd j).length ≤ 1000 := fun j => by
   rcases Nat.lt_or_ge j Args.A.length with h | h
   ·obtain ⟨e, g1, -, g3⟩ := hT.end h
    have := g1.count
    omega
   ·have : pt j = d8 := by unfold pt; rw [List.getD_eq_getElem?_getD, List.getElem?_eq_none h]; rfl
    unfold kd; rw [this]; exact Nat.zero_le _
  obtain ⟨x, hx, hxl⟩ := pickN (n := n) (g := g1) hpos hL
  rw [if_pos rfl, hx]
  dsimp only [Option.bind_some]
  rw [if_pos (by omega), Int.toNat_natCast]
  rcases take_ok (n := n) (i := x) hT hfew (by omega) hL (by omega) with e | ⟨c, E, M, e, hcE, hEN, hM, hks, f1, f2, f3, f4⟩
  ·rw [show m_reuseTakeq1 n (Args.A.getD x (0, 0, 0, 0, 0, 0, nl0, 0)).1 (Args.A.getD x (0, 0, 0, 0, 0, 0, nl0, 0)).2.2.1 = some (.inr ()) from e]
  ·rw [show m_reuseTakeq1 n (Args.A.getD x (0, 0, 0, 0, 0, 0, nl0, 0)).1 (Args.A.getD x (0, 0, 0, 0, 0, 0, nl0, 0)).2.2.1 = some (.inl M) from e]
   dsimp only
   have hl := hM.len
   have hlb : M.length ≤ 9223372036854775807 := by omega
   rw [checkW hlb, checkM hlb hT (by omega) hK hM hcE hEN hks (by omega)]
   dsimp only [Option.bind_some]
   obtain ⟨k, r1, r2⟩ := hM.row c (Nat.le_refl _) hcE
   rw [Nat.sub_self] at r1
   rw [if_pos rfl, if_pos (by omega), show (0 : Int).toNat = 0 from rfl, r1]
   dsimp only [Option.bind_some]
   obtain ⟨v, -, e5, e6⟩ := max_eq (n := n) (M := M) (by omega) (by omega)
   have hmet : ∀ j, j < M.length → (M.getD j (0, 0, 0, 0, 0, 0, nl0, 0)).2.2.2.2.2.2.2 = 0 := fun j hj => by
    obtain ⟨k, r1, r2⟩ := hM.row (c + j) (by omega) (by omega)
    rw [show c + j - c = j by omega] at r1
    rw [r1]
    exact f4 (c + j) (by omega) (by omega)
   rw [if_pos (show (pt c).1 = (Args.A.getD x (0, 0, 0, 0, 0, 0, nl0, 0)).1 from f1), if_pos (show (pt c).2.2.1 = (Args.A.getD x (0, 0, 0, 0, 0, 0, nl0, 0)).2.2.1 from f2), if_pos f3, e6 hmet]
   dsimp only [Option.bind_some]
   unfold m_reuseLookq1 m_fOq1
   rw [prgW hlb, @check_ok (withA M hlb) n (treeM (K := K) hlb hT hM hcE hEN hks) (by show M.length < n; omega)]
   dsimp only [Option.bind_some]
   rw [if_pos rfl, show m_vLq1 n M = some () from rfl]
   dsimp only [Option.bind_some]
   rw [e5]
   dsimp only [Option.bind_some]
   rw [if_pos rfl]

end Go.Proofs.Yteefneejedljmaa.rtk
