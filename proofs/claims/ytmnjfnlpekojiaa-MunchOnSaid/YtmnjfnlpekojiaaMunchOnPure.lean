/-
  The pure side. No condition.
-/
import Derived.Test.YtmnjfnlpekojiaaMunchAllPure
import Derived.Test.YtmnjfnlpekojiaaMunchOnTold
import Derived.IntWalk
set_option linter.unusedSimpArgs false
set_option linter.unusedVariables false
set_option linter.unusedSectionVars false
set_option linter.unnecessarySimpa false
namespace Go.Proofs.Ytmnjfnlpekojiaa.munchw
open Go Go.Proofs.Ytmnjfnlpekojiaa Ax
variable [Args]


theorem nTo_shift (ok : Ok) {x : ByteArray} {B a : Nat} (hB : B ≤ x.size) (ha : a < (ByteArray.extract x B x.size).size) :
    nR x (B + a) = nR (ByteArray.extract x B x.size) a ∧ nTo x (B + a) = nTo (ByteArray.extract x B x.size) a + B ∧ nE x (B + a) = nE (ByteArray.extract x B x.size) a + (B : Int) := by
  have hs := size_ext (s := x) (a := B) (Nat.le_refl x.size)
  obtain ⟨t1, t2, t3, t4, t5, t6⟩ := nT_ok ok ha
  obtain ⟨u1, u2, u3, u4, u5, u6⟩ := nT_ok ok (x := x) (a := B + a) (by omega)
  obtain ⟨s1, s2, s3⟩ := next_shift ok (x := ByteArray.extract x B x.size) (y := x) (a := a) (b := B + a) ha (by omega)
    (fun i _ hi => ⟨by omega, by rw [byteAt_extract (Nat.le_refl _) (by omega), Nat.add_assoc]⟩) (fun j _ hj => by omega)
  exact ⟨s1, by omega, by omega⟩
/-- the rest's lexemes -/
theorem rest_ok (ok : Ok) {x : ByteArray} {B w : Nat} (hB : B < x.size) {l m : List Q4} {f g : Nat → Nat} (hw : w < l.length) (hfB : f w = B)
    (f1 : f l.length = x.size) (hf : ∀ i, i < l.length → f i < x.size ∧ l.getD i (0, 0, 0, 0) = qx x (f i) ∧ nTo x (f i) = f (i + 1))
    (g0 : g 0 = 0) (g1 : g m.length = (ByteArray.extract x B x.size).size) (hg : ∀ i, i < m.length → g i < (ByteArray.extract x B x.size).size ∧ m.getD i (0, 0, 0, 0) = qx (ByteArray.extract x B x.size) (g i) ∧ nTo (ByteArray.extract x B x.size) (g i) = g (i + 1)) :
    w + m.length = l.length ∧ ∀ i, i < m.length → g i + B = f (w + i) ∧ f (w + i) < x.size := by
  have hs := size_ext (s := x) (a := B) (Nat.le_refl x.size)
  have key : ∀ i, i ≤ m.length → w + i ≤ l.length ∧ g i + B = f (w + i) := by
    intro i
    induction i with
    | zero => intro _; exact ⟨by omega, by rw [g0, Nat.add_zero]; omega⟩
    | succ i ih =>
      intro hi
      obtain ⟨h1, h2⟩ := ih (by omega)
      obtain ⟨k1, k2, k3⟩ := hg i (by omega)
      have hne : w + i < l.length := by
        rcases Nat.lt_or_ge (w + i) l.length with h | h
        · exact h
        · have : w + i = l.length := by omega
          rw [this, f1] at h2
          omega
      obtain ⟨p1, p2, p3⟩ := hf (w + i) hne
      obtain ⟨q1, q2, q3⟩ := nTo_shift ok (x := x) (B := B) (a := g i) (by omega) k1
      have e : B + g i = f (w + i) := by omega
      rw [e] at q2
      exact ⟨by omega, by rw [show w + (i + 1) = w + i + 1 from by omega]; omega⟩
  obtain ⟨h1, h2⟩ := key m.length (Nat.le_refl _)
  have hlen : w + m.length = l.length := by
    rcases Nat.lt_or_ge (w + m.length) l.length with h | h
    · have := (hf _ h).1
      omega
    · omega
  exact ⟨hlen, fun i hi => ⟨(key i (by omega)).2, (hf (w + i) (by omega)).1⟩⟩
def shq (B : Int) (q : Q4) : Q4 := (q.1, q.2.1 + B, q.2.2.1 + B, q.2.2.2 + B)
theorem getD_set {α : Type} {L : List α} {i j : Nat} {z d : α} (hi : i < L.length) : (L.set i z).getD j d = if j = i then z else L.getD j d := by
  rw [List.getD_eq_getElem?_getD, List.getElem?_set]
  by_cases h : i = j
  · subst h; rw [if_pos rfl, if_pos rfl, if_pos hi]; rfl
  · rw [if_neg h, if_neg (fun e => h e.symm), List.getD_eq_getElem?_getD]
theorem shift_loop {N : Nat} {u1 : Int} {u2 : List Q4} {B : Int} {m : List Q4} (hsm : ∀ i, i < m.length → w64 ((m.getD i (0, 0, 0, 0)).2.1 + B) = (m.getD i (0, 0, 0, 0)).2.1 + B ∧ w64 ((m.getD i (0, 0, 0, 0)).2.2.1 + B) = (m.getD i (0, 0, 0, 0)).2.2.1 + B ∧ w64 ((m.getD i (0, 0, 0, 0)).2.2.2 + B) = (m.getD i (0, 0, 0, 0)).2.2.2 + B) (hl : m.length ≤ 1000) :
    ∀ (n i : Nat) (L : List Q4), i ≤ m.length → m.length - i < n → L.length = m.length → (∀ j, j < m.length → L.getD j (0, 0, 0, 0) = if j < i then shq B (m.getD j (0, 0, 0, 0)) else m.getD j (0, 0, 0, 0)) →
    ∃ L', iterM (B6_2 N u1 u2 B m.length) n (L, (i : Int)) = some L' ∧ L'.length = m.length ∧ ∀ j, j < m.length → L'.getD j (0, 0, 0, 0) = shq B (m.getD j (0, 0, 0, 0)) := by
  intro n
  induction n with
  | zero => intro i L h1 h2; omega
  | succ n ih =>
    intro i L h1 h2 h3 h4
    by_cases hlt : i < m.length
    · have e2 : w64 ((i : Int) + 1) = ((i + 1 : Nat) : Int) := by rw [w64_sm (by omega) (by omega)]; omega
      obtain ⟨a1, a2, a3⟩ := hsm i hlt
      have hLi := h4 i hlt
      rw [if_neg (Nat.lt_irrefl _)] at hLi
      obtain ⟨L', r1, r2⟩ := ih (i + 1) (L.set i (shq B (m.getD i (0, 0, 0, 0)))) (by omega) (by omega) (by rw [List.length_set, h3]) (fun j hj => by
        rw [getD_set (by omega)]
        by_cases e : j = i
        · subst e; rw [if_pos rfl, if_pos (by omega)]
        · rw [if_neg e, h4 j hj]
          by_cases h : j < i
          · rw [if_pos h, if_pos (by omega)]
          · rw [if_neg h, if_neg (by omega)])
      refine ⟨L', ?_, r2⟩
      rw [iterM_in (s' := (L.set i (shq B (m.getD i (0, 0, 0, 0))), ((i + 1 : Nat) : Int)))]
      · exact r1
      · unfold B6_2
        dsimp only
        rw [if_pos (by omega), if_pos (by omega), Int.toNat_natCast, if_pos (by omega), hLi, a1, a2, a3, e2]
        rfl
    · obtain rfl : i = m.length := by omega
      refine ⟨L, iterM_out ?_, h3, fun j hj => by rw [h4 j hj, if_pos hj]⟩
      unfold B6_2
      dsimp only
      rw [if_neg (by omega)]
theorem same_loop {N : Nat} {L K : List Q4} {w : Nat} (hw : w + L.length = K.length) (hl : K.length ≤ 1000) (he : ∀ i, i < L.length → L.getD i (0, 0, 0, 0) = K.getD (w + i) (0, 0, 0, 0)) : ∀ (n i : Nat), i ≤ L.length → L.length - i < n →
    iterM (B20a_1 N L L.length K w (K.length - w)) n (i : Int) = some (.inr ()) := by
  intro n
  induction n with
  | zero => intro i h1 h2; omega
  | succ n ih =>
    intro i h1 h2
    by_cases hlt : i < L.length
    · have e2 : w64 ((i : Int) + 1) = ((i + 1 : Nat) : Int) := by rw [w64_sm (by omega) (by omega)]; omega
      rw [iterM_in (s' := ((i + 1 : Nat) : Int))]
      · exact ih (i + 1) (by omega) (by omega)
      · unfold B20a_1
        dsimp only
        rw [if_pos (by omega), if_pos (by omega), Int.toNat_natCast, if_pos hlt, if_pos (by omega), if_pos (by omega), he i hlt, e2]
        simp
    · obtain rfl : i = L.length := by omega
      refine iterM_out ?_
      unfold B20a_1
      dsimp only
      rw [if_neg (by omega)]
theorem on_true (x : ByteArray) (a : Int) : ∃ n, m6 n x a = some true := by
  refine ⟨3000000, ?_⟩
  unfold m6 m7
  rw [Option.bind_some, light_ok, Option.bind_some]
  by_cases g1 : Args.R.length ≤ 24 ∧ Args.N.length ≤ 6144
  case neg => rw [if_neg (by simpa using g1)]
  rw [if_pos (by simpa using g1)]
  have s : Small 3000000 := ⟨by omega, by omega, by omega⟩
  by_cases g2 : ((x.size : Nat) : Int) > 60
  · rw [if_pos g2]
  rw [if_neg g2]
  by_cases g3 : ((x.size : Nat) : Int) = 0
  · rw [if_pos g3]
  rw [if_neg g3]
  obtain ⟨k, hk, hk2⟩ := refCheck_ok s
  rw [hk, Option.bind_some]
  by_cases g4 : k = 0
  case neg => rw [if_neg g4]
  rw [if_pos g4]
  have ok := hk2.1 g4
  obtain ⟨l, l1, l2, l3, f, f0, f1, hf⟩ := all_ok ok s (x := x) (by omega)
  rw [l1, Option.bind_some]
  have hne : 0 < l.length := by
    rcases Nat.eq_zero_or_pos l.length with h | h
    · rw [h, f0] at f1; omega
    · exact h
  cases l with
  | nil => cases hne
  | cons z t =>
    dsimp only
    generalize hll : (z :: t) = l at *
    rw [if_neg (by omega), pick_ok (by omega) (by omega), Option.bind_some]
    have h4 := Int.emod_nonneg a (show ((l.length : Nat) : Int) ≠ 0 by omega)
    have h5 := Int.emod_lt_of_pos a (show 0 < ((l.length : Nat) : Int) by omega)
    obtain ⟨w, hw⟩ := Int.eq_ofNat_of_zero_le h4
    rw [hw] at h5 ⊢
    have hwl : w < l.length := by omega
    obtain ⟨b1, b2, b3⟩ := hf w hwl
    rw [if_pos (by omega), Int.toNat_natCast, b2]
    show (if ((f w : Nat) : Int) < 0 then _ else if ((f w : Nat) : Int) > ((x.size : Nat) : Int) then _ else if 0 ≤ ((f w : Nat) : Int) ∧ ((f w : Nat) : Int) ≤ ((x.size : Nat) : Int) then _ else _) = _
    rw [if_neg (by omega), if_neg (by omega), if_pos (by omega)]
    rw [show (qx x (f w)).2.1 = ((f w : Nat) : Int) from rfl, Int.toNat_natCast]
    have hs := size_ext (s := x) (a := f w) (Nat.le_refl x.size)
    obtain ⟨m, m1, m2, m3, g, g0, gg1, hg⟩ := all_ok ok s (x := ByteArray.extract x (f w) x.size) (by omega)
    rw [m1, Option.bind_some]
    obtain ⟨r1, r2⟩ := rest_ok ok b1 hwl rfl f1 hf g0 gg1 hg
    have hmne : 0 < m.length := by
      rcases Nat.eq_zero_or_pos m.length with h | h
      · rw [h, g0] at gg1; omega
      · exact h
    cases m with
    | nil => cases hmne
    | cons z2 t2 =>
      dsimp only
      generalize hmm : (z2 :: t2) = m at *
      have hq : ∀ i, i < m.length → (m.getD i (0, 0, 0, 0)).2.1 = ((g i : Nat) : Int) ∧ (m.getD i (0, 0, 0, 0)).2.2.1 = ((nTo (ByteArray.extract x (f w) x.size) (g i) : Nat) : Int) ∧ (m.getD i (0, 0, 0, 0)).2.2.2 = nE (ByteArray.extract x (f w) x.size) (g i) ∧ (m.getD i (0, 0, 0, 0)).1 = nR (ByteArray.extract x (f w) x.size) (g i) := fun i hi => by rw [(hg i hi).2.1]; exact ⟨rfl, rfl, rfl, rfl⟩
      have hlo := shift_loop (N := 3000000) (u1 := (w : Int)) (u2 := l) (B := ((f w : Nat) : Int)) (m := m) (fun i hi => by
        obtain ⟨p1, p2, p3, p4⟩ := hq i hi
        obtain ⟨t1, t2, t3, t4, t5, t6⟩ := nT_ok ok (hg i hi).1
        have := (hg i hi).1
        rw [p1, p2, p3]
        exact ⟨w64_sm (by omega) (by omega), w64_sm (by omega) (by omega), w64_sm (by omega) (by omega)⟩) (by omega) 3000000 0 m (Nat.zero_le _) (by omega) rfl (fun j hj => by rw [if_neg (Nat.not_lt_zero _)])
      obtain ⟨L, L1, L2, L3⟩ := hlo
      rw [show m6_2 3000000 (w : Int) l ((f w : Nat) : Int) m.length (m, 0) = some L from L1, Option.bind_some, if_pos (by omega)]
      have hsl := same_loop (N := 3000000) (L := L) (K := l) (w := w) (by omega) (by omega) (fun i hi => by
        obtain ⟨e1, e2⟩ := r2 i (by omega)
        obtain ⟨p1, p2, p3, p4⟩ := hq i (by omega)
        obtain ⟨q1, q2, q3⟩ := nTo_shift ok (x := x) (B := f w) (a := g i) (by omega) (hg i (by omega)).1
        rw [L3 i (by omega), (hf (w + i) (by omega)).2.1]
        unfold shq qx
        rw [p1, p2, p3, p4, ← e1, Nat.add_comm (g i) (f w), q1, q2, q3]
        refine Prod.ext rfl (Prod.ext ?_ (Prod.ext ?_ ?_))
        · simp only []; omega
        · simp only []; omega
        · rfl) 3000000 0 (Nat.zero_le _) (by omega)
      unfold m20a
      rw [if_pos (by omega), ← L2, show m20a_1 3000000 L L.length l w (l.length - w) 0 = some (.inr ()) from hsl]
      rfl

end Go.Proofs.Ytmnjfnlpekojiaa.munchw
