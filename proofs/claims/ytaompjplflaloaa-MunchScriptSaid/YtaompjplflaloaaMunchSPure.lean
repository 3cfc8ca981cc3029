/-
  The pure side. No condition.
-/
import Derived.Test.YtaompjplflaloaaMunchSTold
import Derived.IntWalk
set_option linter.unusedSimpArgs false
set_option linter.unusedVariables false
set_option linter.unusedSectionVars false
set_option linter.unnecessarySimpa false
namespace Go.Proofs.Ytaompjplflaloaa.munchs
open Go Go.Proofs.Ytaompjplflaloaa Ax
variable [Args]


theorem w64_id {x : Int} (h1 : -9223372036854775808 ≤ x) (h2 : x < 9223372036854775808) : w64 x = x := IntWalk.i64_in _ (by omega)
theorem w64_sm {x : Int} (h1 : -1000000000000 ≤ x) (h2 : x ≤ 1000000000000) : w64 x = x := w64_id (by omega) (by omega)
theorem iterM_in {α β : Type} {body : α → Option (α ⊕ β)} {n : Nat} {s s' : α} (h : body s = some (.inl s')) : iterM body (n + 1) s = iterM body n s' := by rw [iterM_succ, h]; rfl
theorem iterM_out {α β : Type} {body : α → Option (α ⊕ β)} {n : Nat} {s : α} {r : β} (h : body s = some (.inr r)) : iterM body (n + 1) s = some r := by rw [iterM_succ, h]; rfl

/-! lists of numbers -/
def In (e : Int) (l : List Int) : Prop := ∀ i, i < l.length → -1 ≤ l.getD i 0 ∧ l.getD i 0 < e
def loI (l : List Int) (n : Nat) : Int := (l.take n).foldl minB (-1)
def hiI (l : List Int) (n : Nat) : Int := (l.take n).foldl maxB (-1)
theorem take_succ_getD {l : List Int} {n : Nat} (h : n < l.length) : l.take (n + 1) = l.take n ++ [l.getD n 0] := by
  rw [List.take_add_one, List.getElem?_eq_getElem h, List.getD_eq_getElem?_getD, List.getElem?_eq_getElem h]; rfl
theorem loI_succ {l : List Int} {n : Nat} (h : n < l.length) : loI l (n + 1) = minB (loI l n) (l.getD n 0) := by
  rw [loI, take_succ_getD h, List.foldl_append]; rfl
theorem hiI_succ {l : List Int} {n : Nat} (h : n < l.length) : hiI l (n + 1) = maxB (hiI l n) (l.getD n 0) := by
  rw [hiI, take_succ_getD h, List.foldl_append]; rfl
theorem lohi {l : List Int} : ∀ n, n ≤ l.length → loI l n ≤ -1 ∧ -1 ≤ hiI l n ∧ ((loI l n = -1 ∧ ∀ e, (hiI l n < e ↔ -1 < e ∧ ∀ i, i < n → l.getD i 0 < e)) ∨ loI l n < -1) ∧ (loI l n = -1 ↔ ∀ i, i < n → -1 ≤ l.getD i 0)
  | 0, _ => ⟨by simp [loI], by simp [hiI], .inl ⟨by simp [loI], fun e => by simp [hiI]⟩, by simp [loI]⟩
  | n + 1, h => by
    obtain ⟨h1, h2, h3, h4⟩ := lohi (l := l) n (by omega)
    rw [loI_succ (by omega), hiI_succ (by omega)]
    have hs : (∀ i, i < n + 1 → -1 ≤ l.getD i 0) ↔ (∀ i, i < n → -1 ≤ l.getD i 0) ∧ -1 ≤ l.getD n 0 :=
      ⟨fun h => ⟨fun i hi => h i (by omega), h n (by omega)⟩, fun ⟨p, q⟩ i hi => by
        rcases Nat.lt_or_ge i n with h | h
        · exact p i h
        · obtain rfl : i = n := by omega
          exact q⟩
    rw [hs]
    refine ⟨by unfold minB; split <;> omega, by unfold maxB; split <;> omega, ?_, ?_⟩
    · by_cases hm : minB (loI l n) (l.getD n 0) = -1
      · left
        refine ⟨hm, fun e => ?_⟩
        have hlo : loI l n = -1 := by unfold minB at hm; split at hm <;> omega
        rcases h3 with ⟨_, h3⟩ | h3
        · have hs2 : (∀ i, i < n + 1 → l.getD i 0 < e) ↔ (∀ i, i < n → l.getD i 0 < e) ∧ l.getD n 0 < e :=
            ⟨fun h => ⟨fun i hi => h i (by omega), h n (by omega)⟩, fun ⟨p, q⟩ i hi => by
              rcases Nat.lt_or_ge i n with h | h
              · exact p i h
              · obtain rfl : i = n := by omega
                exact q⟩
          rw [hs2, ← and_assoc, ← h3 e]
          unfold maxB; split <;> omega
        · omega
      · right; unfold minB at hm ⊢; split at hm <;> split <;> omega
    · rw [← h4]; unfold minB; split <;> omega
theorem within_loopA (N : Nat) (x0 : Int) (hl : Args.N.length ≤ 1000000) : ∀ (n i : Nat), i ≤ Args.N.length → Args.N.length - i < n → iterM (B_dfawithina_1 N x0 ((Args.N.length : Nat) : Int)) n (loI Args.N i, hiI Args.N i, (i : Int)) = some (loI Args.N Args.N.length, hiI Args.N Args.N.length) := by
  intro n
  induction n with
  | zero => intro i h1 h2; omega
  | succ n ih =>
    intro i h1 h2
    by_cases hlt : i < Args.N.length
    · rw [iterM_in (s' := (loI Args.N (i + 1), hiI Args.N (i + 1), ((i + 1 : Nat) : Int)))]
      · exact ih (i + 1) (by omega) (by omega)
      · unfold B_dfawithina_1; dsimp only
        rw [if_pos (by omega), if_pos (by omega), Int.toNat_natCast, loI_succ hlt, hiI_succ hlt, w64_sm (by omega) (by omega)]; rfl
    · obtain rfl : i = Args.N.length := by omega
      refine iterM_out ?_
      unfold B_dfawithina_1; dsimp only
      rw [if_neg (by omega)]
theorem within_loopB (N : Nat) (x0 : Int) (hl : Args.R.length ≤ 1000000) : ∀ (n i : Nat), i ≤ Args.R.length → Args.R.length - i < n → iterM (B_dfawithinb_1 N x0 ((Args.R.length : Nat) : Int)) n (loI Args.R i, hiI Args.R i, (i : Int)) = some (loI Args.R Args.R.length, hiI Args.R Args.R.length) := by
  intro n
  induction n with
  | zero => intro i h1 h2; omega
  | succ n ih =>
    intro i h1 h2
    by_cases hlt : i < Args.R.length
    · rw [iterM_in (s' := (loI Args.R (i + 1), hiI Args.R (i + 1), ((i + 1 : Nat) : Int)))]
      · exact ih (i + 1) (by omega) (by omega)
      · unfold B_dfawithinb_1; dsimp only
        rw [if_pos (by omega), if_pos (by omega), Int.toNat_natCast, loI_succ hlt, hiI_succ hlt, w64_sm (by omega) (by omega)]; rfl
    · obtain rfl : i = Args.R.length := by omega
      refine iterM_out ?_
      unfold B_dfawithinb_1; dsimp only
      rw [if_neg (by omega)]
theorem lohi_ok {l : List Int} {e : Int} (he : 0 ≤ e) : (loI l l.length = -1 ∧ hiI l l.length < e) ↔ In e l := by
  obtain ⟨h1, h2, h3, h4⟩ := lohi (l := l) l.length (Nat.le_refl _)
  constructor
  · rintro ⟨a, b⟩ i hi
    rcases h3 with ⟨_, h3⟩ | h3
    · exact ⟨h4.1 a i hi, ((h3 e).1 b).2 i hi⟩
    · omega
  · intro h
    have a := h4.2 fun i hi => (h i hi).1
    refine ⟨a, ?_⟩
    rcases h3 with ⟨_, h3⟩ | h3
    · exact (h3 e).2 ⟨by omega, fun i hi => (h i hi).2⟩
    · omega
theorem within_a {n : Nat} {e : Int} (he : 0 ≤ e) (hl : Args.N.length ≤ 1000000) (hn : Args.N.length < n) : ∃ b, m_dfawithina n e = some b ∧ (b = true ↔ In e Args.N) := by
  have h := within_loopA n e hl n 0 (Nat.zero_le _) (by omega)
  unfold m_dfawithina m_dfawithina_1
  rw [show (((-1) : Int), ((-1) : Int), (0 : Int)) = (loI Args.N 0, hiI Args.N 0, ((0 : Nat) : Int)) from rfl, h]
  simp only [Option.bind_some]
  rw [← lohi_ok he]
  by_cases h1 : loI Args.N Args.N.length = -1
  · rw [if_pos h1]
    by_cases h2 : hiI Args.N Args.N.length < e
    · rw [if_pos h2]; exact ⟨_, rfl, by simp [h1, h2]⟩
    · rw [if_neg h2]; exact ⟨_, rfl, by simp [h1, h2]⟩
  · rw [if_neg h1]; exact ⟨_, rfl, by simp [h1]⟩
theorem within_b {n : Nat} {e : Int} (he : 0 ≤ e) (hl : Args.R.length ≤ 1000000) (hn : Args.R.length < n) : ∃ b, m_dfawithinb n e = some b ∧ (b = true ↔ In e Args.R) := by
  have h := within_loopB n e hl n 0 (Nat.zero_le _) (by omega)
  unfold m_dfawithinb m_dfawithinb_1
  rw [show (((-1) : Int), ((-1) : Int), (0 : Int)) = (loI Args.R 0, hiI Args.R 0, ((0 : Nat) : Int)) from rfl, h]
  simp only [Option.bind_some]
  rw [← lohi_ok he]
  by_cases h1 : loI Args.R Args.R.length = -1
  · rw [if_pos h1]
    by_cases h2 : hiI Args.R Args.R.length < e
    · rw [if_pos h2]; exact ⟨_, rfl, by simp [h1, h2]⟩
    · rw [if_neg h2]; exact ⟨_, rfl, by simp [h1, h2]⟩
  · rw [if_neg h1]; exact ⟨_, rfl, by simp [h1]⟩

/-- a table that may be -/
structure Ok : Prop where
  pos : 1 ≤ Args.R.length
  le : Args.R.length ≤ 512
  len : Args.N.length = 256 * Args.R.length
  next : In (Args.R.length : Nat) Args.N
  rule : In 16 Args.R

/-- sizes that the walk asks for -/
structure Small (n : Nat) : Prop where
  hN : Args.N.length ≤ 1000000
  hR : Args.R.length ≤ 1000000
  n : 2000000 < n

theorem check_ok {n : Nat} (s : Small n) : ∃ k, m_dfaCheck n = some k ∧ (k = 0 ↔ Ok) := by
  have s1 := s.hN
  have s2 := s.hR
  have s3 := s.n
  unfold m_dfaCheck
  by_cases g1 : ((Args.R.length : Nat) : Int) < 1
  · rw [if_pos g1]; exact ⟨_, rfl, by constructor; omega; intro h; have := h.pos; omega⟩
  rw [if_neg g1]
  by_cases g2 : ((Args.R.length : Nat) : Int) > 512
  · rw [if_pos g2]; exact ⟨_, rfl, by constructor; omega; intro h; have := h.le; omega⟩
  rw [if_neg g2, w64_sm (by omega) (by omega)]
  by_cases g3 : ((Args.N.length : Nat) : Int) = ((Args.R.length : Nat) : Int) * 256
  · rw [if_pos g3]
    obtain ⟨b, hb, hb2⟩ := within_a (n := n) (e := (Args.R.length : Nat)) (by omega) s1 (by omega)
    rw [hb, Option.bind_some]
    cases b
    · rw [if_neg (by simp)]
      exact ⟨_, rfl, by constructor; omega; intro h; exact absurd (hb2.2 h.next) (by simp)⟩
    · rw [if_pos rfl]
      obtain ⟨c, hc, hc2⟩ := within_b (n := n) (e := 16) (by omega) s2 (by omega)
      rw [hc, Option.bind_some]
      cases c
      · rw [if_neg (by simp)]
        exact ⟨_, rfl, by constructor; omega; intro h; exact absurd (hc2.2 h.rule) (by simp)⟩
      · rw [if_pos rfl]
        exact ⟨_, rfl, fun _ => ⟨by omega, by omega, by omega, hb2.1 rfl, hc2.1 rfl⟩, fun _ => rfl⟩
  · rw [if_neg g3]; exact ⟨_, rfl, by constructor; omega; intro h; have := h.len; omega⟩

theorem refR_loop (N : Nat) (hl : Args.R.length ≤ 1000000) : ∀ (n i : Nat), i ≤ Args.R.length → Args.R.length - i < n → (∀ j, j < i → -1 ≤ Args.R.getD j 0 ∧ Args.R.getD j 0 < 16) →
    ∃ r, iterM (B_viewportref04Check_1 N ((Args.R.length : Nat) : Int)) n (i : Int) = some r ∧ (r = .inr () ↔ In 16 Args.R) := by
  intro n
  induction n with
  | zero => intro i h1 h2; omega
  | succ n ih =>
    intro i h1 h2 h3
    by_cases hlt : i < Args.R.length
    · by_cases a : Args.R.getD i 0 < -1
      · refine ⟨.inl (), iterM_out ?_, ⟨nofun, fun h => absurd (h i hlt).1 (by omega)⟩⟩
        unfold B_viewportref04Check_1; dsimp only
        rw [if_pos (by omega), if_pos (by omega), Int.toNat_natCast, if_pos a]
      by_cases b : Args.R.getD i 0 ≥ 16
      · refine ⟨.inl (), iterM_out ?_, ⟨nofun, fun h => absurd (h i hlt).2 (by omega)⟩⟩
        unfold B_viewportref04Check_1; dsimp only
        rw [if_pos (by omega), if_pos (by omega), Int.toNat_natCast, if_neg a, if_pos b]
      obtain ⟨r, hr, hr2⟩ := ih (i + 1) (by omega) (by omega) (fun j hj => by
        rcases Nat.lt_or_ge j i with h | h
        · exact h3 j h
        · obtain rfl : j = i := by omega
          omega)
      refine ⟨r, ?_, hr2⟩
      rw [iterM_in (s' := ((i + 1 : Nat) : Int))]
      · exact hr
      · unfold B_viewportref04Check_1; dsimp only
        rw [if_pos (by omega), if_pos (by omega), Int.toNat_natCast, if_neg a, if_neg b, w64_sm (by omega) (by omega)]; rfl
    · obtain rfl : i = Args.R.length := by omega
      refine ⟨.inr (), iterM_out ?_, ⟨fun _ => h3, fun _ => rfl⟩⟩
      unfold B_viewportref04Check_1; dsimp only
      rw [if_neg (by omega)]
theorem refN_loop (N : Nat) (hl : Args.N.length ≤ 1000000) (e : Int) : ∀ (n i : Nat), i ≤ Args.N.length → Args.N.length - i < n → (∀ j, j < i → -1 ≤ Args.N.getD j 0 ∧ Args.N.getD j 0 < e) →
    ∃ r, iterM (B_viewportref04Check_2 N e) n (i : Int) = some r ∧ (r = .inr () ↔ In e Args.N) := by
  intro n
  induction n with
  | zero => intro i h1 h2; omega
  | succ n ih =>
    intro i h1 h2 h3
    by_cases hlt : i < Args.N.length
    · by_cases a : Args.N.getD i 0 < -1
      · refine ⟨.inl (), iterM_out ?_, ⟨nofun, fun h => absurd (h i hlt).1 (by omega)⟩⟩
        unfold B_viewportref04Check_2; dsimp only
        rw [if_pos (by omega), if_pos (by omega), Int.toNat_natCast, if_pos a]
      by_cases b : Args.N.getD i 0 ≥ e
      · refine ⟨.inl (), iterM_out ?_, ⟨nofun, fun h => absurd (h i hlt).2 (by omega)⟩⟩
        unfold B_viewportref04Check_2; dsimp only
        rw [if_pos (by omega), if_pos (by omega), Int.toNat_natCast, if_neg a, if_pos b]
      obtain ⟨r, hr, hr2⟩ := ih (i + 1) (by omega) (by omega) (fun j hj => by
        rcases Nat.lt_or_ge j i with h | h
        · exact h3 j h
        · obtain rfl : j = i := by omega
          omega)
      refine ⟨r, ?_, hr2⟩
      rw [iterM_in (s' := ((i + 1 : Nat) : Int))]
      · exact hr
      · unfold B_viewportref04Check_2; dsimp only
        rw [if_pos (by omega), if_pos (by omega), Int.toNat_natCast, if_neg a, if_neg b, w64_sm (by omega) (by omega)]; rfl
    · obtain rfl : i = Args.N.length := by omega
      refine ⟨.inr (), iterM_out ?_, ⟨fun _ => h3, fun _ => rfl⟩⟩
      unfold B_viewportref04Check_2; dsimp only
      rw [if_neg (by omega)]
theorem refCheck_ok {n : Nat} (s : Small n) : ∃ k, m_viewportref04Check n = some k ∧ (k = 0 ↔ Ok) := by
  have s1 := s.hN
  have s2 := s.hR
  have s3 := s.n
  unfold m_viewportref04Check
  by_cases g1 : ((Args.R.length : Nat) : Int) < 1
  · rw [if_pos g1]; exact ⟨_, rfl, by constructor; omega; intro h; have := h.pos; omega⟩
  rw [if_neg g1]
  by_cases g2 : ((Args.R.length : Nat) : Int) > 512
  · rw [if_pos g2]; exact ⟨_, rfl, by constructor; omega; intro h; have := h.le; omega⟩
  rw [if_neg g2, w64_sm (by omega) (by omega)]
  by_cases g3 : ((Args.N.length : Nat) : Int) = 256 * ((Args.R.length : Nat) : Int)
  · rw [if_pos g3]
    obtain ⟨r, hr, hr2⟩ := refR_loop n s2 n 0 (Nat.zero_le _) (by omega) (fun j hj => absurd hj (Nat.not_lt_zero _))
    rw [show m_viewportref04Check_1 n ((Args.R.length : Nat) : Int) 0 = some r from hr]
    rcases r with ⟨⟩ | ⟨⟩
    · exact ⟨_, rfl, by constructor; omega; intro h; exact absurd (hr2.2 h.rule) (by simp)⟩
    · dsimp only
      obtain ⟨q, hq, hq2⟩ := refN_loop n s1 ((Args.R.length : Nat) : Int) n 0 (Nat.zero_le _) (by omega) (fun j hj => absurd hj (Nat.not_lt_zero _))
      rw [show m_viewportref04Check_2 n ((Args.R.length : Nat) : Int) 0 = some q from hq]
      rcases q with ⟨⟩ | ⟨⟩
      · exact ⟨_, rfl, by constructor; omega; intro h; exact absurd (hq2.2 h.next) (by simp)⟩
      · exact ⟨_, rfl, fun _ => ⟨by omega, by omega, by omega, hq2.1 rfl, hr2.1 rfl⟩, fun _ => rfl⟩
  · rw [if_neg g3]; exact ⟨_, rfl, by constructor; omega; intro h; have := h.len; omega⟩


theorem byte_in (s : ByteArray) (i : Nat) : 0 ≤ byteAt s i ∧ byteAt s i < 256 := by
  unfold byteAt
  have := UInt8.toNat_lt (s.data.getD i 0)
  omega
theorem byteAt_extract {s : ByteArray} {a b k : Nat} (hb : b ≤ s.size) (h : a + k < b) : byteAt (s.extract a b) k = byteAt s (a + k) := by
  unfold byteAt
  rw [ByteArray.data_extract]
  have h1 : a + k < s.data.size := Nat.lt_of_lt_of_le h hb
  have h2 : k < (s.data.extract a b).size := by
    rw [Array.size_extract]
    have : min b s.data.size = b := Nat.min_eq_left hb
    omega
  simp only [Array.getD_eq_getD_getElem?]
  rw [Array.getElem?_eq_getElem h2, Array.getElem?_eq_getElem h1, Array.getElem_extract]
theorem size_ext {s : ByteArray} {a b : Nat} (hb : b ≤ s.size) : (s.extract a b).size = b - a := by
  rw [ByteArray.size_extract, Nat.min_eq_left hb]

/-- the state behind so many bytes from a place on; below 0: none -/
def stN (s : ByteArray) (fr : Nat) : Nat → Int
  | 0 => 0
  | i + 1 => if stN s fr i < 0 then -1 else Args.N.getD (256 * (stN s fr i).toNat + (byteAt s (fr + i)).toNat) 0
def ruN (s : ByteArray) (fr i : Nat) : Int := if stN s fr i < 0 then -1 else Args.R.getD (stN s fr i).toNat 0
theorem stN_in (ok : Ok) (s : ByteArray) (fr : Nat) : ∀ i, -1 ≤ stN s fr i ∧ stN s fr i < Args.R.length
  | 0 => by have := ok.pos; simp [stN]; omega
  | i + 1 => by
    have ih := stN_in ok s fr i
    have hb := byte_in s (fr + i)
    have hl := ok.len
    unfold stN
    split
    · have := ok.pos; omega
    · exact ok.next _ (by omega)
theorem ruN_in (ok : Ok) (s : ByteArray) (fr i : Nat) : -1 ≤ ruN s fr i ∧ ruN s fr i < 16 := by
  have h := stN_in ok s fr i
  unfold ruN
  split
  · omega
  · exact ok.rule _ (by omega)
theorem stN_dead {s : ByteArray} {fr i : Nat} (h : stN s fr i < 0) : ∀ j, i ≤ j → stN s fr j < 0 := by
  intro j hj
  induction j with
  | zero => obtain rfl : i = 0 := by omega
            exact h
  | succ j ih =>
    rcases Nat.lt_or_ge i (j + 1) with h1 | h1
    · unfold stN
      rw [if_pos (ih (by omega))]; omega
    · obtain rfl : i = j + 1 := by omega
      exact h
theorem ruN_dead {s : ByteArray} {fr i j : Nat} (h : stN s fr i < 0) (hj : i ≤ j) : ruN s fr j = -1 := by
  unfold ruN; rw [if_pos (stN_dead h j hj)]
theorem stN_ext {s : ByteArray} {a b : Nat} (hb : b ≤ s.size) : ∀ i, a + i ≤ b → stN (s.extract a b) 0 i = stN s a i
  | 0, _ => rfl
  | i + 1, h => by
    unfold stN
    rw [stN_ext hb i (by omega), Nat.zero_add, byteAt_extract hb (by omega)]

theorem idx_nat {q : Int} {b : Int} (hq : 0 ≤ q) (hb : 0 ≤ b) : (256 * q + b).toNat = 256 * q.toNat + b.toNat := by omega

/-! a scan -/
structure Sc where
  p : Nat
  q : Int
  r : Int
  t : Int
  d : Bool
/-- at most so many examinations more -/
def ex (s : ByteArray) (fr : Nat) : Nat → Sc → Sc
  | 0, c => c
  | m + 1, c =>
    if fr + c.p = s.size then { c with p := c.p + 1, d := true }
    else
      let v := Args.N.getD (256 * c.q.toNat + (byteAt s (fr + c.p)).toNat) 0
      if v < 0 then { c with p := c.p + 1, q := v, d := true }
      else if 0 ≤ Args.R.getD v.toNat 0 then ex s fr m { c with p := c.p + 1, q := v, r := Args.R.getD v.toNat 0, t := ((fr + c.p + 1 : Nat) : Int) }
      else ex s fr m { c with p := c.p + 1, q := v }
def tupE (c : Sc) : Int × Int × Int × Int × Bool := ((c.p : Int), c.q, c.r, c.t, c.d)
def Live (s : ByteArray) (fr : Nat) (c : Sc) : Prop := 0 ≤ c.q ∧ c.q < Args.R.length ∧ fr + c.p ≤ s.size

theorem exam_loop (ok : Ok) (N : Nat) (x : ByteArray) (hx : x.size ≤ 1000) (fr m : Nat) (hm : m ≤ 100000) : ∀ (k j : Nat) (p : Nat) (q r t : Int), j ≤ m → m - j < k → Live x fr ⟨p, q, r, t, false⟩ →
    iterM (B_munchscanexamine_1 N x (m : Int) (fr : Int) false) k ((p : Int), q, r, t, (j : Int)) = some (tupE (ex x fr (m - j) ⟨p, q, r, t, false⟩)) := by
  intro k
  induction k with
  | zero => intro j p q r t h1 h2; omega
  | succ k ih =>
    intro j p q r t h1 h2 hl
    obtain ⟨l1, l2, l3⟩ := hl
    simp only [] at l1 l2 l3
    have hN := ok.len
    have hle := ok.le
    by_cases hlt : j < m
    · obtain ⟨u, hu⟩ : ∃ u, m - j = u + 1 := ⟨m - j - 1, by omega⟩
      have hu2 : m - (j + 1) = u := by omega
      rw [hu]
      have e0 : w64 ((fr : Int) + (p : Int)) = ((fr + p : Nat) : Int) := by rw [w64_sm (by omega) (by omega)]; omega
      have e1 : w64 ((p : Int) + 1) = ((p + 1 : Nat) : Int) := by rw [w64_sm (by omega) (by omega)]; omega
      have e5 : w64 ((j : Int) + 1) = ((j + 1 : Nat) : Int) := by rw [w64_sm (by omega) (by omega)]; omega
      by_cases hend : fr + p = x.size
      · refine iterM_out ?_
        unfold B_munchscanexamine_1 m_munchscanext; dsimp only
        rw [if_pos (by omega), Option.bind_some, e0, if_pos (by omega), e1]
        unfold ex
        simp only [hend, if_true, tupE]
      · have hb := byte_in x (fr + p)
        have e2 : w64 (q * 256) = 256 * q := by rw [w64_sm (by omega) (by omega)]; omega
        have e3 : IntKind.i64.wrap (byteAt x (fr + p)) = byteAt x (fr + p) := w64_sm (by omega) (by omega)
        have e4 : w64 (256 * q + byteAt x (fr + p)) = 256 * q + byteAt x (fr + p) := w64_sm (by omega) (by omega)
        have e6 : w64 (((fr + p : Nat) : Int) + 1) = ((fr + p + 1 : Nat) : Int) := by rw [w64_sm (by omega) (by omega)]; omega
        have hv := ok.next (256 * q.toNat + (byteAt x (fr + p)).toNat) (by omega)
        have hxx : ex x fr (u + 1) ⟨p, q, r, t, false⟩ = if Args.N.getD (256 * q.toNat + (byteAt x (fr + p)).toNat) 0 < 0 then ⟨p + 1, Args.N.getD (256 * q.toNat + (byteAt x (fr + p)).toNat) 0, r, t, true⟩
            else if 0 ≤ Args.R.getD (Args.N.getD (256 * q.toNat + (byteAt x (fr + p)).toNat) 0).toNat 0 then ex x fr u ⟨p + 1, Args.N.getD (256 * q.toNat + (byteAt x (fr + p)).toNat) 0, Args.R.getD (Args.N.getD (256 * q.toNat + (byteAt x (fr + p)).toNat) 0).toNat 0, ((fr + p + 1 : Nat) : Int), false⟩
            else ex x fr u ⟨p + 1, Args.N.getD (256 * q.toNat + (byteAt x (fr + p)).toNat) 0, r, t, false⟩ := by
          conv => lhs; unfold ex
          simp only []
          rw [if_neg hend]
        rw [hxx]
        have hB : B_munchscanexamine_1 N x (m : Int) (fr : Int) false ((p : Int), q, r, t, (j : Int)) = if Args.N.getD (256 * q.toNat + (byteAt x (fr + p)).toNat) 0 < 0 then some (.inr (((p + 1 : Nat) : Int), Args.N.getD (256 * q.toNat + (byteAt x (fr + p)).toNat) 0, r, t, true))
            else if 0 ≤ Args.R.getD (Args.N.getD (256 * q.toNat + (byteAt x (fr + p)).toNat) 0).toNat 0 then some (.inl (((p + 1 : Nat) : Int), Args.N.getD (256 * q.toNat + (byteAt x (fr + p)).toNat) 0, Args.R.getD (Args.N.getD (256 * q.toNat + (byteAt x (fr + p)).toNat) 0).toNat 0, ((fr + p + 1 : Nat) : Int), ((j + 1 : Nat) : Int)))
            else some (.inl (((p + 1 : Nat) : Int), Args.N.getD (256 * q.toNat + (byteAt x (fr + p)).toNat) 0, r, t, ((j + 1 : Nat) : Int))) := by
          unfold B_munchscanexamine_1 m_munchscanext; dsimp only
          rw [if_pos (by omega), Option.bind_some, e0, if_neg (by omega), if_pos (by omega), Int.toNat_natCast, e1, e2, e3, e4, e5, e6, idx_nat l1 hb.1, if_pos (by omega)]
          generalize Args.N.getD (256 * q.toNat + (byteAt x (fr + p)).toNat) 0 = v at hv ⊢
          by_cases hv0 : v < 0
          · rw [if_pos hv0, if_pos hv0]
          · rw [if_neg hv0, if_neg hv0, if_pos (by omega)]
        generalize Args.N.getD (256 * q.toNat + (byteAt x (fr + p)).toNat) 0 = v at hv hB ⊢
        by_cases hv0 : v < 0
        · rw [if_pos hv0] at hB ⊢
          exact iterM_out hB
        · rw [if_neg hv0] at hB ⊢
          by_cases hr : 0 ≤ Args.R.getD v.toNat 0
          · rw [if_pos hr] at hB ⊢
            rw [iterM_in hB, ih (j + 1) _ _ _ _ (by omega) (by omega) ⟨by simp only []; omega, by simp only []; omega, by simp only []; omega⟩, hu2]
          · rw [if_neg hr] at hB ⊢
            rw [iterM_in hB, ih (j + 1) _ _ _ _ (by omega) (by omega) ⟨by simp only []; omega, by simp only []; omega, by simp only []; omega⟩, hu2]
    · obtain rfl : j = m := by omega
      refine iterM_out ?_
      unfold B_munchscanexamine_1; dsimp only
      rw [if_neg (by omega), Nat.sub_self]; rfl
theorem exam_ok (ok : Ok) {n : Nat} (s : Small n) {x : ByteArray} (hx : x.size ≤ 1000) {fr m : Nat} (hm : m ≤ 100000) {p : Nat} {q r t : Int} (hl : Live x fr ⟨p, q, r, t, false⟩) :
    m_munchscanexamine n (fr : Int) (p : Int) q r t false x (m : Int) = some (tupE (ex x fr m ⟨p, q, r, t, false⟩)) := by
  have hn := s.n
  have h := exam_loop ok n x hx fr m hm n 0 p q r t (Nat.zero_le _) (by omega) hl
  unfold m_munchscanexamine
  rw [show m_munchscanexamine_1 n x (m : Int) (fr : Int) false ((p : Int), q, r, t, 0) = _ from h, Option.bind_some]
  rfl

/-- what a scan has found as far as it came -/
theorem pick_ok {n : Nat} {a m : Int} (hm : 1 ≤ m) (hm2 : m ≤ 100000) : m_viewportkitPick n a m = some (a % m) := by
  unfold m_viewportkitPick
  rw [if_neg (by omega), if_pos (by omega)]
  have h4 := Int.emod_nonneg a (show m ≠ 0 by omega)
  have h5 := Int.emod_lt_of_pos a (show 0 < m by omega)
  by_cases ha : 0 ≤ a
  · rw [Int.tmod_eq_emod_of_nonneg ha, if_neg (by omega)]
  · have e : a.tmod m = -((-a) % m) := by
      have h1 : a = -(-a) := by omega
      conv => lhs; rw [h1, Int.neg_tmod]
      rw [Int.tmod_eq_emod_of_nonneg (by omega)]
    have h2 := Int.emod_nonneg (-a) (show m ≠ 0 by omega)
    have h3 := Int.emod_lt_of_pos (-a) (show 0 < m by omega)
    have h6 : (a % m + (-a) % m) % m = 0 := by
      rw [← Int.add_emod]
      simp [Int.add_right_neg]
    rw [e]
    by_cases h7 : a % m + (-a) % m < m
    · rw [Int.emod_eq_of_lt (by omega) h7] at h6
      rw [if_neg (by omega)]
      congr 1; omega
    · have h8 : (a % m + (-a) % m) % m = a % m + (-a) % m - m := by
        have h9 : a % m + (-a) % m = (a % m + (-a) % m - m) + m := by omega
        rw [h9, Int.add_emod_right, Int.emod_eq_of_lt (by omega) (by omega)]
        omega
      rw [if_pos (by omega), w64_sm (by omega) (by omega)]
      congr 1; omega
theorem light_ok {n : Nat} : m_viewportkitLightDfa n 24 = some (decide (Args.R.length ≤ 24 ∧ Args.N.length ≤ 6144)) := by
  unfold m_viewportkitLightDfa
  rw [w64_sm (by omega) (by omega)]
  by_cases h1 : Args.R.length ≤ 24
  · rw [if_pos (by omega)]
    by_cases h2 : Args.N.length ≤ 6144
    · rw [if_pos (by omega)]; simp [h1, h2]
    · rw [if_neg (by omega)]; simp [h1, h2]
  · rw [if_neg (by omega)]; simp [h1]

end Go.Proofs.Ytaompjplflaloaa.munchs
