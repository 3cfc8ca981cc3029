/-
  The pure side. No condition.
-/
import Derived.Test.YtaompjplflaloaaMunchScanPure
import Derived.Test.YtaompjplflaloaaMunchAllTold
import Derived.IntWalk
set_option linter.unusedSimpArgs false
set_option linter.unusedVariables false
set_option linter.unusedSectionVars false
set_option linter.unnecessarySimpa false
namespace Go.Proofs.Ytaompjplflaloaa.munchw
open Go Go.Proofs.Ytaompjplflaloaa Ax
variable [Args]
/-! all lexemes -/
abbrev Q4 := Int × Int × Int × Int
def qx (x : ByteArray) (a : Nat) : Q4 := (nR x a, (a : Int), ((nTo x a : Nat) : Int), nE x a)
/-- lexemes side by side, up to a place; f tells where each begins -/
def Tile (x : ByteArray) (l : List Q4) (A : Nat) : Prop :=
  l.length ≤ A ∧ A ≤ x.size ∧ ∃ f : Nat → Nat, f 0 = 0 ∧ f l.length = A ∧ ∀ i, i < l.length → f i < x.size ∧ l.getD i (0, 0, 0, 0) = qx x (f i) ∧ nTo x (f i) = f (i + 1)
theorem Tile.nil (x : ByteArray) : Tile x [] 0 := ⟨Nat.le_refl _, Nat.zero_le _, fun _ => 0, rfl, rfl, fun i hi => absurd hi (Nat.not_lt_zero _)⟩
theorem getD_app_left {α : Type} {l m : List α} {i : Nat} {d : α} (h : i < l.length) : (l ++ m).getD i d = l.getD i d := by
  rw [List.getD_eq_getElem?_getD, List.getD_eq_getElem?_getD, List.getElem?_append_left h]
theorem getD_app_end {α : Type} {l : List α} {z d : α} : (l ++ [z]).getD l.length d = z := by
  rw [List.getD_eq_getElem?_getD, List.getElem?_append_right (Nat.le_refl _), Nat.sub_self]; rfl
theorem Tile.snoc (ok : Ok) {x : ByteArray} {l : List Q4} {A : Nat} (h : Tile x l A) (ha : A < x.size) : Tile x (l ++ [qx x A]) (nTo x A) := by
  obtain ⟨h1, h2, f, f0, f1, hf⟩ := h
  obtain ⟨t1, t2, t3, t4, t5, t6⟩ := nT_ok ok ha
  refine ⟨by simp; omega, t3, fun i => if i ≤ l.length then f i else nTo x A, by simp [f0], by simp only [List.length_append, List.length_cons, List.length_nil]; rw [if_neg (by omega)], fun i hi => ?_⟩
  simp only [List.length_append, List.length_cons, List.length_nil, Nat.zero_add] at hi
  rcases Nat.lt_or_ge i l.length with hl | hl
  · obtain ⟨g1, g2, g3⟩ := hf i hl
    simp only []
    rw [if_pos (by omega), if_pos (by omega), getD_app_left hl]
    exact ⟨g1, g2, g3⟩
  · obtain rfl : i = l.length := by omega
    simp only []
    rw [if_pos (by omega), if_neg (by omega), getD_app_end, f1]
    exact ⟨ha, rfl, rfl⟩
theorem all_loop (ok : Ok) {N : Nat} (s : Small N) {x : ByteArray} (hx : x.size ≤ 1000) : ∀ (n : Nat) (l : List Q4) (a : Nat), Tile x l a → x.size - a < n → ∃ l', iterM (B_munchAll_1 N x) n (l, (a : Int)) = some l' ∧ Tile x l' x.size := by
  intro n
  induction n with
  | zero => intro l a h1 h2; omega
  | succ n ih =>
    intro l a h1 h2
    have h3 := h1.2.1
    have h4 := h1.1
    by_cases hlt : a < x.size
    · obtain ⟨t1, t2, t3, t4, t5, t6⟩ := nT_ok ok hlt
      obtain ⟨l', g1, g2⟩ := ih (l ++ [qx x a]) (nTo x a) (h1.snoc ok hlt) (by omega)
      refine ⟨l', ?_, g2⟩
      rw [iterM_in (s' := (l ++ [qx x a], ((nTo x a : Nat) : Int)))]
      · exact g1
      · unfold B_munchAll_1
        dsimp only
        cases l with
        | nil =>
          dsimp only
          rw [if_pos (by omega), nextF ok s hx hlt, Option.bind_some]
          dsimp only
          rw [t1]; rfl
        | cons z t =>
          dsimp only
          have e : (nR x a, (a : Int), nT x a, nE x a) = qx x a := by unfold qx; rw [t1]
          rw [if_pos (by omega), nextF ok s hx hlt, Option.bind_some]
          dsimp only
          rw [e]
          have hw : w64 ((((((z :: t) ++ [qx x a])).length : Nat) : Int) - 1) = (((z :: t).length : Nat) : Int) := by
            simp only [List.length_append, List.length_cons, List.length_nil] at h4 ⊢
            rw [w64_sm (by omega) (by omega)]; omega
          rw [if_pos (by omega), hw, if_pos (by simp only [List.length_append, List.length_cons, List.length_nil]; omega), Int.toNat_natCast, getD_app_end]
          rfl
    · obtain rfl : a = x.size := by omega
      refine ⟨l, iterM_out ?_, h1⟩
      unfold B_munchAll_1
      dsimp only
      cases l with
      | nil => dsimp only; rw [if_neg (by omega)]
      | cons z t => dsimp only; rw [if_neg (by omega)]
theorem all_ok (ok : Ok) {n : Nat} (s : Small n) {x : ByteArray} (hx : x.size ≤ 1000) : ∃ l, m_munchAll n x = some l ∧ Tile x l x.size := by
  obtain ⟨c, hc, hc2⟩ := check_ok s
  have hn := s.n
  obtain ⟨l, h1, h2⟩ := all_loop ok s hx n [] 0 (Tile.nil x) (by omega)
  refine ⟨l, ?_, h2⟩
  unfold m_munchAll
  rw [hc, Option.bind_some, if_pos (hc2.2 ok), show m_munchAll_1 n x (([] : List Q4), 0) = some l from h1, Option.bind_some]
  cases l <;> rfl

end Go.Proofs.Ytaompjplflaloaa.munchw
