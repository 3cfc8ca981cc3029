/-
  What ShiftBytes says, of bytes and numbers. Own work.
-/
import Derived.Test.YtlondbckhlfibaaShiftOrderWalk
import Derived.Lib.Strings
set_option linter.unusedSimpArgs false
set_option linter.unusedVariables false
namespace Go.Proofs.Ytlondbckhlfibaa
open Go.RowKit

theorem list_ahead (S I : List UInt8) (A D p q : Nat) (h : q ≤ A) (h2 : A ≤ S.length) : ((S.take A ++ I ++ S.drop (A + D)).drop p).take (q - p) = (S.drop p).take (q - p) := by
  apply List.ext_getElem?
  intro j
  simp only [List.getElem?_take, List.getElem?_drop, List.getElem?_append, List.length_append, List.length_take, List.append_assoc]
  by_cases hj : j < q - p
  · simp only [hj, if_true]
    rw [if_pos (by omega), if_pos (by omega)]
  · simp [hj]

theorem list_behind (S I : List UInt8) (A D p q : Nat) (h : A + D ≤ p) (h2 : A + D ≤ S.length) (h3 : p ≤ q) : ((S.take A ++ I ++ S.drop (A + D)).drop (p - D + I.length)).take (q - D + I.length - (p - D + I.length)) = (S.drop p).take (q - p) := by
  apply List.ext_getElem?
  intro j
  simp only [List.getElem?_take, List.getElem?_drop, List.getElem?_append, List.length_append, List.length_take]
  have e : q - D + I.length - (p - D + I.length) = q - p := by omega
  rw [e]
  by_cases hj : j < q - p
  · simp only [hj, if_true]
    rw [if_neg (by omega), Nat.min_eq_left (by omega)]
    congr 1
    omega
  · simp [hj]

theorem ext_of_list {x y : ByteArray} (h : x.data.toList = y.data.toList) : x = y := by
  cases x; cases y
  simp at h
  simp [h]

/-- the text behind the edit -/
def editedB (s i : ByteArray) (A D : Nat) : ByteArray := s.extract 0 A ++ i ++ s.extract (A + D) s.size
theorem editedB_list (s i : ByteArray) (A D : Nat) (h : A + D ≤ s.size) : (editedB s i A D).data.toList = s.data.toList.take A ++ i.data.toList ++ s.data.toList.drop (A + D) := by
  have e : s.data.toList.length = s.size := by rw [Array.length_toList]; rfl
  simp only [editedB, ByteArray.data_append, Array.toList_append, Lib.extract_data, Nat.sub_zero, List.drop_zero]
  congr 1
  rw [List.take_of_length_le]
  rw [List.length_drop, e]
  omega

theorem bytes_facts {s i : ByteArray} {A D p q : Nat} (hs : s.size ≤ 300) (hi : i.size ≤ 300) (h : A + D ≤ s.size) (hpq : p ≤ q) (hq : q ≤ s.size) :
    ∃ X Y : Nat, startI p A D i.size = X ∧ maxI (startI p A D i.size) (endI q A D i.size) = Y ∧ X ≤ Y ∧ Y ≤ (editedB s i A D).size ∧ ((editedB s i A D).size : Int) = lenI D i.size s.size ∧ (editedB s i A D).size ≤ 600 ∧
      (p < q → meetsB p q A D i.size = false → (editedB s i A D).extract X Y = s.extract p q) := by
  have ep := bnd_id p (by omega) (by omega)
  have eq := bnd_id q (by omega) (by omega)
  have ex := bnd_id A (by omega) (by omega)
  have ey := bnd_id D (by omega) (by omega)
  have ez := bnd_id i.size (by omega) (by omega)
  have en := bnd_id s.size (by omega) (by omega)
  have e0 : s.data.toList.length = s.size := by rw [Array.length_toList]; rfl
  have e1 : i.data.toList.length = i.size := by rw [Array.length_toList]; rfl
  have e2 : (editedB s i A D).data.toList.length = (editedB s i A D).size := by rw [Array.length_toList]; rfl
  have et := editedB_list s i A D h
  have el : (editedB s i A D).size = s.size - D + i.size := by
    rw [← e2, et]
    simp only [List.length_append, List.length_take, List.length_drop, e0, e1]
    omega
  have key : ∀ X Y : Nat, (p < q → ¬ meetsP p q A D i.size → (((s.data.toList.take A ++ i.data.toList ++ s.data.toList.drop (A + D)).drop X).take (Y - X) = (s.data.toList.drop p).take (q - p))) → (p < q → meetsB p q A D i.size = false → (editedB s i A D).extract X Y = s.extract p q) := by
    intro X Y k h1 h2
    apply ext_of_list
    rw [Lib.extract_data, Lib.extract_data, et]
    apply k h1
    intro hm
    have := (meetsB_iff p q A D i.size).2 (by rw [ep, eq, ex, ey, ez]; exact hm)
    rw [h2] at this
    cases this
  simp only [startI, endI, lenI, maxI, ep, eq, ex, ey, ez, en]
  by_cases c1 : p < A
  · by_cases c2 : q ≤ A
    · refine ⟨p, q, ?_, ?_, hpq, by omega, by omega, by omega, key p q fun _ _ => list_ahead _ _ _ _ _ _ c2 (by omega)⟩ <;> (repeat' split) <;> omega
    · by_cases c3 : A + D ≤ q
      · refine ⟨p, q - D + i.size, ?_, ?_, by omega, by omega, by omega, by omega, key p (q - D + i.size) fun h1 hm => ?_⟩
        · (repeat' split) <;> omega
        · (repeat' split) <;> omega
        · unfold meetsP at hm
          have d0 : D = 0 := by omega
          have i0 : i.size = 0 := by omega
          subst d0
          have in0 : i.data.toList = [] := List.eq_nil_of_length_eq_zero (by omega)
          rw [in0, i0, List.append_nil]
          simp only [Nat.add_zero, Nat.sub_zero, List.take_append_drop]
      · refine ⟨p, A, ?_, ?_, by omega, by omega, by omega, by omega, key p A fun h1 hm => ?_⟩
        · (repeat' split) <;> omega
        · (repeat' split) <;> omega
        · unfold meetsP at hm
          omega
  · by_cases c2 : A + D ≤ p
    · refine ⟨p - D + i.size, q - D + i.size, ?_, ?_, by omega, by omega, by omega, by omega, key _ _ fun h1 hm => ?_⟩
      · (repeat' split) <;> omega
      · (repeat' split) <;> omega
      · have := list_behind s.data.toList i.data.toList A D p q c2 (by omega) hpq
        rw [e1] at this
        exact this
    · by_cases c3 : A + D ≤ q
      · refine ⟨A + i.size, q - D + i.size, ?_, ?_, by omega, by omega, by omega, by omega, key _ _ fun h1 hm => ?_⟩
        · (repeat' split) <;> omega
        · (repeat' split) <;> omega
        · unfold meetsP at hm
          omega
      · refine ⟨A + i.size, A + i.size, ?_, ?_, by omega, by omega, by omega, by omega, key _ _ fun h1 hm => ?_⟩
        · (repeat' split) <;> omega
        · (repeat' split) <;> omega
        · unfold meetsP at hm
          omega

end Go.Proofs.Ytlondbckhlfibaa
