/-
  The pure side. No condition.
-/
import Derived.Test.YtbligeacgkhljaaRcaPure
import Derived.IntWalk
set_option linter.unusedSimpArgs false
set_option linter.unusedVariables false
set_option linter.unusedSectionVars false
set_option linter.unnecessarySimpa false
noncomputable section
namespace Go.Proofs.Ytbligeacgkhljaa.rca21
open Go Go.Proofs.Ytbligeacgkhljaa Ax
variable [Args]


/-! loops that fill a list, or append to it -/
theorem snoc_range {β : Type} {i : Nat} {F : Nat → β} : (List.range (i + 1)).map F = (List.range i).map F ++ [F i] := by
 rw [List.range_succ, List.map_append]; rfl
theorem appLoop {α β : Type} {B : List α × Int → Option ((List α × Int) ⊕ List α)} (v : α → β) (F : Nat → β) (len C : Nat)
  (h1 : ∀ (i : Nat) (acc : List α), i < len → acc.length ≤ C + i → ∃ r, v r = F i ∧ B (acc, (i : Int)) = some (.inl (acc ++ [r], ((i + 1 : Nat) : Int))))
  (h2 : ∀ acc, B (acc, (len : Int)) = some (.inr acc)) (n : Nat) (acc0 : List α) (h0 : acc0.length ≤ C) (hn : len < n) :
  ∃ M, iterM B n (acc0, 0) = some (acc0 ++ M) ∧ M.map v = (List.range len).map F := by
 obtain ⟨r, q1, q2⟩ := hoare (B := B) (σ := List α) (fun L i => (L, i)) (fun i L => ∃ M, L = acc0 ++ M ∧ M.map v = (List.range i).map F) (fun r => ∃ M, r = acc0 ++ M ∧ M.map v = (List.range len).map F) len
  (fun i L hi hI => by
   obtain ⟨M, rfl, hM⟩ := hI
   have hl : M.length = i := by simpa using congrArg List.length hM
   obtain ⟨r, g1, g2⟩ := h1 i (acc0 ++ M) hi (by rw [List.length_append]; omega)
   refine .inl ⟨_, ⟨M ++ [r], by rw [List.append_assoc], ?_⟩, g2⟩
   rw [List.map_append, hM, snoc_range, ← g1]; rfl)
  (fun L hI => ⟨L, hI, h2 L⟩) n 0 acc0 (Nat.zero_le _) ⟨[], by simp, rfl⟩ (by omega)
 obtain ⟨M, rfl, hM⟩ := q1
 exact ⟨M, q2, hM⟩
theorem range_map {α β : Type} {f : α → β} {d : α} {l : List α} : (List.range l.length).map (fun j => f (l.getD j d)) = l.map f := by
 apply List.ext_getElem (by simp)
 intro j h1 h2
 have hj : j < l.length := by simpa using h2
 simp [List.getD_eq_getElem?_getD, hj]
/-- a loop that adds up -/
theorem foldLoop {σ : Type} {B : σ × Int → Option ((σ × Int) ⊕ σ)} (g : σ → Nat → σ) (len : Nat)
  (h1 : ∀ (i : Nat) (s : σ), i < len → B (s, (i : Int)) = some (.inl (g s i, ((i + 1 : Nat) : Int))))
  (h2 : ∀ s, B (s, (len : Int)) = some (.inr s)) (n : Nat) (s0 : σ) (hn : len < n) :
  iterM B n (s0, 0) = some ((List.range len).foldl g s0) := by
 obtain ⟨r, rfl, q2⟩ := hoare (B := B) (σ := σ) (fun s i => (s, i)) (fun i s => s = (List.range i).foldl g s0) (fun r => r = (List.range len).foldl g s0) len
  (fun i s hi hI => .inl ⟨_, by rw [List.range_succ, List.foldl_append, hI]; rfl, h1 i s hi⟩)
  (fun s hI => ⟨s, hI, h2 s⟩) n 0 s0 (Nat.zero_le _) rfl (by omega)
 exact q2
/-- rows of parts as they look -/
abbrev V8 := Int × Int × Int × Int × Int × Int × List Int × Int
def vw (r : Int × Int × Int × Int × Int × Int × NL × Int) : V8 := (r.1, r.2.1, r.2.2.1, r.2.2.2.1, r.2.2.2.2.1, r.2.2.2.2.2.1, r.2.2.2.2.2.2.1.l, r.2.2.2.2.2.2.2)
def mvK (f : Int → Int) (r : V8) : V8 := (r.1, r.2.1, r.2.2.1, r.2.2.2.1, r.2.2.2.2.1, r.2.2.2.2.2.1, r.2.2.2.2.2.2.1.map f, r.2.2.2.2.2.2.2)


def ins (i v : Int) : Int := w64 (v + i)
def rk (r : P8) (k : NL) : P8 := (r.1, r.2.1, r.2.2.1, r.2.2.2.1, r.2.2.2.2.1, r.2.2.2.2.2.1, k, r.2.2.2.2.2.2.2)
theorem vw_rk {r : P8} {k : NL} {f : Int → Int} (h : k.l = r.2.2.2.2.2.2.1.l.map f) : vw (rk r k) = mvK f (vw r) := by
 show (_, _, _, _, _, _, k.l, _) = _
 rw [h]; rfl
/-- rows whose kids are few -/
def FewK (n : Nat) (L : List P8) : Prop := ∀ r ∈ L, r.2.2.2.2.2.2.1.l.length ≤ 1000000 ∧ r.2.2.2.2.2.2.1.l.length < n
theorem fewD {n : Nat} {L : List P8} (h : FewK n L) {i : Nat} (hi : i < L.length) : (L.getD i d8).2.2.2.2.2.2.1.l.length ≤ 1000000 ∧ (L.getD i d8).2.2.2.2.2.2.1.l.length < n := h _ (getD_mem hi)
theorem few_of [Cur] (hT : Tree) {n : Nat} (hn : Cur.x.l.length < n) : FewK n Cur.x.l := fun r hr => by
 obtain ⟨i, hi, rfl⟩ := mem_getD d8 hr
 have := hT.few i
 have hm := hT.max
 exact ⟨by show (kd i).length ≤ _; omega, by show (kd i).length < _; omega⟩
def TreeOf (y : WL rw_iiiiiiLu) : Prop := @Tree _ ⟨y⟩
theorem chk {n : Nat} {x : WL rw_iiiiiiLu} (hT : TreeOf x) (hn : x.l.length < n) : q6_ n x = some 0 := @check_ok _ ⟨x⟩ n hT hn
abbrev KsOf (x : WL rw_iiiiiiLu) (i k next : Nat) (a : Int) (e : Nat) : Prop := @Ks _ ⟨x⟩ i k next a e
abbrev atOf (x : WL rw_iiiiiiLu) (i : Nat) : Int := @atF _ ⟨x⟩ i
/-- the document's check -/
theorem refC {n : Nat} {x : WL rw_iiiiiiLu} (hL : x.l.length ≤ 1000000) {K : Nat} (hK : ∀ j, (@kd _ ⟨x⟩ j).length ≤ K) (hn : x.l.length + K + 20 < n) : ∃ c, qe_ n x = some c ∧ (c = 0 → TreeOf x) := @refCheck_ok _ ⟨x⟩ n K hK hn hL


/-! rows that look alike, some of them moved: the same tree -/
def SameB (i : Int) (p q : P8) : Prop := q.1 = p.1 ∧ q.2.1 = p.2.1 ∧ q.2.2.1 = p.2.2.1 ∧ q.2.2.2.1 = p.2.2.2.1 ∧ q.2.2.2.2.1 = p.2.2.2.2.1 ∧ q.2.2.2.2.2.1 = p.2.2.2.2.2.1 ∧ q.2.2.2.2.2.2.1.l = p.2.2.2.2.2.2.1.l.map (fun v => v - i)
structure Shf (x y : WL rw_iiiiiiLu) (i E : Nat) : Prop where
 len : y.l.length = E - i
 row : ∀ j, i ≤ j → j < E → SameB i (x.l.getD j d8) (y.l.getD (j - i) d8)
theorem Shf.kids {x y : WL rw_iiiiiiLu} {i E j : Nat} (h : Shf x y i E) (h1 : i ≤ j) (h2 : j < E) : @kd _ ⟨y⟩ (j - i) = (@kd _ ⟨x⟩ j).map (fun v => v - (i : Int)) := (h.row j h1 h2).2.2.2.2.2.2
theorem Shf.at {x y : WL rw_iiiiiiLu} {i E j : Nat} (h : Shf x y i E) (h1 : i ≤ j) (h2 : j < E) : atOf y (j - i) = atOf x j := (h.row j h1 h2).2.2.1
theorem Shf.to {x y : WL rw_iiiiiiLu} {i E j : Nat} (h : Shf x y i E) (h1 : i ≤ j) (h2 : j < E) : @toF _ ⟨y⟩ (j - i) = @toF _ ⟨x⟩ j := (h.row j h1 h2).2.2.2.2.1
theorem Shf.ks {x y : WL rw_iiiiiiLu} {i E p k next e : Nat} {a : Int} (hS : Shf x y i E) (hE : E ≤ x.l.length) (hk : KsOf x p k next a e) : i ≤ p → p < E → e ≤ E → i ≤ next → KsOf y (p - i) k (next - i) a (e - i) := by
 have hk' : @Ks _ ⟨x⟩ p k next a e := hk
 clear hk
 induction hk' with
 | @done p k next a hk ha =>
  intro h1 h2 h3 h4
  exact @Ks.done _ ⟨y⟩ _ _ _ _ (by rw [hS.kids h1 h2, List.length_map]; exact hk) (by rw [hS.to h1 h2]; exact ha)
 | @kid p k next e' e a hk hv hn ha c1 c2 ih1 ih2 =>
  intro h1 h2 h3 h4
  have l1 := @Ks.lt _ ⟨x⟩ _ _ _ _ _ c1
  have l2 := @Ks.lt _ ⟨x⟩ _ _ _ _ _ c2
  have q1 := ih1 h4 (by omega) (by omega) (by omega)
  have q2 := ih2 h1 h2 h3 (by omega)
  refine @Ks.kid _ ⟨y⟩ _ _ _ (e' - i) _ _ ?_ ?_ ?_ ?_ ?_ ?_
  ·rw [hS.kids h1 h2, List.length_map]; exact hk
  ·rw [hS.kids h1 h2]
   have : ((@kd _ ⟨x⟩ p).map (fun v => v - (i : Int))).getD k 0 = (@kd _ ⟨x⟩ p).getD k 0 - (i : Int) := by
    simp [List.getD_eq_getElem?_getD, hk]
   rw [this, hv]; omega
  ·show next - i < y.l.length
   rw [hS.len]; omega
  ·have g : @atF _ ⟨y⟩ (next - i) = @atF _ ⟨x⟩ next := hS.at h4 (by omega)
   rw [g]; exact ha
  ·have g : @atF _ ⟨y⟩ (next - i) = @atF _ ⟨x⟩ next := hS.at h4 (by omega)
   rw [g, show next - i + 1 = next + 1 - i by omega]; exact q1
  ·rw [hS.to h4 (by omega)]; exact q2
theorem Shf.tree {x y : WL rw_iiiiiiLu} {i E : Nat} (hS : Shf x y i E) (hT : TreeOf x) (hi : i < E) (hE : E ≤ x.l.length) (hk : KsOf x i 0 (i + 1) (atOf x i) E) : TreeOf y := by
 have hmax : x.l.length ≤ 524288 := @Tree.max _ ⟨x⟩ hT
 have hl := hS.len
 refine @Tree.mk _ ⟨y⟩ (by show 0 < y.l.length; omega) (by show y.l.length ≤ _; omega) (fun j hj => ?_) (fun j h0 hj => ?_) ?_
 ·have hj : j < y.l.length := hj
  obtain ⟨r1, r2, r3, r4, r5, r6, r7⟩ := hS.row (i + j) (by omega) (by omega)
  rw [show i + j - i = j by omega] at r1 r2 r3 r4 r5 r6 r7
  have h : SP (x.l.getD (i + j) d8).2.1 (x.l.getD (i + j) d8).2.2.1 (x.l.getD (i + j) d8).2.2.2.1 (x.l.getD (i + j) d8).2.2.2.2.1 (x.l.getD (i + j) d8).2.2.2.2.2.1 (x.l.getD (i + j) d8).2.2.2.2.2.2.1.l.length := @Tree.sp _ ⟨x⟩ hT (i + j) (by show i + j < x.l.length; omega)
  show SP (y.l.getD j d8).2.1 (y.l.getD j d8).2.2.1 (y.l.getD j d8).2.2.2.1 (y.l.getD j d8).2.2.2.2.1 (y.l.getD j d8).2.2.2.2.2.1 (y.l.getD j d8).2.2.2.2.2.2.1.l.length
  rw [r2, r3, r4, r5, r6, r7, List.length_map]
  exact h
 ·have hj : j < y.l.length := hj
  obtain ⟨r1, r2, -⟩ := hS.row (i + j) (by omega) (by omega)
  rw [show i + j - i = j by omega] at r2
  show (y.l.getD j d8).2.1 ≠ 1
  rw [r2]
  exact @Tree.root _ ⟨x⟩ hT (i + j) (by omega) (by show i + j < x.l.length; omega)
 ·have h := hS.ks hE hk (Nat.le_refl i) hi (Nat.le_refl E) (by omega)
  rw [Nat.sub_self, show i + 1 - i = 1 by omega, ← hl] at h
  have ha := hS.at (Nat.le_refl i) hi
  rw [Nat.sub_self] at ha
  rw [← ha] at h
  exact h
theorem Tree.whole {x : WL rw_iiiiiiLu} (hT : TreeOf x) : KsOf x 0 0 (0 + 1) (atOf x 0) x.l.length := @Tree.ks _ ⟨x⟩ hT
/-- the same rows but for their bits -/
theorem TreeOf.alike {x y : WL rw_iiiiiiLu} (hT : TreeOf x) (hl : y.l.length = x.l.length) (h : ∀ j, j < x.l.length → SameB 0 (x.l.getD j d8) (y.l.getD j d8)) : TreeOf y := by
 have hp : 0 < x.l.length := @Tree.pos _ ⟨x⟩ hT
 exact Shf.tree (i := 0) (E := x.l.length) ⟨hl, fun j _ h2 => h j h2⟩ hT hp (Nat.le_refl _) (Tree.whole hT)
/-! the document's Check of a tree -/
theorem bare_true (n : Nat) (a0 a1 a2 a3 a4 a5 : Int) (a6 : NL) (a7 : Int) (h : SP a1 a2 a3 a4 a5 a6.l.length) : qv_ n a0 a1 a2 a3 a4 a5 a6 a7 = some true := by
 obtain ⟨h1, h2, h3, h4, h5, h6, h7, h8, h9⟩ := h
 have leaf := @leaf_ok _ ⟨(wl0 : WL rw_iiiiiiLu)⟩ n
 unfold qv_
 rw [if_neg (by omega), if_neg (by omega), if_neg (by omega), if_neg (by omega), if_neg (by omega)]
 have hc : a1 = 1 ∨ a1 = 2 ∨ a1 = 3 ∨ a1 = 4 ∨ a1 = 5 ∨ a1 = 6 := by omega
 rcases hc with rfl | rfl | rfl | rfl | rfl | rfl
 ·have g := h7 (by omega)
  simp only [leaf, Option.bind_some, Int.reduceEq, reduceIte, g, Bool.false_eq_true]
 ·have g := h7 (by omega)
  simp only [leaf, Option.bind_some, Int.reduceEq, reduceIte, g, Bool.false_eq_true]
 ·have g := h6 (by omega)
  have l := h9 (by omega) (by omega)
  simp only [leaf, Option.bind_some, Int.reduceEq, reduceIte, if_neg (show ¬ a3 < a2 by omega), if_neg (show ¬ a3 > a4 by omega), l]
  rfl
 ·have g := h7 (by omega)
  have g8 := h8 rfl
  have l := h9 (by omega) (by omega)
  simp only [leaf, Option.bind_some, Int.reduceEq, reduceIte, g, g8, l]
  rfl
 ·have g := h6 (by omega)
  have l := h9 (by omega) (by omega)
  simp only [leaf, Option.bind_some, Int.reduceEq, reduceIte, if_neg (show ¬ a3 < a2 by omega), if_neg (show ¬ a3 > a4 by omega), l]
  rfl
 ·have g := h6 (by omega)
  have l := h9 (by omega) (by omega)
  simp only [leaf, Option.bind_some, Int.reduceEq, reduceIte, if_neg (show ¬ a3 < a2 by omega), if_neg (show ¬ a3 > a4 by omega), l]
  rfl
theorem qzx_ {n : Nat} {y : WL rw_iiiiiiLu} (hT : TreeOf y) (hn : y.l.length + y.l.length + 20 < n) : qe_ n y = some 0 := by
 have hmax : y.l.length ≤ 524288 := @Tree.max _ ⟨y⟩ hT
 have hp : 0 < y.l.length := @Tree.pos _ ⟨y⟩ hT
 obtain ⟨r, q1, q2⟩ := hoare (B := qj_ n y) (σ := Unit) (fun _ i => i) (fun _ _ => True) (fun r => r = .inr ()) y.l.length
  (fun j _ hj _ => by
   refine .inl ⟨(), trivial, ?_⟩
   have hb := bare_true n (y.l.getD j d8).1 (y.l.getD j d8).2.1 (y.l.getD j d8).2.2.1 (y.l.getD j d8).2.2.2.1 (y.l.getD j d8).2.2.2.2.1 (y.l.getD j d8).2.2.2.2.2.1 (y.l.getD j d8).2.2.2.2.2.2.1 (y.l.getD j d8).2.2.2.2.2.2.2 (@Tree.sp _ ⟨y⟩ hT j hj)
   unfold qj_
   dsimp only
   rw [if_pos (by omega), if_pos (by omega), Int.toNat_natCast]
   dsimp only [Option.bind_some]
   rw [show qv_ n (y.l.getD j (0, 0, 0, 0, 0, 0, nl0, 0)).1 (y.l.getD j (0, 0, 0, 0, 0, 0, nl0, 0)).2.1 (y.l.getD j (0, 0, 0, 0, 0, 0, nl0, 0)).2.2.1 (y.l.getD j (0, 0, 0, 0, 0, 0, nl0, 0)).2.2.2.1 (y.l.getD j (0, 0, 0, 0, 0, 0, nl0, 0)).2.2.2.2.1 (y.l.getD j (0, 0, 0, 0, 0, 0, nl0, 0)).2.2.2.2.2.1 (y.l.getD j (0, 0, 0, 0, 0, 0, nl0, 0)).2.2.2.2.2.2.1 (y.l.getD j (0, 0, 0, 0, 0, 0, nl0, 0)).2.2.2.2.2.2.2 = some true from hb]
   dsimp only [Option.bind_some]
   rw [if_pos rfl, w64_inc (by omega)]
   by_cases c : (j : Int) > 0
   ·have g : (y.l.getD j (0, 0, 0, 0, 0, 0, nl0, 0)).2.1 ≠ 1 := @Tree.root _ ⟨y⟩ hT j (by omega) hj
    rw [if_pos c, if_neg g]
   ·rw [if_neg c])
  (fun _ _ => by
   refine ⟨.inr (), rfl, ?_⟩
   unfold qj_
   dsimp only
   rw [if_neg (by omega)])
  n 0 () (Nat.zero_le _) trivial (by omega)
 have q2 : qco_ n y 0 = some r := q2
 have he : qc_ n y 0 = some (y.l.length : Int) := @endOf _ ⟨y⟩ y.l.length 0 y.l.length (fun j => @Tree.few _ ⟨y⟩ hT j) (Tree.whole hT) hp n (by show y.l.length - 0 + y.l.length + 10 < n; omega)
 unfold qe_
 rw [if_neg (by omega), q2, q1]
 dsimp only
 rw [if_neg (by omega), he]
 dsimp only [Option.bind_some]
 rw [if_pos rfl]


/-! the document's copies -/
theorem takeS {L : List Int} {q : Nat} (h : q < L.length) : L.take (q + 1) = L.take q ++ [L.getD q 0] := by
 rw [List.take_add_one, List.getD_eq_getElem?_getD, List.getElem?_eq_getElem h]; rfl
theorem movedIn {n i : Nat} {by_ : Int} {x : WL rw_iiiiiiLu} {r : P8} {acc : List P8} (hi : i < x.l.length) (hr : x.l.getD i d8 = r) (hk : r.2.2.2.2.2.2.1.l.length ≤ 1000000) (hn : r.2.2.2.2.2.2.1.l.length < n) :
  ∃ k, qdv_ n x by_ (i : Int) r.1 r.2.1 r.2.2.1 r.2.2.2.1 r.2.2.2.2.1 r.2.2.2.2.2.1 r.2.2.2.2.2.2.2 (acc, [], 0) = some (acc, k) ∧ k.l = r.2.2.2.2.2.2.1.l.map (ins by_) := by
 subst hr
 obtain ⟨q, ⟨k, rfl, hq⟩, q2⟩ := hoare (B := qbm_ n x by_ (i : Int) (x.l.getD i d8).1 (x.l.getD i d8).2.1 (x.l.getD i d8).2.2.1 (x.l.getD i d8).2.2.2.1 (x.l.getD i d8).2.2.2.2.1 (x.l.getD i d8).2.2.2.2.2.1 (x.l.getD i d8).2.2.2.2.2.2.2) (σ := List Int) (fun L j => (acc, L, j)) (fun j L => L = ((x.l.getD i d8).2.2.2.2.2.2.1.l.take j).map (ins by_)) (fun q => ∃ k : NL, q = (acc, k) ∧ k.l = (x.l.getD i d8).2.2.2.2.2.2.1.l.map (ins by_)) (x.l.getD i d8).2.2.2.2.2.2.1.l.length
  (fun j L hj hL => by
   refine .inl ⟨L ++ [ins by_ ((x.l.getD i d8).2.2.2.2.2.2.1.l.getD j 0)], ?_, ?_⟩
   ·rw [hL, takeS hj, List.map_append]; rfl
   ·have hlen : L.length = j := by rw [hL, List.length_map, List.length_take]; omega
    have hj : j < (x.l.getD i (0, 0, 0, 0, 0, 0, nl0, 0)).2.2.2.2.2.2.1.l.length := hj
    have hk : (x.l.getD i (0, 0, 0, 0, 0, 0, nl0, 0)).2.2.2.2.2.2.1.l.length ≤ 1000000 := hk
    unfold qbm_
    dsimp only
    cases acc with
    | nil =>
     cases L with
     | nil =>
      dsimp only
      rw [if_pos (by omega), Int.toNat_natCast]
      try dsimp only [Option.bind_some]
      rw [if_pos (by omega), if_pos (by omega), Int.toNat_natCast, if_pos hj]
      try dsimp only [Option.bind_some]
      rw [w64_inc (by omega)]
      rfl
     | cons a t =>
      dsimp only
      rw [if_pos (by omega), Int.toNat_natCast]
      try dsimp only [Option.bind_some]
      rw [if_pos (by omega), if_pos (by omega), Int.toNat_natCast, if_pos hj]
      try dsimp only [Option.bind_some]
      rw [if_pos (by omega), w64_inc (by omega)]
      rfl
    | cons b u =>
     cases L with
     | nil =>
      dsimp only
      rw [if_pos (by omega), Int.toNat_natCast]
      try dsimp only [Option.bind_some]
      rw [if_pos (by omega), if_pos (by omega), Int.toNat_natCast, if_pos hj]
      try dsimp only [Option.bind_some]
      rw [w64_inc (by omega)]
      rfl
     | cons a t =>
      dsimp only
      rw [if_pos (by omega), Int.toNat_natCast]
      try dsimp only [Option.bind_some]
      rw [if_pos (by omega), if_pos (by omega), Int.toNat_natCast, if_pos hj]
      try dsimp only [Option.bind_some]
      rw [if_pos (by omega), w64_inc (by omega)]
      rfl)
  (fun L hL => by
   rw [List.take_length] at hL
   have hk : (x.l.getD i (0, 0, 0, 0, 0, 0, nl0, 0)).2.2.2.2.2.2.1.l.length ≤ 1000000 := hk
   have hlen : L.length = (x.l.getD i (0, 0, 0, 0, 0, 0, nl0, 0)).2.2.2.2.2.2.1.l.length := by rw [hL, List.length_map]; rfl
   unfold qbm_
   dsimp only
   cases acc with
   | nil =>
    cases L with
    | nil =>
     dsimp only
     rw [if_pos (by omega), Int.toNat_natCast]
     try dsimp only [Option.bind_some]
     refine ⟨_, ⟨nl0, rfl, hL⟩, ?_⟩
     rw [if_neg (by show ¬ (((x.l.getD i (0, 0, 0, 0, 0, 0, nl0, 0)).2.2.2.2.2.2.1.l.length : Nat) : Int) < (((x.l.getD i (0, 0, 0, 0, 0, 0, nl0, 0)).2.2.2.2.2.2.1.l.length : Nat) : Int); omega)]
    | cons a t =>
     dsimp only
     rw [if_pos (by omega), Int.toNat_natCast]
     try dsimp only [Option.bind_some]
     refine ⟨_, ⟨frzL (a :: t) (by omega), rfl, hL⟩, ?_⟩
     rw [if_neg (by show ¬ (((x.l.getD i (0, 0, 0, 0, 0, 0, nl0, 0)).2.2.2.2.2.2.1.l.length : Nat) : Int) < (((x.l.getD i (0, 0, 0, 0, 0, 0, nl0, 0)).2.2.2.2.2.2.1.l.length : Nat) : Int); omega), dif_pos (by omega)]
   | cons b u =>
    cases L with
    | nil =>
     dsimp only
     rw [if_pos (by omega), Int.toNat_natCast]
     try dsimp only [Option.bind_some]
     refine ⟨_, ⟨nl0, rfl, hL⟩, ?_⟩
     rw [if_neg (by show ¬ (((x.l.getD i (0, 0, 0, 0, 0, 0, nl0, 0)).2.2.2.2.2.2.1.l.length : Nat) : Int) < (((x.l.getD i (0, 0, 0, 0, 0, 0, nl0, 0)).2.2.2.2.2.2.1.l.length : Nat) : Int); omega)]
    | cons a t =>
     dsimp only
     rw [if_pos (by omega), Int.toNat_natCast]
     try dsimp only [Option.bind_some]
     refine ⟨_, ⟨frzL (a :: t) (by omega), rfl, hL⟩, ?_⟩
     rw [if_neg (by show ¬ (((x.l.getD i (0, 0, 0, 0, 0, 0, nl0, 0)).2.2.2.2.2.2.1.l.length : Nat) : Int) < (((x.l.getD i (0, 0, 0, 0, 0, 0, nl0, 0)).2.2.2.2.2.2.1.l.length : Nat) : Int); omega), dif_pos (by omega)])
  n 0 [] (Nat.zero_le _) (by simp) (by omega)
 exact ⟨k, q2, hq⟩
theorem Tree.kin {x : WL rw_iiiiiiLu} (hT : TreeOf x) : ∀ r ∈ x.l, ∀ k ∈ r.2.2.2.2.2.2.1.l, ∃ c : Nat, k = c ∧ c < x.l.length := fun r hr k hk => by
 obtain ⟨i, hi, rfl⟩ := mem_getD d8 hr
 obtain ⟨q, hq, rfl⟩ := mem_getD 0 hk
 obtain ⟨c, h1, h2, h3⟩ := @Tree.kid _ ⟨x⟩ hT i q hi hq
 exact ⟨c, h1, h3⟩
/-! Same -/
theorem same2 {n : Nat} {a b : WL rw_iiiiiiLu} {i c1 c2 c3 c4 c5 c6 c7 d1 d2 d3 d4 d5 d6 d7 : Int} {k l : NL} (h : k.l = l.l) (hk : k.l.length ≤ 1000000) (hn : k.l.length < n) : qei_ n a b i c1 c2 c3 c4 c5 c6 k c7 d1 d2 d3 d4 d5 d6 l d7 0 = some (.inr ()) := by
 obtain ⟨q, rfl, q2⟩ := hoare (B := qbu_ n a b i c1 c2 c3 c4 c5 c6 k c7 d1 d2 d3 d4 d5 d6 l d7) (σ := Unit) (fun _ j => j) (fun _ _ => True) (fun q => q = .inr ()) k.l.length
  (fun j _ hj _ => by
   refine .inl ⟨(), trivial, ?_⟩
   unfold qbu_
   dsimp only
   rw [← h, if_pos (by omega), if_pos (by omega), if_pos (by omega), Int.toNat_natCast]
   try dsimp only [Option.bind_some]
   rw [if_pos (by omega), if_pos hj]
   try dsimp only [Option.bind_some]
   rw [if_pos rfl, w64_inc (by omega)])
  (fun _ _ => ⟨_, rfl, by unfold qbu_; dsimp only; rw [if_neg (by omega)]⟩)
  n 0 () (Nat.zero_le _) trivial (by omega)
 exact q2
theorem same_ok {n : Nat} {a b : WL rw_iiiiiiLu} (h : a.l.map vw = b.l.map vw) (ha : a.l.length ≤ 1000000) (hk : FewK n a.l) (hn : a.l.length < n) : q8_ n a b = some true := by
 have hl : a.l.length = b.l.length := by simpa using congrArg List.length h
 have hrow : ∀ j, j < a.l.length → vw (a.l.getD j d8) = vw (b.l.getD j d8) := fun j hj => by
  have := congrArg (fun L => L.getD j (vw d8)) h
  simpa [List.getD_eq_getElem?_getD, hj, hl ▸ hj] using this
 obtain ⟨q, rfl, q2⟩ := hoare (B := qbw_ n a b) (σ := Unit) (fun _ j => j) (fun _ _ => True) (fun q => q = .inr ()) a.l.length
  (fun j _ hj _ => by
   refine .inl ⟨(), trivial, ?_⟩
   obtain ⟨hf1, hf2⟩ := fewD hk hj
   have hv := hrow j hj
   simp only [vw, Prod.mk.injEq] at hv
   obtain ⟨e1, e2, e3, e4, e5, e6, e7, e8⟩ := hv
   unfold qbw_
   dsimp only
   rw [if_pos (by omega), if_pos (by omega), Int.toNat_natCast]
   try dsimp only [Option.bind_some]
   rw [if_pos (by omega)]
   try dsimp only [Option.bind_some]
   erw [if_pos e1, if_pos e2, if_pos e3, if_pos e4, if_pos e5, if_pos e6, if_pos e8, if_pos (by rw [show (a.l.getD j (0, 0, 0, 0, 0, 0, nl0, 0)).2.2.2.2.2.2.1.l = _ from e7]; rfl), same2 e7 hf1 hf2]
   dsimp only
   rw [w64_inc (by omega)])
  (fun _ _ => ⟨_, rfl, by unfold qbw_; dsimp only; rw [if_neg (by omega)]⟩)
  n 0 () (Nat.zero_le _) trivial (by omega)
 have q2 : qek_ n a b 0 = some (.inr ()) := q2
 unfold q8_
 rw [if_pos (by omega), q2]


/-! the document's copies, laid down for good -/
theorem moved_okZ {n : Nat} {by_ : Int} {x : WL rw_iiiiiiLu} (hk : FewK n x.l) (hx : x.l.length ≤ 1000000) (hn : x.l.length < n) :
  ∃ z, qde_ n x by_ = some z ∧ z.l.map vw = x.l.map fun r => mvK (ins by_) (vw r) := by
 obtain ⟨M, h, hM⟩ := appLoop (B := qbo_ n x by_) vw (fun j => mvK (ins by_) (vw (x.l.getD j d8))) x.l.length 0
  (fun j acc hj hacc => by
   obtain ⟨hf1, hf2⟩ := fewD hk hj
   obtain ⟨k, g1, g2⟩ := movedIn (n := n) (by_ := by_) (acc := acc) hj rfl hf1 hf2
   refine ⟨rk (x.l.getD j d8) k, vw_rk g2, ?_⟩
   unfold qbo_
   dsimp only
   cases acc with
   | nil =>
    dsimp only
    rw [if_pos (by omega), if_pos (by omega), Int.toNat_natCast]
    try dsimp only [Option.bind_some]
    erw [g1]
    try dsimp only [Option.bind_some]
    rw [w64_inc (by omega)]
    rfl
   | cons a t =>
    dsimp only
    rw [if_pos (by omega), if_pos (by omega), Int.toNat_natCast]
    try dsimp only [Option.bind_some]
    erw [g1]
    try dsimp only [Option.bind_some]
    rw [if_pos (by omega), w64_inc (by omega)]
    rfl)
  (fun acc => by
   unfold qbo_
   dsimp only
   cases acc with
   | nil => dsimp only; rw [if_neg (by omega)]
   | cons a t => dsimp only; rw [if_neg (by omega)]) n [] (Nat.zero_le _) hn
 rw [List.nil_append] at h
 have hM' : M.map vw = x.l.map fun r => mvK (ins by_) (vw r) := by rw [hM]; exact range_map (f := fun r => mvK (ins by_) (vw r))
 have hl : M.length = x.l.length := by simpa using congrArg List.length hM'
 unfold qde_ qf3_
 rw [h]
 try dsimp only [Option.bind_some]
 cases M with
 | nil => exact ⟨_, rfl, hM'⟩
 | cons a t =>
  dsimp only
  rw [dif_pos (by omega)]
  exact ⟨_, rfl, hM'⟩
theorem sub_okZ {n i e : Nat} {x : WL rw_iiiiiiLu} (hT : TreeOf x) (hi : i < x.l.length) (he : KsOf x i 0 (i + 1) (atOf x i) e) (hel : e ≤ x.l.length) (hn : x.l.length + x.l.length + 20 < n) :
  ∃ z, qeb_ n x (i : Int) = some z ∧ z.l.map vw = ((x.l.drop i).take (e - i)).map fun r => mvK (ins (w64 (0 - (i : Int)))) (vw r) := by
 have hmax : x.l.length ≤ 524288 := @Tree.max _ ⟨x⟩ hT
 have hlt : i + 1 ≤ e := @Ks.lt _ ⟨x⟩ _ _ _ _ _ he
 have hend : qc_ n x (i : Int) = some (e : Int) := @endOf _ ⟨x⟩ x.l.length i e (fun j => @Tree.few _ ⟨x⟩ hT j) he hi n (by show x.l.length - i + x.l.length + 10 < n; omega)
 have hl : (wlSub rwf_iiiiiiLu x ((i : Nat) : Int).toNat ((e : Nat) : Int).toNat (by omega)).l = (x.l.drop i).take (e - i) := rfl
 have hll : (wlSub rwf_iiiiiiLu x ((i : Nat) : Int).toNat ((e : Nat) : Int).toNat (by omega)).l.length = e - i := by rw [hl]; simp; omega
 have kx := @few_of _ ⟨x⟩ hT n (by show x.l.length < n; omega)
 obtain ⟨M, h, hM⟩ := moved_okZ (n := n) (x := wlSub rwf_iiiiiiLu x ((i : Nat) : Int).toNat ((e : Nat) : Int).toNat (by omega)) (by_ := w64 (0 - (i : Int))) (fun r hr => kx r (List.mem_of_mem_drop (List.mem_of_mem_take hr))) (by omega) (by omega)
 unfold qeb_ qdl_
 rw [qzx_ hT hn]
 try dsimp only [Option.bind_some]
 rw [if_pos rfl, if_pos (by omega), if_pos (by omega)]
 try dsimp only [Option.bind_some]
 rw [if_pos rfl, hend]
 try dsimp only [Option.bind_some]
 rw [if_pos (by omega), if_pos (by omega), dif_pos (by omega), h]
 exact ⟨_, rfl, hM⟩


/-! any rows: whether they are a tree is told alike by both -/
theorem chkAny {n : Nat} {x : WL rw_iiiiiiLu} (hL : x.l.length ≤ 1000000) (hn : x.l.length < n) : ∃ c, q6_ n x = some c ∧ (c = 0 ↔ TreeOf x) := by
 obtain ⟨c, h1, h2⟩ := @prgCheck _ ⟨x⟩ n hn hL
 refine ⟨c, h1, fun h => h2 h, fun h => ?_⟩
 have := chk (n := n) h hn
 have h1 : q6_ n x = some c := h1
 rw [h1] at this
 exact Option.some.inj this
theorem refAny {n : Nat} {x : WL rw_iiiiiiLu} (hL : x.l.length ≤ 1000000) {K : Nat} (hK : ∀ j, (@kd _ ⟨x⟩ j).length ≤ K) (hn : x.l.length + x.l.length + K + 20 < n) : ∃ c, qe_ n x = some c ∧ (c = 0 ↔ TreeOf x) := by
 obtain ⟨c, h1, h2⟩ := refC (n := n) hL hK (by omega)
 refine ⟨c, h1, h2, fun h => ?_⟩
 have := qzx_ (n := n) h (by omega)
 rw [h1] at this
 exact Option.some.inj this
def Alike (x y : WL rw_iiiiiiLu) : Prop := y.l.map vw = x.l.map vw
theorem Alike.len {x y : WL rw_iiiiiiLu} (h : Alike x y) : y.l.length = x.l.length := by simpa using congrArg List.length h
theorem getD_map {α β : Type} {f : α → β} {l : List α} {d : α} {j : Nat} (h : j < l.length) : (l.map f).getD j (f d) = f (l.getD j d) := by
 simp [List.getD_eq_getElem?_getD, h]
theorem Alike.row {x y : WL rw_iiiiiiLu} (h : Alike x y) (j : Nat) : vw (y.l.getD j d8) = vw (x.l.getD j d8) := by
 have hl := h.len
 by_cases c : j < x.l.length
 ·have e : (y.l.map vw).getD j (vw d8) = (x.l.map vw).getD j (vw d8) := by rw [h]
  rw [getD_map (by omega), getD_map c] at e
  exact e
 ·simp [List.getD_eq_getElem?_getD, List.getElem?_eq_none (show x.l.length ≤ j by omega), List.getElem?_eq_none (show y.l.length ≤ j by omega)]
theorem Alike.symm {x y : WL rw_iiiiiiLu} (h : Alike x y) : Alike y x := Eq.symm h
theorem Alike.tree {x y : WL rw_iiiiiiLu} (h : Alike x y) (hT : TreeOf x) : TreeOf y := hT.alike h.len fun j _ => by
 have h := h.row j
 simp only [vw, Prod.mk.injEq] at h
 obtain ⟨e1, e2, e3, e4, e5, e6, e7, -⟩ := h
 exact ⟨e1, e2, e3, e4, e5, e6, by rw [e7]; simp⟩
theorem Alike.kids {x y : WL rw_iiiiiiLu} (h : Alike x y) (j : Nat) : @kd _ ⟨y⟩ j = @kd _ ⟨x⟩ j := congrArg (fun v : V8 => v.2.2.2.2.2.2.1) (h.row j)
/-! few kids -/
def sumK (x : WL rw_iiiiiiLu) : Nat → Nat
 | 0 => 0
 | i + 1 => sumK x i + (@kd _ ⟨x⟩ i).length
theorem sumK_le (x : WL rw_iiiiiiLu) : ∀ i, sumK x i ≤ i * 140737488355328
 | 0 => Nat.zero_le _
 | i + 1 => by
  have := sumK_le x i
  have h2 := @kd_le _ ⟨x⟩ i
  show sumK x i + (@kd _ ⟨x⟩ i).length ≤ _
  omega
theorem sumK_mem (x : WL rw_iiiiiiLu) : ∀ i j, j < i → (@kd _ ⟨x⟩ j).length ≤ sumK x i
 | 0, j, h => absurd h (Nat.not_lt_zero _)
 | i + 1, j, h => by
  show _ ≤ sumK x i + (@kd _ ⟨x⟩ i).length
  rcases Nat.lt_or_ge j i with c | c
  ·have := sumK_mem x i j c; omega
  ·obtain rfl : j = i := by omega
   omega
theorem lightK {n mo : Nat} {x : WL rw_iiiiiiLu} (hm : mo ≤ 1000) (hn : mo + 5 < n) : ∃ b, qbx_ n x (mo : Int) = some b ∧ (b = true → x.l.length ≤ mo ∧ ∀ j, (@kd _ ⟨x⟩ j).length ≤ 2 * mo) := by
 obtain ⟨r, hr, h⟩ := whileI (B := qbe_ n x (mo : Int)) (fun s => ∃ i : Nat, s = (((sumK x i : Nat) : Int), (i : Int)) ∧ i ≤ mo + 1 ∧ i ≤ x.l.length) (fun s => mo + 1 - s.2.toNat) (fun r => r = .inl () ∨ ∃ i : Nat, r = .inr ((sumK x i : Nat) : Int) ∧ (i = x.l.length ∨ i = mo + 1 ∧ mo + 1 ≤ x.l.length))
  (fun s hI => by
   obtain ⟨i, rfl, hi, hI⟩ := hI
   have hs := sumK_le x i
   have hk := @kd_le _ ⟨x⟩ i
   unfold qbe_
   dsimp only
   by_cases c1 : (i : Int) < ((x.l.length : Nat) : Int)
   ·rw [if_pos c1]
    by_cases c2 : (i : Int) ≤ (mo : Int)
    ·rw [if_pos c2, if_pos (by omega), w64_inc (by omega), Int.toNat_natCast]
     simp only [Option.bind_some]
     have hx : x.l.getD i (0, 0, 0, 0, 0, 0, nl0, 0) = x.l.getD i d8 := rfl
     rw [hx]
     by_cases d1 : (x.l.getD i d8).2.2.1 > 1048576
     ·rw [if_pos d1]; exact .inr ⟨_, .inl rfl, rfl⟩
     rw [if_neg d1]
     by_cases d2 : (x.l.getD i d8).2.2.2.2.1 > 1048576
     ·rw [if_pos d2]; exact .inr ⟨_, .inl rfl, rfl⟩
     rw [if_neg d2]
     by_cases d3 : (x.l.getD i d8).2.2.2.2.2.1 > 1048576
     ·rw [if_pos d3]; exact .inr ⟨_, .inl rfl, rfl⟩
     rw [if_neg d3]
     by_cases d4 : (x.l.getD i d8).2.2.1 < -1048576
     ·rw [if_pos d4]; exact .inr ⟨_, .inl rfl, rfl⟩
     rw [if_neg d4]
     by_cases d5 : (x.l.getD i d8).2.2.2.2.1 < -1048576
     ·rw [if_pos d5]; exact .inr ⟨_, .inl rfl, rfl⟩
     rw [if_neg d5]
     by_cases d6 : (x.l.getD i d8).2.2.2.2.2.1 < -1048576
     ·rw [if_pos d6]; exact .inr ⟨_, .inl rfl, rfl⟩
     rw [if_neg d6]
     have hw : w64 (((sumK x i : Nat) : Int) + (((x.l.getD i d8).2.2.2.2.2.2.1.l.length : Nat) : Int)) = ((sumK x (i + 1) : Nat) : Int) := by
      have hk : (x.l.getD i d8).2.2.2.2.2.2.1.l.length ≤ 140737488355328 := hk
      rw [w64_id (by omega) (by omega)]
      rfl
     rw [hw]
     exact .inl ⟨(_, ((i + 1 : Nat) : Int)), ⟨i + 1, rfl, by omega, by omega⟩, by dsimp only; omega, rfl⟩
    ·rw [if_neg c2]; exact .inr ⟨_, .inr ⟨i, rfl, .inr ⟨by omega, by omega⟩⟩, rfl⟩
   ·rw [if_neg c1]; exact .inr ⟨_, .inr ⟨i, rfl, .inl (by omega)⟩, rfl⟩) n (0, 0) ⟨0, rfl, by omega, Nat.zero_le _⟩ (by dsimp only; omega)
 unfold qbx_ qcy_
 rw [h]
 rcases hr with rfl | ⟨i, rfl, hi⟩
 ·exact ⟨_, rfl, fun h => by cases h⟩
 ·dsimp only
  by_cases c1 : ((x.l.length : Nat) : Int) ≤ (mo : Int)
  ·rw [if_pos c1, qyz_ (by omega) (by omega)]
   obtain rfl : i = x.l.length := by omega
   by_cases c2 : ((sumK x x.l.length : Nat) : Int) ≤ 2 * (mo : Int)
   ·rw [if_pos c2]
    refine ⟨_, rfl, fun _ => ⟨by omega, fun j => ?_⟩⟩
    by_cases c3 : j < x.l.length
    ·have := sumK_mem x _ j c3; omega
    ·have : @kd _ ⟨x⟩ j = [] := by
      show (x.l.getD j d8).2.2.2.2.2.2.1.l = []
      rw [List.getD_eq_getElem?_getD, List.getElem?_eq_none (by omega)]; rfl
     rw [this]; exact Nat.zero_le _
   ·rw [if_neg c2]; exact ⟨_, rfl, fun h => by cases h⟩
  ·rw [if_neg c1]; exact ⟨_, rfl, fun h => by cases h⟩
/-! one's own copy -/
theorem mv_id' (v : V8) : mvK id v = v := by
 obtain ⟨a, b, c, d, e, g, l, m⟩ := v
 show (a, b, c, d, e, g, l.map id, m) = _
 rw [List.map_id]
theorem ownInt {n : Nat} {x : NL} (hx : x.l.length ≤ 1000000) : ∃ k, qcu_ n x = some k ∧ k.l = x.l := by
 unfold qcu_
 by_cases h : 0 < x.l.length
 ·rw [if_pos h, if_pos (by omega), if_pos (by omega), dif_pos (by rw [List.nil_append]; omega)]
  exact ⟨_, rfl, rfl⟩
 ·rw [if_neg h, dif_pos (by simp)]
  exact ⟨_, rfl, (List.length_eq_zero_iff.1 (by omega)).symm⟩
theorem ownParts {n : Nat} {x : WL rw_iiiiiiLu} (hx : x.l.length ≤ 1000000) (hk : ∀ j, (@kd _ ⟨x⟩ j).length ≤ 1000000) (hn : x.l.length < n) : ∃ y, qb9_ n x = some y ∧ Alike x y := by
 by_cases h0 : 0 < x.l.length
 ·obtain ⟨q, ⟨M, rfl, hMl, hMv⟩, q2⟩ := hoare (B := qbb_ n x.l.length) (σ := List P8) (fun L j => (L, j)) (fun j L => L.length = x.l.length ∧ (∀ k, vw (L.getD k d8) = vw (x.l.getD k d8))) (fun q => ∃ M : List P8, q = (M, x.l.length) ∧ M.length = x.l.length ∧ ∀ k, vw (M.getD k d8) = vw (x.l.getD k d8)) x.l.length
   (fun j L hj hI => by
    obtain ⟨hL, hI⟩ := hI
    cases L with
    | nil => simp at hL; omega
    | cons a t =>
     have hkk : ((a :: t).getD j d8).2.2.2.2.2.2.1.l = @kd _ ⟨x⟩ j := congrArg (fun v : V8 => v.2.2.2.2.2.2.1) (hI j)
     obtain ⟨k, g1, g2⟩ := ownInt (n := n) (x := ((a :: t).getD j d8).2.2.2.2.2.2.1) (by rw [hkk]; exact hk j)
     refine .inl ⟨(a :: t).set j (rk ((a :: t).getD j d8) k), ⟨by rw [List.length_set]; exact hL, fun q => ?_⟩, ?_⟩
     ·rw [getD_set (by omega)]
      by_cases e : q = j
      ·subst e
       rw [if_pos rfl, ← hI q, vw_rk (f := id) (by rw [g2, List.map_id])]
       exact mv_id' _
      ·rw [if_neg e]; exact hI q
     ·unfold qbb_
      dsimp only
      rw [if_pos (by omega), if_pos (by omega), Int.toNat_natCast, if_pos (by omega)]
      try dsimp only [Option.bind_some]
      rw [show qcu_ n ((a :: t).getD j (0, 0, 0, 0, 0, 0, nl0, 0)).2.2.2.2.2.2.1 = some k from g1]
      try dsimp only [Option.bind_some]
      rw [w64_inc (by omega)]
      rfl)
   (fun L hI => by
    obtain ⟨hL, hI⟩ := hI
    cases L with
    | nil => simp at hL; omega
    | cons a t =>
     refine ⟨_, ⟨a :: t, rfl, hL, hI⟩, ?_⟩
     unfold qbb_
     dsimp only
     rw [if_neg (by omega)])
   n 0 x.l (Nat.zero_le _) ⟨rfl, fun k => rfl⟩ (by omega)
  have q2 : qdh_ n x.l.length (x.l, 0) = some (M, x.l.length) := q2
  have hAl : M.map vw = x.l.map vw := by
   apply List.ext_getElem (by simp [hMl])
   intro j h1 h2
   have h3 : j < x.l.length := by simpa using h2
   have := hMv j
   simpa [List.getD_eq_getElem?_getD, h3, hMl] using this
  unfold qb9_ qby_
  rw [if_pos h0, if_pos (by omega), if_pos (by omega), List.nil_append]
  dsimp only
  cases hxl : x.l with
  | nil => rw [hxl] at h0; simp at h0
  | cons a t =>
   dsimp only
   rw [← hxl, q2]
   try dsimp only [Option.bind_some]
   cases M with
   | nil => simp at hMl; omega
   | cons b u =>
    dsimp only
    rw [if_pos hMl.symm, dif_pos (by omega)]
    exact ⟨_, rfl, hAl⟩
 ·have hxl : x.l = [] := List.length_eq_zero_iff.1 (by omega)
  obtain ⟨m, rfl⟩ : ∃ m, n = m + 1 := ⟨n - 1, by omega⟩
  unfold qb9_ qby_
  rw [if_neg h0]
  refine ⟨frzR qc7_ [] (by simp), rfl, ?_⟩
  show ([] : List P8).map vw = x.l.map vw
  rw [hxl]


/-! Find -/
abbrev hitO (x : WL rw_iiiiiiLu) (s t : Int) (j : Nat) : Bool := @hit _ ⟨x⟩ s t j
theorem fh_cong {p q : Nat → Bool} (h : ∀ j, p j = q j) : ∀ (n a : Nat), fh p a n = fh q a n
 | 0, _ => rfl
 | n + 1, a => by
  show (if p a = true then some a else fh p (a + 1) n) = (if q a = true then some a else fh q (a + 1) n)
  rw [h a, fh_cong h n (a + 1)]
theorem Alike.hit {x y : WL rw_iiiiiiLu} (h : Alike x y) {s t : Int} (j : Nat) : hitO y s t j = hitO x s t j := by
 have h := h.row j
 simp only [vw, Prod.mk.injEq] at h
 obtain ⟨e1, e2, e3, -⟩ := h
 show decide (((y.l.getD j d8).2.1 = 1 ∨ (y.l.getD j d8).2.1 = 2) ∧ (y.l.getD j d8).1 = s ∧ (y.l.getD j d8).2.2.1 = t) = decide (((x.l.getD j d8).2.1 = 1 ∨ (x.l.getD j d8).2.1 = 2) ∧ (x.l.getD j d8).1 = s ∧ (x.l.getD j d8).2.2.1 = t)
 rw [e1, e2, e3]
theorem fh_lt {p : Nat → Bool} : ∀ {n a c : Nat}, fh p a n = some c → p c = true ∧ a ≤ c ∧ c < a + n
 | 0, _, _, h => by cases h
 | n + 1, a, c, h => by
  have h : (if p a = true then some a else fh p (a + 1) n) = some c := h
  by_cases e : p a = true
  ·rw [if_pos e] at h
   obtain rfl := Option.some.inj h
   exact ⟨e, Nat.le_refl _, by omega⟩
  ·rw [if_neg e] at h
   obtain ⟨h1, h2, h3⟩ := fh_lt h
   exact ⟨h1, by omega, by omega⟩
def oF : Option Nat → Int × Bool
 | some c => ((c : Int), true)
 | none => (0, false)
theorem prgFind {n : Nat} {x : WL rw_iiiiiiLu} {s t : Int} (hT : TreeOf x) (hn : x.l.length + x.l.length + 30 < n) : qgp_ n x s t = some (.inl (oF (fh (hitO x s t) 0 x.l.length))) := by
 have hp : 0 < x.l.length := @Tree.pos _ ⟨x⟩ hT
 have hK := fun j => @Tree.few _ ⟨x⟩ hT j
 have hK0 : (@kd _ ⟨x⟩ 0).length ≤ x.l.length := hK 0
 obtain ⟨m, rfl⟩ : ∃ m, n = m + 1 := ⟨n - 1, by omega⟩
 have h1 := @Ks.vis _ ⟨x⟩ x.l.length 0 0 1 x.l.length _ s t 0 false hK (Tree.whole hT) (by omega) hp m m (by show x.l.length - 0 + x.l.length + 9 < m; omega) (by omega)
 have h2 : qcv_ (m + 1) x 0 x s t 0 false x 0 = some (oR (fh (hitO x s t) 0 (x.l.length - 0))) := @visit1 _ ⟨x⟩ s t 0 false m 0 x.l.length (fun _ => True) hp (by omega) h1
 unfold qgp_ qg0_ qhi_
 rw [chk hT (by omega)]
 try dsimp only [Option.bind_some]
 rw [if_pos rfl, h2, Nat.sub_zero]
 cases fh (hitO x s t) 0 x.l.length <;> rfl
theorem noFind {n : Nat} {x : WL rw_iiiiiiLu} {s t c : Int} (hc : q6_ n x = some c) (h0 : c ≠ 0) : qgp_ n x s t = some (.inr ()) := by
 unfold qgp_
 rw [hc]
 try dsimp only [Option.bind_some]
 rw [if_neg h0]
theorem refFind {n : Nat} {x : WL rw_iiiiiiLu} {s t : Int} (hT : TreeOf x) (hn : x.l.length + x.l.length + 30 < n) : qb8_ n x s t = some (oF (fh (hitO x s t) 0 x.l.length)) := by
 have hmax : x.l.length ≤ 524288 := @Tree.max _ ⟨x⟩ hT
 have loop : ∀ f i, i ≤ x.l.length → x.l.length - i < f → iterM (qn_ n x s t) f (i : Int) = some (match fh (hitO x s t) i (x.l.length - i) with | some c => .inl (c : Int) | none => .inr ()) := by
  intro f
  induction f with
  | zero => intro i _ h; exact absurd h (Nat.not_lt_zero _)
  | succ f ih =>
   intro i hi hf
   rw [qr_]
   by_cases hlt : i < x.l.length
   ·have hl := @leaf_ok _ ⟨x⟩ n (x.l.getD i d8).2.1
    have hB : qn_ n x s t (i : Int) = if hitO x s t i = true then some (.inr (.inl (i : Int))) else some (.inl ((i + 1 : Nat) : Int)) := by
     unfold qn_
     dsimp only
     rw [if_pos (by omega), qzx_ hT (by omega)]
     try dsimp only [Option.bind_some]
     rw [if_pos rfl, if_pos (by omega), Int.toNat_natCast]
     try dsimp only [Option.bind_some]
     show ((qf_ n (x.l.getD i d8).2.1).bind _) = _
     rw [hl]
     try dsimp only [Option.bind_some]
     rw [w64_inc (by omega)]
     show (if _ then _ else if (x.l.getD i d8).1 = s then if (x.l.getD i d8).2.2.1 = t then _ else _ else _) = _
     have hh : hitO x s t i = decide (((x.l.getD i d8).2.1 = 1 ∨ (x.l.getD i d8).2.1 = 2) ∧ (x.l.getD i d8).1 = s ∧ (x.l.getD i d8).2.2.1 = t) := rfl
     rw [hh]
     clear hl hh
     generalize x.l.getD i d8 = r
     by_cases a1 : r.2.1 = 1 <;> by_cases a2 : r.2.1 = 2 <;> by_cases a3 : r.1 = s <;> by_cases a4 : r.2.2.1 = t <;> simp [a1, a2, a3, a4]
    rw [hB, show x.l.length - i = (x.l.length - (i + 1)) + 1 by omega]
    show _ = some (match (if hitO x s t i = true then some i else fh (hitO x s t) (i + 1) (x.l.length - (i + 1))) with | some c => (Sum.inl (c : Int) : Int ⊕ Unit) | none => .inr ())
    by_cases c : hitO x s t i = true
    ·rw [if_pos c, if_pos c]; rfl
    ·rw [if_neg c, if_neg c]
     exact ih (i + 1) (by omega) (by omega)
   ·obtain rfl : i = x.l.length := by omega
    unfold qn_
    dsimp only
    rw [if_neg (by omega), Nat.sub_self]
    rfl
 have h := loop n 0 (Nat.zero_le _) (by omega)
 unfold qb8_ qc4_
 rw [show (0 : Int) = ((0 : Nat) : Int) from rfl, h, Nat.sub_zero]
 cases fh (hitO x s t) 0 x.l.length <;> rfl
theorem noRefFind {n : Nat} {x : WL rw_iiiiiiLu} {s t c : Int} (hc : qe_ n x = some c) (h0 : c ≠ 0) (hn : 0 < n) : qb8_ n x s t = some (0, false) := by
 obtain ⟨m, hm⟩ : ∃ m, n = m + 1 := ⟨n - 1, by omega⟩
 have h : iterM (qn_ n x s t) n 0 = some (.inr ()) := by
  conv => lhs; arg 2; rw [hm]
  rw [qr_]
  unfold qn_
  dsimp only
  by_cases c1 : (0 : Int) < ((x.l.length : Nat) : Int)
  ·rw [if_pos c1, hc]
   try dsimp only [Option.bind_some]
   rw [if_neg h0]
   rfl
  ·rw [if_neg c1]; rfl
 unfold qb8_ qc4_
 rw [h]
/-! what is stale -/
abbrev stO (x : WL rw_iiiiiiLu) : List Bool := @stL _ ⟨x⟩
theorem stO_len (x : WL rw_iiiiiiLu) : (stO x).length = x.l.length := @qv0_ _ ⟨x⟩ _
theorem Alike.stale {x y : WL rw_iiiiiiLu} (h : Alike x y) : stO y = stO x := by
 have hm : ∀ j, @metF _ ⟨y⟩ j = @metF _ ⟨x⟩ j := fun j => congrArg (fun v : V8 => v.2.2.2.2.2.2.2) (h.row j)
 have : ∀ m, @stN _ ⟨y⟩ m = @stN _ ⟨x⟩ m := fun m => by
  induction m with
  | zero => show List.replicate y.l.length false = List.replicate x.l.length false; rw [h.len]
  | succ m ih =>
   show @stepS _ ⟨y⟩ (@stN _ ⟨y⟩ m) (y.l.length - (m + 1)) = @stepS _ ⟨x⟩ (@stN _ ⟨x⟩ m) (x.l.length - (m + 1))
   rw [ih, h.len]
   unfold stepS
   rw [hm, h.kids]
 show @stN _ ⟨y⟩ y.l.length = @stN _ ⟨x⟩ x.l.length
 rw [this, h.len]
theorem prgSt {n : Nat} {x : WL rw_iiiiiiLu} (hT : TreeOf x) (hn : x.l.length + x.l.length + 2 < n) : qch_ n x = some (.inl (stO x)) := @prgStale _ ⟨x⟩ n x.l.length hT (fun j => @Tree.few _ ⟨x⟩ hT j) hn
theorem refSt {n : Nat} {x : WL rw_iiiiiiLu} (hT : TreeOf x) (hn : x.l.length + x.l.length + 20 < n) : ∃ y : WL rw_b, q0_ n x = some y ∧ y.l = stO x := @refStale _ ⟨x⟩ n x.l.length hT (fun j => @Tree.few _ ⟨x⟩ hT j) (by show x.l.length + _ + 2 < n; omega) (qzx_ hT hn)
theorem noSt {n : Nat} {x : WL rw_iiiiiiLu} {c : Int} (hc : q6_ n x = some c) (h0 : c ≠ 0) : qch_ n x = some (.inr ()) := by
 unfold qch_
 rw [hc]
 try dsimp only [Option.bind_some]
 rw [if_neg h0]
theorem noRefSt {n : Nat} {x : WL rw_iiiiiiLu} {c : Int} (hc : qe_ n x = some c) (h0 : c ≠ 0) : q0_ n x = some wl0 := by
 unfold q0_
 rw [hc]
 try dsimp only [Option.bind_some]
 rw [if_neg h0]
/-! Sub -/
theorem prgSub {n i e : Nat} {x : WL rw_iiiiiiLu} (hT : TreeOf x) (hL : x.l.length ≤ 1000000) (hi : i < x.l.length) (he : KsOf x i 0 (i + 1) (atOf x i) e) (hel : e ≤ x.l.length) (hn : x.l.length + x.l.length + 30 < n) :
  ∃ z, ql1_ n x (i : Int) = some (.inl z) ∧ z.l.map vw = ((x.l.drop i).take (e - i)).map fun r => mvK (fun v => w64 (v - i)) (vw r) := by
 have hie : i + 1 ≤ e := @Ks.lt _ ⟨x⟩ _ _ _ _ _ he
 obtain ⟨M, h1, h2⟩ := @sub2 _ ⟨x⟩ x.l.length n i e (i : Int) hL (fun j => @Tree.few _ ⟨x⟩ hT j) hL he hi (by show x.l.length + _ + 20 < n; omega)
 have hl := @Sb.len _ ⟨x⟩ _ _ _ _ h2
 have h1 : qij_ n x (i : Int) x (i : Int) x (i : Int) = some M := h1
 unfold ql1_ qrr_ qg0_ qj3_
 rw [if_pos (by omega), if_pos (by omega), chk hT (by omega)]
 try dsimp only [Option.bind_some]
 rw [if_pos rfl]
 try dsimp only [Option.bind_some]
 rw [if_pos rfl, h1]
 try dsimp only [Option.bind_some]
 rw [dif_pos (by omega)]
 refine ⟨_, rfl, ?_⟩
 show M.map vw = _
 apply List.ext_getElem (by rw [List.length_map, List.length_map, List.length_take, List.length_drop]; omega)
 intro j g1 g2
 have hj : j < M.length := by simpa using g1
 obtain ⟨k, e1, e2⟩ := @Sb.row _ ⟨x⟩ _ _ _ _ h2 (i + j) (by omega) (by omega)
 rw [show i + j - i = j by omega] at e1
 have e1 : M[j] = ((x.l.getD (i + j) d8).1, (x.l.getD (i + j) d8).2.1, (x.l.getD (i + j) d8).2.2.1, (x.l.getD (i + j) d8).2.2.2.1, (x.l.getD (i + j) d8).2.2.2.2.1, (x.l.getD (i + j) d8).2.2.2.2.2.1, k, (x.l.getD (i + j) d8).2.2.2.2.2.2.2) := by
  have e0 : M.getD j (0, 0, 0, 0, 0, 0, nl0, 0) = M[j] := by simp [List.getD_eq_getElem?_getD, hj]
  rw [← e0]; exact e1
 have e3 : x.l[i + j]'(by omega) = x.l.getD (i + j) d8 := by simp [List.getD_eq_getElem?_getD, show i + j < x.l.length by omega]
 rw [List.getElem_map, List.getElem_map, List.getElem_take, List.getElem_drop, e3, e1]
 have e2 : k.l = (x.l.getD (i + j) d8).2.2.2.2.2.2.1.l.map fun v => w64 (v - i) := e2
 generalize x.l.getD (i + j) d8 = r at e2 ⊢
 show (r.1, r.2.1, r.2.2.1, r.2.2.2.1, r.2.2.2.2.1, r.2.2.2.2.2.1, k.l, r.2.2.2.2.2.2.2) = _
 rw [e2]
 rfl


/-! Take -/
def canT (x : WL rw_iiiiiiLu) (i : Nat) : Bool := decide ((x.l.getD i d8).2.1 = 2) && !(stO x).getD i false
theorem reus {n i : Nat} {x : WL rw_iiiiiiLu} (hi : i < x.l.length) : qcw_ n x (stO x) x.l.length x.l.length (i : Int) = some (canT x i) := by
 have hl := stO_len x
 unfold qcw_ canT
 rw [if_pos (by omega), Int.toNat_natCast]
 try dsimp only [Option.bind_some]
 by_cases c : (x.l.getD i (0, 0, 0, 0, 0, 0, nl0, 0)).2.1 = 2
 ·rw [if_pos c, if_pos (by omega), if_pos (by omega)]
  try dsimp only [Option.bind_some]
  have c : (x.l.getD i d8).2.1 = 2 := c
  simp only [c]
  cases (stO x).getD i false <;> rfl
 ·rw [if_neg c]
  have c : ¬ (x.l.getD i d8).2.1 = 2 := c
  rw [decide_eq_false c]
  rfl
theorem same_sub {i e : Nat} {x y : WL rw_iiiiiiLu} {a b : WL rw_iiiiiiLu} (hT : TreeOf x) (hA : Alike x y) (ha : a.l.map vw = ((y.l.drop i).take (e - i)).map fun r => mvK (fun v => w64 (v - i)) (vw r)) (hb : b.l.map vw = ((x.l.drop i).take (e - i)).map fun r => mvK (ins (w64 (0 - (i : Int)))) (vw r)) (hi : i < x.l.length) : a.l.map vw = b.l.map vw := by
 have hmax : x.l.length ≤ 524288 := @Tree.max _ ⟨x⟩ hT
 have h1 : ((y.l.drop i).take (e - i)).map vw = ((x.l.drop i).take (e - i)).map vw := by
  rw [List.map_take, List.map_drop, List.map_take, List.map_drop, hA]
 rw [ha, hb, show (fun r => mvK (fun v => w64 (v - i)) (vw r)) = (mvK fun v => w64 (v - i)) ∘ vw from rfl, ← List.map_map, h1, List.map_map]
 refine List.map_congr_left fun r hr => ?_
 have hk := Tree.kin hT r (List.mem_of_mem_drop (List.mem_of_mem_take hr))
 show mvK (fun v => w64 (v - i)) (vw r) = mvK (ins (w64 (0 - (i : Int)))) (vw r)
 unfold mvK vw
 dsimp only
 rw [show r.2.2.2.2.2.2.1.l.map (fun v => w64 (v - i)) = r.2.2.2.2.2.2.1.l.map (ins (w64 (0 - (i : Int)))) from List.map_congr_left fun k hk' => by
  obtain ⟨c, rfl, hc⟩ := hk k hk'
  unfold ins
  rw [qyz_ (x := 0 - (i : Int)) (by omega) (by omega)]
  congr 1
  omega]
theorem q07_ {n : Nat} (hn : 0 < n) : q8_ n wl0 wl0 = some true := same_ok rfl (Nat.zero_le _) (fun r h => by cases h) hn
theorem few_sub {n i e : Nat} {x a : WL rw_iiiiiiLu} {f : Int → Int} (hk : FewK n x.l) (ha : a.l.map vw = ((x.l.drop i).take (e - i)).map fun r => mvK f (vw r)) : FewK n a.l := fun r hr => by
 have hm : vw r ∈ a.l.map vw := List.mem_map_of_mem hr
 rw [ha] at hm
 obtain ⟨q, hq, he⟩ := List.mem_map.1 hm
 have h := hk q (List.mem_of_mem_drop (List.mem_of_mem_take hq))
 have he : (mvK f (vw q)).2.2.2.2.2.2.1 = r.2.2.2.2.2.2.1.l := congrArg (fun v : V8 => v.2.2.2.2.2.2.1) he
 rw [← he]
 show (q.2.2.2.2.2.2.1.l.map f).length ≤ _ ∧ (q.2.2.2.2.2.2.1.l.map f).length < n
 rw [List.length_map]
 exact h
theorem take_ok {n : Nat} {x y : WL rw_iiiiiiLu} {s t : Int} (hA : Alike x y) (hT : TreeOf x) (hx : x.l.length ≤ 120) (hn : 3000 < n) :
  ∃ a b f, qfs_ n y s t = some (a, f) ∧ qbr_ n x s t = some (b, f) ∧ q8_ n a b = some true := by
 have hY := hA.tree hT
 have hyl := hA.len
 have hF : fh (hitO y s t) 0 y.l.length = fh (hitO x s t) 0 x.l.length := by rw [hyl]; exact fh_cong (fun j => hA.hit j) _ _
 obtain ⟨z, hz, hzl⟩ := refSt (n := n) hT (by omega)
 unfold qfs_ qbr_
 rw [prgFind hY (by omega), refFind hT (by omega), hF]
 cases hf : fh (hitO x s t) 0 x.l.length with
 | none => exact ⟨_, _, _, rfl, rfl, q07_ (by omega)⟩
 | some c =>
  obtain ⟨-, -, hc⟩ := fh_lt hf
  have hc : c < x.l.length := by omega
  dsimp only [oF]
  try dsimp only [Option.bind_some]
  rw [if_pos rfl, if_pos rfl, prgSt hY (by omega)]
  dsimp only
  rw [Int.toNat_natCast, reus (by omega), if_pos (by omega)]
  try dsimp only [Option.bind_some]
  rw [Int.toNat_natCast]
  have hrow := hA.row c
  have hk2 : (y.l.getD c d8).2.1 = (x.l.getD c d8).2.1 := congrArg (fun v : V8 => v.2.1) hrow
  have hcy : canT y c = canT x c := by unfold canT; rw [hk2, hA.stale]
  rw [hcy]
  by_cases c2 : (x.l.getD c d8).2.1 = 2
  ·rw [if_pos (show (x.l.getD c (0, 0, 0, 0, 0, 0, nl0, 0)).2.1 = 2 from c2), hz]
   try dsimp only [Option.bind_some]
   have hl := stO_len x
   cases hs : (stO x).getD c false with
   | true =>
    have hcan : canT x c = false := by unfold canT; rw [hs]; simp
    rw [hcan, if_neg (by decide), hzl, if_pos (by omega)]
    try dsimp only [Option.bind_some]
    rw [hs, if_pos rfl]
    exact ⟨_, _, _, rfl, rfl, q07_ (by omega)⟩
   | false =>
    obtain ⟨e, he, hie, hel⟩ := @Tree.end _ ⟨x⟩ hT c hc
    have hel : e ≤ x.l.length := hel
    obtain ⟨e', he', hie', hel'⟩ := @Tree.end _ ⟨y⟩ hY c (by show c < y.l.length; omega)
    have hel' : e' ≤ y.l.length := hel'
    have hee : e' = e := by
     have h1 := @endOf _ ⟨x⟩ x.l.length c e (fun j => @Tree.few _ ⟨x⟩ hT j) he hc (1000 + x.l.length) (by show x.l.length - c + x.l.length + 10 < _; omega)
     have h2 : KsOf x c 0 (c + 1) (atOf x c) e' := by
      have h3 := Shf.ks (x := y) (y := x) (i := 0) (E := y.l.length) ⟨by omega, fun j _ hj => by
       have h := hA.row j
       simp only [vw, Prod.mk.injEq] at h
       obtain ⟨e1, e2, e3, e4, e5, e6, e7, -⟩ := h
       exact ⟨e1.symm, e2.symm, e3.symm, e4.symm, e5.symm, e6.symm, by rw [e7]; simp⟩⟩ (Nat.le_refl _) he' (Nat.zero_le _) (by omega) hel' (Nat.zero_le _)
      simp only [Nat.sub_zero] at h3
      have h4 : atOf y c = atOf x c := congrArg (fun v : V8 => v.2.2.1) hrow
      rw [← h4]; exact h3
     have h2 := @endOf _ ⟨x⟩ x.l.length c e' (fun j => @Tree.few _ ⟨x⟩ hT j) h2 hc (1000 + x.l.length) (by show x.l.length - c + x.l.length + 10 < _; omega)
     rw [h1] at h2
     have := Option.some.inj h2
     omega
    subst hee
    obtain ⟨a, ha, hav⟩ := prgSub (n := n) hY (by omega) (by omega) he' hel' (by omega)
    obtain ⟨b, hb, hbv⟩ := sub_okZ (n := n) hT hc he hel (by omega)
    have hcan : canT x c = true := by unfold canT; rw [hs, decide_eq_true c2]; rfl
    rw [hcan, if_pos rfl, hzl, if_pos (by omega)]
    try dsimp only [Option.bind_some]
    rw [hs, if_neg (by decide)]
    rw [ha, hb]
    refine ⟨_, _, _, rfl, rfl, ?_⟩
    have hal : a.l.length ≤ 120 := by
     have := congrArg List.length hav
     rw [List.length_map, List.length_map, List.length_take, List.length_drop] at this
     omega
    exact same_ok (same_sub hT hA hav hbv hc) (by omega) (few_sub (@few_of _ ⟨y⟩ hY n (by show y.l.length < n; omega)) hav) (by omega)
  ·rw [if_neg (show ¬ (x.l.getD c (0, 0, 0, 0, 0, 0, nl0, 0)).2.1 = 2 from c2)]
   have hcan : canT x c = false := by unfold canT; rw [decide_eq_false c2]; rfl
   rw [hcan, if_neg (by decide)]
   exact ⟨_, _, _, rfl, rfl, q07_ (by omega)⟩
theorem noTake {n : Nat} {x y : WL rw_iiiiiiLu} {s t c d : Int} (hc : q6_ n y = some c) (h0 : c ≠ 0) (hd : qe_ n x = some d) (h1 : d ≠ 0) (hn : 0 < n) :
  ∃ a b f, qfs_ n y s t = some (a, f) ∧ qbr_ n x s t = some (b, f) ∧ q8_ n a b = some true := by
 unfold qfs_ qbr_
 rw [noFind hc h0, noRefFind hd h1 hn]
 exact ⟨_, _, _, rfl, rfl, q07_ hn⟩
/-! All, Bytes -/
def gB (x : WL rw_iiiiiiLu) (s k : Int) : Int := w64 (w64 (s + (x.l.getD k.toNat d8).2.2.2.2.1) - (x.l.getD k.toNat d8).2.2.1)
theorem all_loop {n : Nat} {x : WL rw_iiiiiiLu} {z : WL rw_b} (hT : TreeOf x) (hx : x.l.length ≤ 1000) (hn : 3000 < n) (hz : z.l = stO x) : ∀ (f i : Nat), i ≤ x.l.length → x.l.length - i < f → ∃ T : List Int, T.length ≤ x.l.length - i ∧ (∀ k ∈ T, ∃ c : Nat, k = c ∧ c < x.l.length) ∧
  (∀ L : List Int, L.length ≤ i → iterM (qs_ n x) f (L, stO x, x.l.length, (i : Int)) = some (L ++ T)) ∧
  (∀ L : List Int, L.length ≤ i → iterM (ql_ n x z) f (L, (i : Int)) = some (L ++ T)) ∧
  (∀ s : Int, iterM (qt_ n x x) f ([s], stO x, x.l.length, (i : Int)) = some [T.foldl (gB x) s]) := by
 have hsl := stO_len x
 have hp : 0 < x.l.length := @Tree.pos _ ⟨x⟩ hT
 have hzl : z.l.length = x.l.length := by rw [hz, hsl]
 obtain ⟨sa, st, hs⟩ : ∃ a t, stO x = a :: t := by
  cases h : stO x with
  | nil => rw [h] at hsl; simp at hsl; omega
  | cons a t => exact ⟨a, t, rfl⟩
 intro f
 induction f with
 | zero => intro i _ h; exact absurd h (Nat.not_lt_zero _)
 | succ f ih =>
  intro i hi hf
  by_cases hlt : i < x.l.length
  ·have hr := reus (n := n) hlt
   by_cases hcan : canT x i = true
   ·obtain ⟨e, he, hie, hel⟩ := @Tree.end _ ⟨x⟩ hT i hlt
    have hel : e ≤ x.l.length := hel
    obtain ⟨T, t1, t2, t3, t4, t5⟩ := ih e hel (by omega)
    have hpe := @prgEnd _ ⟨x⟩ n (by show x.l.length < n; omega) (by show x.l.length ≤ _; omega) i e he hlt hel
    have hpe : qgw_ n x (i : Int) = some (e : Int) := hpe
    have hre : qda_ n x (i : Int) = some (e : Int) := by
     unfold qda_ qdl_
     rw [qzx_ hT (by omega)]
     try dsimp only [Option.bind_some]
     rw [if_pos rfl, if_pos (by omega), if_pos (by omega)]
     try dsimp only [Option.bind_some]
     have := @endOf _ ⟨x⟩ x.l.length i e (fun j => @Tree.few _ ⟨x⟩ hT j) he hlt n (by show x.l.length - i + x.l.length + 10 < n; omega)
     have this : qc_ n x (i : Int) = some (e : Int) := this
     rw [if_pos rfl, this]
     rfl
    have hc2 : (x.l.getD i (0, 0, 0, 0, 0, 0, nl0, 0)).2.1 = 2 := by
     unfold canT at hcan
     simp only [Bool.and_eq_true, decide_eq_true_eq] at hcan
     exact hcan.1
    have hst : (stO x).getD i false = false := by
     unfold canT at hcan
     simp only [Bool.and_eq_true, Bool.not_eq_true'] at hcan
     exact hcan.2
    refine ⟨(i : Int) :: T, by rw [List.length_cons]; omega, fun k hk => ?_, fun L hL => ?_, fun L hL => ?_, fun s => ?_⟩
    ·rcases List.mem_cons.1 hk with rfl | hk
     ·exact ⟨i, rfl, hlt⟩
     ·exact t2 k hk
    ·have hB : qs_ n x (L, stO x, x.l.length, (i : Int)) = some (.inl (L ++ [(i : Int)], stO x, x.l.length, (e : Int))) := by
      unfold qs_ qcc_ qcd_
      rw [hs] at hr ⊢
      cases L with
      | nil =>
       dsimp only
       rw [if_pos (by omega), hr, hcan]
       try dsimp only [Option.bind_some]
       rw [if_pos rfl, hpe]
       rfl
      | cons a t =>
       dsimp only
       rw [if_pos (by omega), hr, hcan]
       try dsimp only [Option.bind_some]
       rw [if_pos rfl, if_pos (by omega), hpe]
       rfl
     rw [qr_, hB]
     show iterM (qs_ n x) f (L ++ [(i : Int)], stO x, x.l.length, (e : Int)) = _
     rw [t3 (L ++ [(i : Int)]) (by rw [List.length_append]; simp; omega), List.append_assoc]
     rfl
    ·have hB : ql_ n x z (L, (i : Int)) = some (.inl (L ++ [(i : Int)], (e : Int))) := by
      unfold ql_
      cases L with
      | nil =>
       dsimp only
       rw [if_pos (by omega), if_pos (by omega), Int.toNat_natCast]
       try dsimp only [Option.bind_some]
       rw [if_pos hc2, if_pos (by omega)]
       try dsimp only [Option.bind_some]
       rw [hz, hst, if_neg (by decide), hre]
       rfl
      | cons a t =>
       dsimp only
       rw [if_pos (by omega), if_pos (by omega), Int.toNat_natCast]
       try dsimp only [Option.bind_some]
       rw [if_pos hc2, if_pos (by omega)]
       try dsimp only [Option.bind_some]
       rw [hz, hst, if_neg (by decide), if_pos (by omega), hre]
       rfl
     rw [qr_, hB]
     show iterM (ql_ n x z) f (L ++ [(i : Int)], (e : Int)) = _
     rw [t4 (L ++ [(i : Int)]) (by rw [List.length_append]; simp; omega), List.append_assoc]
     rfl
    ·have hB : qt_ n x x ([s], stO x, x.l.length, (i : Int)) = some (.inl ([gB x s (i : Int)], stO x, x.l.length, (e : Int))) := by
      unfold qt_ qel_ qhq_
      rw [hs] at hr ⊢
      dsimp only
      rw [if_pos (by omega), hr, hcan]
      try dsimp only [Option.bind_some]
      rw [if_pos rfl, if_pos (by simp)]
      try dsimp only [Option.bind_some]
      rw [if_pos (by omega)]
      try dsimp only [Option.bind_some]
      rw [hpe]
      rfl
     rw [qr_, hB]
     show iterM (qt_ n x x) f ([gB x s (i : Int)], stO x, x.l.length, (e : Int)) = _
     rw [t5]
     rfl
   ·have hcan : canT x i = false := Bool.eq_false_iff.2 hcan
    obtain ⟨T, t1, t2, t3, t4, t5⟩ := ih (i + 1) (by omega) (by omega)
    refine ⟨T, by omega, t2, fun L hL => ?_, fun L hL => ?_, fun s => ?_⟩
    ·have hB : qs_ n x (L, stO x, x.l.length, (i : Int)) = some (.inl (L, stO x, x.l.length, ((i + 1 : Nat) : Int))) := by
      unfold qs_
      rw [hs] at hr ⊢
      cases L with
      | nil =>
       dsimp only
       rw [if_pos (by omega), hr, hcan]
       try dsimp only [Option.bind_some]
       rw [if_neg (by decide), w64_inc (by omega)]
      | cons a t =>
       dsimp only
       rw [if_pos (by omega), hr, hcan]
       try dsimp only [Option.bind_some]
       rw [if_neg (by decide), w64_inc (by omega)]
     rw [qr_, hB]
     exact t3 L (by omega)
    ·have hB : ql_ n x z (L, (i : Int)) = some (.inl (L, ((i + 1 : Nat) : Int))) := by
      unfold canT at hcan
      unfold ql_
      cases L with
      | nil =>
       dsimp only
       rw [if_pos (by omega), if_pos (by omega), Int.toNat_natCast]
       try dsimp only [Option.bind_some]
       by_cases hc2 : (x.l.getD i (0, 0, 0, 0, 0, 0, nl0, 0)).2.1 = 2
       ·have hc3 : (x.l.getD i d8).2.1 = 2 := hc2
        rw [if_pos hc2, if_pos (by omega)]
        try dsimp only [Option.bind_some]
        simp only [hc3, decide_true, Bool.true_and, Bool.not_eq_false'] at hcan
        rw [hz, hcan, if_pos rfl, w64_inc (by omega)]
       ·rw [if_neg hc2, w64_inc (by omega)]
      | cons a t =>
       dsimp only
       rw [if_pos (by omega), if_pos (by omega), Int.toNat_natCast]
       try dsimp only [Option.bind_some]
       by_cases hc2 : (x.l.getD i (0, 0, 0, 0, 0, 0, nl0, 0)).2.1 = 2
       ·have hc3 : (x.l.getD i d8).2.1 = 2 := hc2
        rw [if_pos hc2, if_pos (by omega)]
        try dsimp only [Option.bind_some]
        simp only [hc3, decide_true, Bool.true_and, Bool.not_eq_false'] at hcan
        rw [hz, hcan, if_pos rfl, w64_inc (by omega)]
       ·rw [if_neg hc2, w64_inc (by omega)]
     rw [qr_, hB]
     exact t4 L (by omega)
    ·have hB : qt_ n x x ([s], stO x, x.l.length, (i : Int)) = some (.inl ([s], stO x, x.l.length, ((i + 1 : Nat) : Int))) := by
      unfold qt_
      rw [hs] at hr ⊢
      dsimp only
      rw [if_pos (by omega), hr, hcan]
      try dsimp only [Option.bind_some]
      rw [if_neg (by decide), w64_inc (by omega)]
     rw [qr_, hB]
     exact t5 s
  ·obtain rfl : i = x.l.length := by omega
   refine ⟨[], by simp, fun k hk => (by cases hk), fun L hL => ?_, fun L hL => ?_, fun s => ?_⟩
   ·rw [qr_]
    unfold qs_
    rw [hs]
    cases L <;> (dsimp only; rw [if_neg (by omega)]; simp)
   ·rw [qr_]
    unfold ql_
    cases L <;> (dsimp only; rw [if_neg (by omega)]; simp)
   ·rw [qr_]
    unfold qt_
    rw [hs]
    dsimp only
    rw [if_neg (by omega)]
    rfl
theorem sameI {n : Nat} {a b : NL} (h : a.l = b.l) (ha : a.l.length ≤ 1000000) (hn : a.l.length < n) : q2_ n a b = some true := by
 obtain ⟨q, rfl, q2⟩ := hoare (B := qbq_ n a b) (σ := Unit) (fun _ j => j) (fun _ _ => True) (fun q => q = .inr ()) a.l.length
  (fun j _ hj _ => by
   refine .inl ⟨(), trivial, ?_⟩
   unfold qbq_
   dsimp only
   rw [← h, if_pos (by omega), if_pos (by omega), if_pos (by omega), Int.toNat_natCast]
   try dsimp only [Option.bind_some]
   rw [if_pos (by omega), if_pos hj]
   try dsimp only [Option.bind_some]
   rw [if_pos rfl, w64_inc (by omega)])
  (fun _ _ => ⟨_, rfl, by unfold qbq_; dsimp only; rw [if_neg (by omega)]⟩)
  n 0 () (Nat.zero_le _) trivial (by omega)
 have q2 : qdy_ n a b 0 = some (.inr ()) := q2
 unfold q2_
 rw [if_pos (by rw [h]), q2]
theorem all_ok {n : Nat} {x : WL rw_iiiiiiLu} (hT : TreeOf x) (hx : x.l.length ≤ 120) (hn : 3000 < n) : ∃ (a b : NL) (v : Int), qfh_ n x = some a ∧ qo_ n x = some b ∧ q2_ n a b = some true ∧ qdz_ n x = some v ∧ q4_ n x = some v := by
 obtain ⟨z, hz, hzl⟩ := refSt (n := n) hT (by omega)
 obtain ⟨T, t1, t2, t3, t4, t5⟩ := all_loop (n := n) hT (by omega) hn hzl n 0 (Nat.zero_le _) (by omega)
 have t3 := t3 [] (Nat.le_refl _)
 have t4 := t4 [] (Nat.le_refl _)
 have t5 := t5 0
 have hsl := stO_len x
 have hp : 0 < x.l.length := @Tree.pos _ ⟨x⟩ hT
 obtain ⟨sa, st, hs⟩ : ∃ a t, stO x = a :: t := by
  cases h : stO x with
  | nil => rw [h] at hsl; simp at hsl; omega
  | cons a t => exact ⟨a, t, rfl⟩
 rw [List.nil_append] at t3 t4
 have hm1 : qdo_ n x = some T := by
  unfold qdo_ qe7_
  rw [prgSt hT (by omega), hs]
  dsimp only
  rw [hs] at t3
  rw [Int.toNat_natCast]
  have t3 : iterM (qs_ n x) n ([], sa :: st, x.l.length, 0) = some T := t3
  rw [t3]
  cases T <;> rfl
 have hm2 : qdp_ n 0 x x = some [T.foldl (gB x) 0] := by
  unfold qdp_ qfb_
  rw [prgSt hT (by omega), hs]
  dsimp only
  rw [hs] at t5
  rw [Int.toNat_natCast]
  have t5 : iterM (qt_ n x x) n ([0], sa :: st, x.l.length, 0) = some [T.foldl (gB x) 0] := t5
  rw [t5]
  rfl
 have hall : ∃ a : NL, qfh_ n x = some a ∧ a.l = T := by
  unfold qfh_ qdf_ qec_ qbz_
  rw [hm1]
  cases T with
  | nil => exact ⟨_, rfl, rfl⟩
  | cons a t =>
   try dsimp only [Option.bind_some]
   rw [dif_pos (by omega)]
   exact ⟨_, rfl, rfl⟩
 have href : ∃ b : NL, qo_ n x = some b ∧ b.l = T := by
  unfold qo_ qfa_
  rw [hz]
  try dsimp only [Option.bind_some]
  have t4 : iterM (ql_ n x z) n ([], 0) = some T := t4
  rw [t4]
  try dsimp only [Option.bind_some]
  cases T with
  | nil => exact ⟨_, rfl, rfl⟩
  | cons a t =>
   dsimp only
   rw [dif_pos (by omega)]
   exact ⟨_, rfl, rfl⟩
 obtain ⟨a, ha, hal⟩ := hall
 obtain ⟨b, hb, hbl⟩ := href
 refine ⟨a, b, T.foldl (gB x) 0, ha, hb, sameI (by rw [hal, hbl]) (by rw [hal]; omega) (by rw [hal]; omega), ?_, ?_⟩
 ·unfold qdz_ qdf_ qfo_
  try dsimp only [Option.bind_some]
  rw [hm2]
  rfl
 ·unfold q4_ qd1_
  rw [hb]
  try dsimp only [Option.bind_some]
  obtain ⟨q, rfl, q2⟩ := hoare (B := q3_ n x b) (σ := Int) (fun s j => (s, j)) (fun j s => s = (T.take j).foldl (gB x) 0) (fun q => q = T.foldl (gB x) 0) T.length
   (fun j s hj hI => by
    subst hI
    refine .inl ⟨_, rfl, ?_⟩
    obtain ⟨c, hc1, hc2⟩ := t2 _ (getD_mem (d := (0 : Int)) hj)
    have hj2 : j < b.l.length := by rw [hbl]; exact hj
    rw [takeS hj, List.foldl_append]
    unfold q3_
    dsimp only
    rw [if_pos (by omega), if_pos (by omega), if_pos (by omega), Int.toNat_natCast, hbl, hc1]
    try dsimp only [Option.bind_some]
    rw [if_pos (by omega)]
    try dsimp only [Option.bind_some]
    rw [w64_inc (by omega)]
    rfl)
   (fun s hI => ⟨s, by rw [hI, List.take_length], by unfold q3_; dsimp only; rw [hbl, if_neg (by omega)]⟩)
   n 0 0 (Nat.zero_le _) rfl (by omega)
  rw [show iterM (q3_ n x b) n (0, 0) = _ from q2]
  rfl
theorem noAll {n : Nat} {x : WL rw_iiiiiiLu} {c d : Int} (hc : q6_ n x = some c) (h0 : c ≠ 0) (hd : qe_ n x = some d) (h1 : d ≠ 0) (hn : 0 < n) : ∃ (a b : NL) (v : Int), qfh_ n x = some a ∧ qo_ n x = some b ∧ q2_ n a b = some true ∧ qdz_ n x = some v ∧ q4_ n x = some v := by
 obtain ⟨m, hm⟩ : ∃ m, n = m + 1 := ⟨n - 1, by omega⟩
 have l1 : qe7_ n x ([], [], 0, 0) = some [] := by rw [hm]; rfl
 have l2 : qfb_ n x x ([0], [], 0, 0) = some [0] := by rw [hm]; rfl
 have l3 : qfa_ n x wl0 ([], 0) = some [] := by rw [hm]; rfl
 have l4 : qd1_ n x nl0 (0, 0) = some 0 := by rw [hm]; rfl
 have hm1 : qdo_ n x = some [] := by
  unfold qdo_
  rw [noSt hc h0]
  dsimp only
  rw [l1]
  rfl
 have hm2 : qdp_ n 0 x x = some [0] := by
  unfold qdp_
  rw [noSt hc h0]
  dsimp only
  rw [l2]
  rfl
 have hb : qo_ n x = some nl0 := by
  unfold qo_
  rw [noRefSt hd h1]
  try dsimp only [Option.bind_some]
  rw [l3]
  rfl
 refine ⟨nl0, nl0, 0, ?_, hb, sameI rfl (Nat.zero_le _) hn, ?_, ?_⟩
 ·unfold qfh_ qdf_ qec_ qbz_
  rw [hm1]
  rfl
 ·unfold qdz_ qdf_ qfo_
  try dsimp only [Option.bind_some]
  rw [hm2]
  rfl
 ·unfold q4_
  rw [hb]
  try dsimp only [Option.bind_some]
  rw [l4]
  rfl
/-! Look -/
def gL (x : WL rw_iiiiiiLu) (s : Int) (j : Nat) : Int := maxB s (x.l.getD j d8).2.2.2.2.2.1
theorem look_ok {n : Nat} {x : WL rw_iiiiiiLu} (hT : TreeOf x) (hx : x.l.length ≤ 120) (hn : 3000 < n) : ∃ v, qfd_ n x = some v ∧ q9_ n x = some v := by
 have h1 := foldLoop (B := q5_ n x (x.l.length : Int)) (gL x) x.l.length
  (fun i s hi => by
   unfold q5_ qc2_ qls_
   dsimp only
   rw [if_pos (by omega), if_pos (by omega), Int.toNat_natCast]
   try dsimp only [Option.bind_some]
   rw [w64_inc (by omega)]
   rfl)
  (fun s => by unfold q5_; dsimp only; rw [if_neg (by omega)]) n 0 (by omega)
 have h2 := foldLoop (B := qu_ n x) (gL x) x.l.length
  (fun i s hi => by
   unfold qu_
   dsimp only
   rw [if_pos (by omega), qzx_ hT (by omega)]
   try dsimp only [Option.bind_some]
   rw [if_pos rfl, if_pos (by omega), Int.toNat_natCast]
   try dsimp only [Option.bind_some]
   rw [w64_inc (by omega)]
   rfl)
  (fun s => by unfold qu_; dsimp only; rw [if_neg (by omega)]) n 0 (by omega)
 refine ⟨_, ?_, by unfold q9_ qeo_; rw [h2]; rfl⟩
 unfold qfd_ qem_ qfc_ qd2_ qfi_
 rw [chk hT (by omega)]
 try dsimp only [Option.bind_some]
 rw [if_pos rfl, h1]
 rfl
theorem noLook {n : Nat} {x : WL rw_iiiiiiLu} {c d : Int} (hc : q6_ n x = some c) (h0 : c ≠ 0) (hd : qe_ n x = some d) (h1 : d ≠ 0) (hn : 0 < n) : ∃ v, qfd_ n x = some v ∧ q9_ n x = some v := by
 obtain ⟨m, hm⟩ : ∃ m, n = m + 1 := ⟨n - 1, by omega⟩
 refine ⟨0, ?_, ?_⟩
 ·unfold qfd_
  rw [hc]
  try dsimp only [Option.bind_some]
  rw [if_neg h0]
 ·have h : iterM (qu_ n x) n (0, 0) = some 0 := by
   conv => lhs; arg 2; rw [hm]
   rw [qr_]
   unfold qu_
   dsimp only
   by_cases c1 : (0 : Int) < ((x.l.length : Nat) : Int)
   ·rw [if_pos c1, hd]
    try dsimp only [Option.bind_some]
    rw [if_neg h1]
    rfl
   ·rw [if_neg c1]; rfl
  unfold q9_ qeo_
  rw [h]
  rfl
/-! the law -/
theorem qy0_ (g1 g2 : Int) : ∃ n, qfp_ n g1 g2 = some () := by
 let n := 5000
 refine ⟨n, ?_⟩
 have hn : 3000 < n := by decide
 have key : qbh_ n wA g1 g2 () = some () := by
  unfold qbh_
  obtain ⟨b, hb, hl⟩ := lightK (n := n) (mo := 120) (x := wA) (by omega) (by omega)
  have hb : qbx_ n wA 120 = some b := hb
  rw [hb]
  try dsimp only [Option.bind_some]
  cases b with
  | false => rfl
  | true =>
   obtain ⟨hx, hk⟩ := hl rfl
   rw [if_pos rfl]
   show (qbg_ n wA g1 g2 ()).bind _ = _
   obtain ⟨y, hy, hA⟩ := ownParts (n := n) (x := wA) (by omega) (fun j => by have := hk j; omega) (by omega)
   have hyl := hA.len
   have ky : ∀ j, (@kd _ ⟨y⟩ j).length ≤ 240 := fun j => by rw [hA.kids]; exact hk j
   obtain ⟨c, hc, hcT⟩ := chkAny (n := n) (x := y) (by omega) (by omega)
   obtain ⟨c', hc', hcT'⟩ := chkAny (n := n) (x := wA) (by omega) (by omega)
   obtain ⟨d, hd, hdT⟩ := refAny (n := n) (x := wA) (by omega) hk (by omega)
   have main : ∃ (a b : WL rw_iiiiiiLu) (f : Bool) (p q : NL) (v w : Int), qfs_ n y g1 g2 = some (a, f) ∧ qbr_ n wA g1 g2 = some (b, f) ∧ q8_ n a b = some true ∧
     qfh_ n wA = some p ∧ qo_ n wA = some q ∧ q2_ n p q = some true ∧ qdz_ n wA = some v ∧ q4_ n wA = some v ∧ qfd_ n wA = some w ∧ q9_ n wA = some w := by
    by_cases hT : TreeOf wA
    ·obtain ⟨a, b, f, t1, t2, t3⟩ := take_ok (n := n) (s := g1) (t := g2) hA hT hx hn
     obtain ⟨p, q, v, a1, a2, a3, a4, a5⟩ := all_ok (n := n) hT hx hn
     obtain ⟨w, w1, w2⟩ := look_ok (n := n) hT hx hn
     exact ⟨a, b, f, p, q, v, w, t1, t2, t3, a1, a2, a3, a4, a5, w1, w2⟩
    ·have hY : ¬ TreeOf y := fun h => hT (hA.symm.tree h)
     obtain ⟨a, b, f, t1, t2, t3⟩ := noTake (n := n) (s := g1) (t := g2) hc (fun h => hY (hcT.1 h)) hd (fun h => hT (hdT.1 h)) (by omega)
     obtain ⟨p, q, v, a1, a2, a3, a4, a5⟩ := noAll (n := n) hc' (fun h => hT (hcT'.1 h)) hd (fun h => hT (hdT.1 h)) (by omega)
     obtain ⟨w, w1, w2⟩ := noLook (n := n) hc' (fun h => hT (hcT'.1 h)) hd (fun h => hT (hdT.1 h)) (by omega)
     exact ⟨a, b, f, p, q, v, w, t1, t2, t3, a1, a2, a3, a4, a5, w1, w2⟩
   obtain ⟨a, b, f, p, q, v, w, t1, t2, t3, a1, a2, a3, a4, a5, w1, w2⟩ := main
   have t6 : qb5_ n wA a f b f () = some () := by
    unfold qb5_
    rw [t3]
    try dsimp only [Option.bind_some]
    rw [a1, a2]
    try dsimp only [Option.bind_some]
    rw [a3, a4, a5, w1, w2]
    try dsimp only [Option.bind_some]
    cases f <;> simp
   unfold qbg_ qc3_
   rw [hy]
   try dsimp only [Option.bind_some]
   rw [t1, t2]
   try dsimp only [Option.bind_some]
   rw [t6]
   rfl
 show (qbh_ n wA g1 g2 ()).bind _ = _
 rw [key]
 rfl

end Go.Proofs.Ytbligeacgkhljaa.rca21
