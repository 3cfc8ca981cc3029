/-
  The pure side. No condition.
-/
import Derived.Test.YtofkckljnmphdaaSpfPure
import Derived.IntWalk
set_option linter.unusedSimpArgs false
set_option linter.unusedVariables false
set_option linter.unusedSectionVars false
set_option linter.unnecessarySimpa false
noncomputable section
namespace Go.Proofs.Ytofkckljnmphdaa.spf20
open Go Go.Proofs.Ytofkckljnmphdaa Ax
variable [Args]


/-! loops that fill a list, or append to it -/
theorem snoc_range {β : Type} {i : Nat} {F : Nat → β} : (List.range (i + 1)).map F = (List.range i).map F ++ [F i] := by
 rw [List.range_succ, List.map_append]; rfl
theorem appLoop {α β : Type} {B : List α × Int → Option ((List α × Int) ⊕ List α)} (v : α → β) (F : Nat → β) (len C : Nat)
  (h1 : ∀ (i : Nat) (acc : List α), i < len → acc.length ≤ C + i → ∃ r, v r = F i ∧ B (acc, (i : Int)) = some (.inl (acc ++ [r], ((i + 1 : Nat) : Int))))
  (h2 : ∀ acc, B (acc, (len : Int)) = some (.inr acc)) (n : Nat) (acc0 : List α) (h0 : acc0.length ≤ C) (hn : len < n) :
  ∃ M, iterM B n (acc0, 0) = some (acc0 ++ M) ∧ M.map v = (List.range len).map F := by
 obtain ⟨r, q1, q2⟩ := hoare (B := B) (σ := List α) (fun L i => (L, i)) (fun i L => ∃ M, L = acc0 ++ M ∧ M.map v = (List.range i).map F) (fun r => ∃ M, r = acc0 ++ M ∧ M.map v = (List.range len).map F) len
  (fun i L hi hI => by
   obtain ⟨M, rfl, hM⟩ := hI
   have hl : M.length = i := by simpa using congrArg List.length hM
   obtain ⟨r, g1, g2⟩ := h1 i (acc0 ++ M) hi (by rw [List.length_append]; omega)
   refine .inl ⟨_, ⟨M ++ [r], by rw [List.append_assoc], ?_⟩, g2⟩
   rw [List.map_append, hM, snoc_range, ← g1]; rfl)
  (fun L hI => ⟨L, hI, h2 L⟩) n 0 acc0 (Nat.zero_le _) ⟨[], by simp, rfl⟩ (by omega)
 obtain ⟨M, rfl, hM⟩ := q1
 exact ⟨M, q2, hM⟩
theorem ext_getD {α : Type} {d : α} {L M : List α} (hl : L.length = M.length) (h : ∀ j, j < M.length → L.getD j d = M.getD j d) : L = M := by
 apply List.ext_getElem hl
 intro j h1 h2
 have := h j h2
 simpa [List.getD_eq_getElem?_getD, h1, h2] using this
theorem range_getD {β : Type} {F : Nat → β} {d : β} {len j : Nat} (h : j < len) : ((List.range len).map F).getD j d = F j := by
 simp [List.getD_eq_getElem?_getD, h]
theorem range_map {α β : Type} {f : α → β} {d : α} {l : List α} : (List.range l.length).map (fun j => f (l.getD j d)) = l.map f := by
 apply List.ext_getElem (by simp)
 intro j h1 h2
 have hj : j < l.length := by simpa using h2
 simp [List.getD_eq_getElem?_getD, hj]
theorem fillLoop {α : Type} {B : List α × Int → Option ((List α × Int) ⊕ List α)} (d : α) (F : Nat → α) (len : Nat)
  (h1 : ∀ (i : Nat) (L : List α), i < len → L.length = len → B (L, (i : Int)) = some (.inl (L.set i (F i), ((i + 1 : Nat) : Int))))
  (h2 : ∀ L, B (L, (len : Int)) = some (.inr L)) (n : Nat) (L0 : List α) (h0 : L0.length = len) (hn : len < n) :
  iterM B n (L0, 0) = some ((List.range len).map F) := by
 obtain ⟨r, rfl, q2⟩ := hoare (B := B) (σ := List α) (fun L i => (L, i)) (fun i L => L.length = len ∧ ∀ j, j < i → L.getD j d = F j) (fun r => r = (List.range len).map F) len
  (fun i L hi hI => .inl ⟨_, ⟨by rw [List.length_set, hI.1], fun j hj => by
   rw [getD_set (by rw [hI.1]; exact hi)]
   by_cases e : j = i
   ·rw [if_pos e, e]
   ·rw [if_neg e]; exact hI.2 j (by omega)⟩, h1 i L hi hI.1⟩)
  (fun L hI => ⟨L, ext_getD (d := d) (by simp [hI.1]) fun j hj => by
   have hj : j < len := by simpa using hj
   rw [hI.2 j hj, range_getD hj], h2 L⟩) n 0 L0 (Nat.zero_le _) ⟨h0, fun j hj => absurd hj (Nat.not_lt_zero _)⟩ (by omega)
 exact q2
/-- a loop that adds up -/
theorem foldLoop {σ : Type} {B : σ × Int → Option ((σ × Int) ⊕ σ)} (g : σ → Nat → σ) (len : Nat)
  (h1 : ∀ (i : Nat) (s : σ), i < len → B (s, (i : Int)) = some (.inl (g s i, ((i + 1 : Nat) : Int))))
  (h2 : ∀ s, B (s, (len : Int)) = some (.inr s)) (n : Nat) (s0 : σ) (hn : len < n) :
  iterM B n (s0, 0) = some ((List.range len).foldl g s0) := by
 obtain ⟨r, rfl, q2⟩ := hoare (B := B) (σ := σ) (fun s i => (s, i)) (fun i s => s = (List.range i).foldl g s0) (fun r => r = (List.range len).foldl g s0) len
  (fun i s hi hI => .inl ⟨_, by rw [List.range_succ, List.foldl_append, hI]; rfl, h1 i s hi⟩)
  (fun s hI => ⟨s, hI, h2 s⟩) n 0 s0 (Nat.zero_le _) rfl (by omega)
 exact q2
theorem getD_take {α : Type} {l : List α} {d : α} {i j : Nat} (h : j < i) : (l.take i).getD j d = l.getD j d := by
 simp [List.getD_eq_getElem?_getD, List.getElem?_take, h]
theorem getD_drop {α : Type} {l : List α} {d : α} {i j : Nat} : (l.drop i).getD j d = l.getD (i + j) d := by
 simp [List.getD_eq_getElem?_getD]
/-- rows of parts as they look -/
abbrev V8 := Int × Int × Int × Int × Int × Int × List Int × Int
def vw (r : Int × Int × Int × Int × Int × Int × NL × Int) : V8 := (r.1, r.2.1, r.2.2.1, r.2.2.2.1, r.2.2.2.2.1, r.2.2.2.2.2.1, r.2.2.2.2.2.2.1.l, r.2.2.2.2.2.2.2)
def mvK (f : Int → Int) (r : V8) : V8 := (r.1, r.2.1, r.2.2.1, r.2.2.2.1, r.2.2.2.2.1, r.2.2.2.2.2.1, r.2.2.2.2.2.2.1.map f, r.2.2.2.2.2.2.2)


/-! the program's Put -/
def aft (e b v : Int) : Int := if v ≥ e then w64 (v + b) else v
def ins (i v : Int) : Int := w64 (v + i)
theorem put1 {n : Nat} {v e b : Int} : m_treePut1q2 n v [e] [b] = some (aft e b v) := by
 unfold m_treePut1q2 aft
 rw [if_pos (by simp), if_pos (by simp)]
 show (if v ≥ e then some (w64 (v + b)) else some v) = _
 split <;> rfl
theorem put2 {n : Nat} {v i : Int} : m_treePut2q2 n v [i] = some (ins i v) := by
 unfold m_treePut2q2
 rw [if_pos (by simp)]
 rfl
theorem each1 {n : Nat} {x : NL} {e b : Int} (hx : x.l.length ≤ 1000000) (hn : x.l.length < n) : ∃ k, m_treeeachintintq1 n x e b = some k ∧ k.l = x.l.map (aft e b) := by
 unfold m_treeeachintintq1
 by_cases h0 : x.l.length = 0
 ·rw [if_pos (by omega)]
  exact ⟨_, rfl, by rw [List.length_eq_zero_iff.1 h0]; rfl⟩
 ·rw [if_neg (by omega), if_pos (by omega), if_pos (by omega), Int.toNat_natCast]
  have h := fillLoop (B := B_treeeachintintq1_1 n [e] [b] x.l.length x (x.l.length : Int)) 0 (fun i => aft e b (x.l.getD i 0)) x.l.length
   (fun i L hi hL => by
    unfold B_treeeachintintq1_1
    dsimp only
    rw [if_pos (by omega), if_pos (by omega), Int.toNat_natCast, if_pos hi]
    dsimp only [Option.bind_some]
    rw [put1]
    dsimp only [Option.bind_some]
    rw [if_pos (by omega), if_pos (by omega), w64_inc (by omega)])
   (fun L => by
    unfold B_treeeachintintq1_1
    dsimp only
    rw [if_neg (by omega)]) n (List.replicate x.l.length 0) (by simp) hn
  unfold m_treeeachintintq1_1
  rw [h, range_map]
  dsimp only [Option.bind_some]
  rw [if_pos (by simp), dif_pos (by rw [List.length_map]; omega)]
  exact ⟨_, rfl, rfl⟩
theorem each2 {n : Nat} {x : NL} {i : Int} (hx : x.l.length ≤ 1000000) (hn : x.l.length < n) : ∃ k, m_treeeachintintq2 n x i = some k ∧ k.l = x.l.map (ins i) := by
 unfold m_treeeachintintq2
 by_cases h0 : x.l.length = 0
 ·rw [if_pos (by omega)]
  exact ⟨_, rfl, by rw [List.length_eq_zero_iff.1 h0]; rfl⟩
 ·rw [if_neg (by omega), if_pos (by omega), if_pos (by omega), Int.toNat_natCast]
  have h := fillLoop (B := B_treeeachintintq2_1 n [i] x.l.length x (x.l.length : Int)) 0 (fun j => ins i (x.l.getD j 0)) x.l.length
   (fun j L hi hL => by
    unfold B_treeeachintintq2_1
    dsimp only
    rw [if_pos (by omega), if_pos (by omega), Int.toNat_natCast, if_pos hi]
    dsimp only [Option.bind_some]
    rw [put2]
    dsimp only [Option.bind_some]
    rw [if_pos (by omega), if_pos (by omega), w64_inc (by omega)])
   (fun L => by
    unfold B_treeeachintintq2_1
    dsimp only
    rw [if_neg (by omega)]) n (List.replicate x.l.length 0) (by simp) hn
  unfold m_treeeachintintq2_1
  rw [h, range_map]
  dsimp only [Option.bind_some]
  rw [if_pos (by simp), dif_pos (by rw [List.length_map]; omega)]
  exact ⟨_, rfl, rfl⟩
def rk (r : P8) (k : NL) : P8 := (r.1, r.2.1, r.2.2.1, r.2.2.2.1, r.2.2.2.2.1, r.2.2.2.2.2.1, k, r.2.2.2.2.2.2.2)
theorem vw_rk {r : P8} {k : NL} {f : Int → Int} (h : k.l = r.2.2.2.2.2.2.1.l.map f) : vw (rk r k) = mvK f (vw r) := by
 show (_, _, _, _, _, _, k.l, _) = _
 rw [h]; rfl
/-- rows whose kids are few -/
def FewK (n : Nat) (L : List P8) : Prop := ∀ r ∈ L, r.2.2.2.2.2.2.1.l.length ≤ 1000000 ∧ r.2.2.2.2.2.2.1.l.length < n
theorem fewD {n : Nat} {L : List P8} (h : FewK n L) {i : Nat} (hi : i < L.length) : (L.getD i d8).2.2.2.2.2.2.1.l.length ≤ 1000000 ∧ (L.getD i d8).2.2.2.2.2.2.1.l.length < n := h _ (getD_mem hi)
theorem putL1 {n : Nat} {a b y : WL rw_iiiiiiLu} {e d i : Int} (hk : FewK n y.l) (hy : y.l.length ≤ 1000000) (hn : y.l.length < n) : ∃ M, m_treePutq1_1 n a b e d i y (y.l.length : Int) ([], 0) = some M ∧ M.map vw = y.l.map fun r => mvK (aft e d) (vw r) := by
 obtain ⟨M, h, hM⟩ := appLoop (B := B_treePutq1_1 n a b e d i y (y.l.length : Int)) vw (fun j => mvK (aft e d) (vw (y.l.getD j d8))) y.l.length 0
  (fun j acc hj hacc => by
   obtain ⟨hf1, hf2⟩ := fewD hk hj
   obtain ⟨k, g1, g2⟩ := each1 (e := e) (b := d) hf1 hf2
   refine ⟨rk (y.l.getD j d8) k, vw_rk g2, ?_⟩
   ·unfold B_treePutq1_1
    dsimp only
    rw [if_pos (by omega), if_pos (by omega), Int.toNat_natCast]
    dsimp only [Option.bind_some]
    unfold m_treemovedq1
    rw [show m_treeeachintintq1 n (y.l.getD j (0, 0, 0, 0, 0, 0, nl0, 0)).2.2.2.2.2.2.1 e d = some k from g1]
    dsimp only [Option.bind_some]
    rw [if_pos (by omega), w64_inc (by omega)]
    rfl)
  (fun acc => by
   unfold B_treePutq1_1
   dsimp only
   rw [if_neg (by omega)]) n [] (Nat.zero_le _) hn
 rw [List.nil_append] at h
 exact ⟨M, h, by rw [hM]; exact range_map (f := fun r => mvK (aft e d) (vw r))⟩
theorem putL2 {n : Nat} {a y : WL rw_iiiiiiLu} {e d i : Int} {acc : List P8} (hk : FewK n y.l) (hy : y.l.length ≤ 1000000) (hn : y.l.length < n) (ha : acc.length ≤ 1000000) : ∃ M, m_treePutq1_2 n a e d i y (y.l.length : Int) (acc, 0) = some (acc ++ M) ∧ M.map vw = y.l.map fun r => mvK (ins i) (vw r) := by
 obtain ⟨M, h, hM⟩ := appLoop (B := B_treePutq1_2 n a e d i y (y.l.length : Int)) vw (fun j => mvK (ins i) (vw (y.l.getD j d8))) y.l.length 1000000
  (fun j acc hj hacc => by
   obtain ⟨hf1, hf2⟩ := fewD hk hj
   obtain ⟨k, g1, g2⟩ := each2 (i := i) hf1 hf2
   refine ⟨rk (y.l.getD j d8) k, vw_rk g2, ?_⟩
   ·unfold B_treePutq1_2
    dsimp only
    rw [if_pos (by omega), if_pos (by omega), Int.toNat_natCast]
    dsimp only [Option.bind_some]
    unfold m_treemovedq2
    rw [show m_treeeachintintq2 n (y.l.getD j (0, 0, 0, 0, 0, 0, nl0, 0)).2.2.2.2.2.2.1 i = some k from g1]
    dsimp only [Option.bind_some]
    rw [if_pos (by omega), w64_inc (by omega)]
    rfl)
  (fun acc => by
   unfold B_treePutq1_2
   dsimp only
   rw [if_neg (by omega)]) n acc ha hn
 exact ⟨M, h, by rw [hM]; exact range_map (f := fun r => mvK (ins i) (vw r))⟩
theorem putL3 {n : Nat} {y : WL rw_iiiiiiLu} {e d : Int} {acc : List P8} (hk : FewK n y.l) (hy : y.l.length ≤ 1000000) (hn : y.l.length < n) (ha : acc.length ≤ 2000000) : ∃ M, m_treePutq1_3 n e d y (y.l.length : Int) (acc, 0) = some (acc ++ M) ∧ M.map vw = y.l.map fun r => mvK (aft e d) (vw r) := by
 obtain ⟨M, h, hM⟩ := appLoop (B := B_treePutq1_3 n e d y (y.l.length : Int)) vw (fun j => mvK (aft e d) (vw (y.l.getD j d8))) y.l.length 2000000
  (fun j acc hj hacc => by
   obtain ⟨hf1, hf2⟩ := fewD hk hj
   obtain ⟨k, g1, g2⟩ := each1 (e := e) (b := d) hf1 hf2
   refine ⟨rk (y.l.getD j d8) k, vw_rk g2, ?_⟩
   ·unfold B_treePutq1_3
    dsimp only
    rw [if_pos (by omega), if_pos (by omega), Int.toNat_natCast]
    dsimp only [Option.bind_some]
    unfold m_treemovedq1
    rw [show m_treeeachintintq1 n (y.l.getD j (0, 0, 0, 0, 0, 0, nl0, 0)).2.2.2.2.2.2.1 e d = some k from g1]
    dsimp only [Option.bind_some]
    rw [if_pos (by omega), w64_inc (by omega)]
    rfl)
  (fun acc => by
   unfold B_treePutq1_3
   dsimp only
   rw [if_neg (by omega)]) n acc ha hn
 exact ⟨M, h, by rw [hM]; exact range_map (f := fun r => mvK (aft e d) (vw r))⟩
/-- what a part at e in the place of i fits by -/
def fitR (p q : P8) : Bool := p.1 == q.1 && p.2.1 == q.2.1 && p.2.2.1 == q.2.2.1 && p.2.2.2.2.1 == q.2.2.2.2.1
theorem fits_ok {n : Nat} {p q : P8} : m_partsFitsq1 n p.1 p.2.1 p.2.2.1 p.2.2.2.1 p.2.2.2.2.1 p.2.2.2.2.2.1 p.2.2.2.2.2.2.1 p.2.2.2.2.2.2.2 q.1 q.2.1 q.2.2.1 q.2.2.2.1 q.2.2.2.2.1 q.2.2.2.2.2.1 q.2.2.2.2.2.2.1 q.2.2.2.2.2.2.2 = some (fitR p q) := by
 unfold m_partsFitsq1 fitR
 by_cases h1 : p.1 = q.1 <;> by_cases h2 : p.2.1 = q.2.1 <;> by_cases h3 : p.2.2.1 = q.2.2.1 <;> by_cases h4 : p.2.2.2.2.1 = q.2.2.2.2.1 <;> simp [h1, h2, h3, h4]
theorem few_of [Cur] (hT : Tree) {n : Nat} (hn : Cur.x.l.length < n) : FewK n Cur.x.l := fun r hr => by
 obtain ⟨i, hi, rfl⟩ := mem_getD d8 hr
 have := hT.few i
 have hm := hT.max
 exact ⟨by show (kd i).length ≤ _; omega, by show (kd i).length < _; omega⟩
def TreeOf (y : WL rw_iiiiiiLu) : Prop := @Tree _ ⟨y⟩
theorem chk {n : Nat} {x : WL rw_iiiiiiLu} (hT : TreeOf x) (hn : x.l.length < n) : m_treeCheckq1 n x = some 0 := @check_ok _ ⟨x⟩ n hT hn
abbrev KsOf (x : WL rw_iiiiiiLu) (i k next : Nat) (a : Int) (e : Nat) : Prop := @Ks _ ⟨x⟩ i k next a e
abbrev atOf (x : WL rw_iiiiiiLu) (i : Nat) : Int := @atF _ ⟨x⟩ i
theorem pEnd {n i e : Nat} {x : WL rw_iiiiiiLu} (hn : x.l.length < n) (hL : x.l.length ≤ 1000000) (h : KsOf x i 0 (i + 1) (atOf x i) e) (hi : i < x.l.length) (he : e ≤ x.l.length) : m_partsEndq1 n x (i : Int) = some (e : Int) := @prgEnd _ ⟨x⟩ n hn hL i e h hi he
theorem put_ok {n i e : Nat} {x o : WL rw_iiiiiiLu} (hT : TreeOf x) (hO : TreeOf o) (hx : x.l.length ≤ 500) (ho : o.l.length ≤ 500) (hn : 2000 < n) (hi : i < x.l.length) (he : KsOf x i 0 (i + 1) (atOf x i) e) (hel : e ≤ x.l.length) (hf : fitR (x.l.getD i d8) (o.l.getD 0 d8) = true) :
  ∃ M, m_treePutq1 n x (i : Int) o = some (.inr M) ∧ M.map vw = (x.l.take i).map (fun r => mvK (aft e (o.l.length - (e - i))) (vw r)) ++ o.l.map (fun r => mvK (ins i) (vw r)) ++ (x.l.drop e).map (fun r => mvK (aft e (o.l.length - (e - i))) (vw r)) := by
 have hlt := @Ks.lt _ ⟨x⟩ _ _ _ _ _ he
 have hpo := @Tree.pos _ ⟨o⟩ hO
 have kx := @few_of _ ⟨x⟩ hT n (by show x.l.length < n; omega)
 have ko := @few_of _ ⟨o⟩ hO n (by show o.l.length < n; omega)
 unfold m_treePutq1
 rw [chk hT (by omega)]
 try dsimp only [Option.bind_some]
 rw [if_pos rfl, chk hO (by omega)]
 try dsimp only [Option.bind_some]
 rw [if_pos rfl, if_neg (by omega), if_neg (by omega), if_pos (by omega)]
 try dsimp only [Option.bind_some]
 have hpo : 0 < o.l.length := hpo
 rw [if_pos (by omega)]
 try dsimp only [Option.bind_some]
 rw [fits_ok]
 try dsimp only [Option.bind_some]
 have hf : fitR (x.l.getD i (0, 0, 0, 0, 0, 0, nl0, 0)) (o.l.getD ((0 : Int)).toNat (0, 0, 0, 0, 0, 0, nl0, 0)) = true := hf
 rw [if_pos (show fitR (x.l.getD ((i : Nat) : Int).toNat (0, 0, 0, 0, 0, 0, nl0, 0)) (o.l.getD ((0 : Int)).toNat (0, 0, 0, 0, 0, 0, nl0, 0)) = true from hf), pEnd (by omega) (by omega) he hi hel]
 try dsimp only [Option.bind_some]
 rw [w64_sm (x := (e : Int) - i) (by omega) (by omega), w64_sm (x := (o.l.length : Int) - _) (by omega) (by omega), w64_sm (x := (x.l.length : Int) + _) (by omega) (by omega)]
 rw [if_neg (by omega), if_pos (by omega), if_pos (by omega), if_pos (by omega)]
 rw [dif_pos (show 0 ≤ ((i : Nat) : Int).toNat ∧ ((i : Nat) : Int).toNat ≤ x.l.length by omega)]
 obtain ⟨M1, g1, e1⟩ := putL1 (n := n) (a := x) (b := o) (y := wlSub rwf_iiiiiiLu x 0 ((i : Nat) : Int).toNat (by omega)) (e := (e : Int)) (d := (o.l.length : Int) - ((e : Int) - i)) (i := (i : Int))
  (fun r hr => kx r (List.mem_of_mem_take hr)) (by show (List.take _ (List.drop 0 x.l)).length ≤ _; simp; omega) (by show (List.take _ (List.drop 0 x.l)).length < _; simp; omega)
 rw [g1]
 try dsimp only [Option.bind_some]
 have hM1 : M1.length ≤ 1000000 := by
  have := congrArg List.length e1
  rw [List.length_map, List.length_map] at this
  rw [this]
  show (List.take _ (List.drop 0 x.l)).length ≤ _
  simp; omega
 obtain ⟨M2, g2, e2⟩ := putL2 (n := n) (a := x) (y := o) (e := (e : Int)) (d := (o.l.length : Int) - ((e : Int) - i)) (i := (i : Int)) (acc := M1) ko (by omega) (by omega) hM1
 rw [g2]
 try dsimp only [Option.bind_some]
 have hM2 : M2.length ≤ 1000000 := by
  have := congrArg List.length e2
  rw [List.length_map, List.length_map] at this
  omega
 rw [if_pos (by omega), dif_pos (show ((e : Nat) : Int).toNat ≤ x.l.length ∧ x.l.length ≤ x.l.length by omega)]
 obtain ⟨M3, g3, e3⟩ := putL3 (n := n) (y := wlSub rwf_iiiiiiLu x ((e : Nat) : Int).toNat x.l.length (by omega)) (e := (e : Int)) (d := (o.l.length : Int) - ((e : Int) - i)) (acc := M1 ++ M2)
  (fun r hr => kx r (List.mem_of_mem_drop (List.mem_of_mem_take hr))) (by show (List.take _ (List.drop _ x.l)).length ≤ _; simp; omega) (by show (List.take _ (List.drop _ x.l)).length < _; simp; omega) (by rw [List.length_append]; omega)
 rw [g3]
 try dsimp only [Option.bind_some]
 refine ⟨_, rfl, ?_⟩
 have l1 : (wlSub rwf_iiiiiiLu x 0 ((i : Nat) : Int).toNat (by omega)).l = x.l.take i := by
  show (x.l.drop 0).take (((i : Nat) : Int).toNat - 0) = _
  rw [List.drop_zero, Int.toNat_natCast, Nat.sub_zero]
 have l3 : (wlSub rwf_iiiiiiLu x ((e : Nat) : Int).toNat x.l.length (by omega)).l = x.l.drop e := by
  show (x.l.drop ((e : Nat) : Int).toNat).take (x.l.length - ((e : Nat) : Int).toNat) = _
  rw [Int.toNat_natCast, List.take_of_length_le (by simp)]
 rw [List.map_append, List.map_append, e1, e2, e3, l1, l3]


/-! trees that are gone through -/
theorem lightP {n mo : Nat} {x : WL rw_iiiiiiLu} (hm : mo ≤ 1000) (hn : mo + 5 < n) : ∃ b, m_viewportkitLightPartsq1 n x (mo : Int) = some b ∧ (b = true → x.l.length ≤ mo ∧ ∀ r ∈ x.l, r.2.2.1 ≤ 1048576 ∧ r.2.2.2.2.1 ≤ 1048576 ∧ r.2.2.2.2.2.1 ≤ 1048576 ∧ -1048576 ≤ r.2.2.1 ∧ -1048576 ≤ r.2.2.2.2.1 ∧ -1048576 ≤ r.2.2.2.2.2.1) := by
 obtain ⟨r, hr, h⟩ := whileI (B := B_viewportkitLightPartsq1_1 n x (mo : Int)) (fun s => ∃ i : Nat, s.2 = i ∧ i ≤ mo + 1 ∧ ∀ j, j < i → j < x.l.length → (x.l.getD j d8).2.2.1 ≤ 1048576 ∧ (x.l.getD j d8).2.2.2.2.1 ≤ 1048576 ∧ (x.l.getD j d8).2.2.2.2.2.1 ≤ 1048576 ∧ -1048576 ≤ (x.l.getD j d8).2.2.1 ∧ -1048576 ≤ (x.l.getD j d8).2.2.2.2.1 ∧ -1048576 ≤ (x.l.getD j d8).2.2.2.2.2.1) (fun s => mo + 1 - s.2.toNat) (fun r => r = .inl () ∨ ∀ j, j < mo + 1 → j < x.l.length → (x.l.getD j d8).2.2.1 ≤ 1048576 ∧ (x.l.getD j d8).2.2.2.2.1 ≤ 1048576 ∧ (x.l.getD j d8).2.2.2.2.2.1 ≤ 1048576 ∧ -1048576 ≤ (x.l.getD j d8).2.2.1 ∧ -1048576 ≤ (x.l.getD j d8).2.2.2.2.1 ∧ -1048576 ≤ (x.l.getD j d8).2.2.2.2.2.1)
  (fun s hI => by
   obtain ⟨c, q⟩ := s
   obtain ⟨i, rfl, hi, hI⟩ := hI
   unfold B_viewportkitLightPartsq1_1
   dsimp only
   by_cases c1 : (i : Int) < ((x.l.length : Nat) : Int)
   ·rw [if_pos c1]
    by_cases c2 : (i : Int) ≤ (mo : Int)
    ·rw [if_pos c2, if_pos (by omega), w64_inc (by omega), Int.toNat_natCast]
     simp only [Option.bind_some]
     have hx : x.l.getD i (0, 0, 0, 0, 0, 0, nl0, 0) = x.l.getD i d8 := rfl
     rw [hx]
     by_cases d1 : (x.l.getD i d8).2.2.1 > 1048576
     ·rw [if_pos d1]; exact .inr ⟨_, .inl rfl, rfl⟩
     rw [if_neg d1]
     by_cases d2 : (x.l.getD i d8).2.2.2.2.1 > 1048576
     ·rw [if_pos d2]; exact .inr ⟨_, .inl rfl, rfl⟩
     rw [if_neg d2]
     by_cases d3 : (x.l.getD i d8).2.2.2.2.2.1 > 1048576
     ·rw [if_pos d3]; exact .inr ⟨_, .inl rfl, rfl⟩
     rw [if_neg d3]
     by_cases d4 : (x.l.getD i d8).2.2.1 < -1048576
     ·rw [if_pos d4]; exact .inr ⟨_, .inl rfl, rfl⟩
     rw [if_neg d4]
     by_cases d5 : (x.l.getD i d8).2.2.2.2.1 < -1048576
     ·rw [if_pos d5]; exact .inr ⟨_, .inl rfl, rfl⟩
     rw [if_neg d5]
     by_cases d6 : (x.l.getD i d8).2.2.2.2.2.1 < -1048576
     ·rw [if_pos d6]; exact .inr ⟨_, .inl rfl, rfl⟩
     rw [if_neg d6]
     refine .inl ⟨(_, ((i + 1 : Nat) : Int)), ⟨i + 1, rfl, by omega, fun j h1 h2 => ?_⟩, by dsimp only; omega, rfl⟩
     rcases Nat.lt_or_ge j i with h | h
     ·exact hI j h h2
     ·obtain rfl : j = i := by omega
      omega
    ·rw [if_neg c2]; exact .inr ⟨_, .inr fun j h1 h2 => hI j (by omega) h2, rfl⟩
   ·rw [if_neg c1]; exact .inr ⟨_, .inr fun j h1 h2 => hI j (by omega) h2, rfl⟩) n (0, 0) ⟨0, rfl, by omega, fun j h => absurd h (Nat.not_lt_zero _)⟩ (by dsimp only; omega)
 unfold m_viewportkitLightPartsq1 m_viewportkitLightPartsq1_1
 rw [h]
 rcases r with r | r
 ·exact ⟨_, rfl, fun h => by cases h⟩
 ·have hr := hr.resolve_left (fun h => by cases h)
  dsimp only
  by_cases c1 : ((x.l.length : Nat) : Int) ≤ (mo : Int)
  ·rw [if_pos c1]
   have key : x.l.length ≤ mo ∧ ∀ r ∈ x.l, r.2.2.1 ≤ 1048576 ∧ r.2.2.2.2.1 ≤ 1048576 ∧ r.2.2.2.2.2.1 ≤ 1048576 ∧ -1048576 ≤ r.2.2.1 ∧ -1048576 ≤ r.2.2.2.2.1 ∧ -1048576 ≤ r.2.2.2.2.2.1 := ⟨by omega, fun r hm => by
    obtain ⟨j, hj, rfl⟩ := mem_getD d8 hm
    exact hr j (by omega) hj⟩
   split
   ·exact ⟨_, rfl, fun _ => key⟩
   ·exact ⟨_, rfl, fun h => by cases h⟩
  ·rw [if_neg c1]; exact ⟨_, rfl, fun h => by cases h⟩
theorem pickW {n k : Nat} {x : Int} (h0 : 1 ≤ k) (hk : k ≤ 1000) : ∃ e : Nat, m_viewportkitPickq1 n x (k : Int) = some (e : Int) ∧ e < k := by
 have hlt := Int.tmod_lt_of_pos x (show (0 : Int) < (k : Int) by omega)
 have hgt : -(k : Int) < Int.tmod x k := by
  rw [← Int.neg_neg (Int.tmod x k), ← Int.neg_tmod]
  have := Int.tmod_lt_of_pos (-x) (show (0 : Int) < (k : Int) by omega)
  omega
 unfold m_viewportkitPickq1
 rw [if_neg (by omega), if_pos (by omega)]
 by_cases h : Int.tmod x k < 0
 ·rw [if_pos h, w64_sm (by omega) (by omega)]
  refine ⟨(Int.tmod x k + k).toNat, ?_, by omega⟩
  rw [Int.toNat_of_nonneg (by omega)]
 ·rw [if_neg h]
  refine ⟨(Int.tmod x k).toNat, ?_, by omega⟩
  rw [Int.toNat_of_nonneg (by omega)]
/-- the document's check -/
theorem refC {n : Nat} {x : WL rw_iiiiiiLu} (hL : x.l.length ≤ 1000000) {K : Nat} (hK : ∀ j, (@kd _ ⟨x⟩ j).length ≤ K) (hn : x.l.length + K + 20 < n) : ∃ c, m_viewportref16Checkq1 n x = some c ∧ (c = 0 → TreeOf x) := @refCheck_ok _ ⟨x⟩ n K hK hn hL


/-! Splice without jobs -/
theorem range_foldl {σ α : Type} {d : α} (f : σ → α → σ) (l : List α) (s : σ) : (List.range l.length).foldl (fun s j => f s (l.getD j d)) s = l.foldl f s := by
 have h : (List.range l.length).map (fun j => l.getD j d) = l := by have := range_map (f := id) (d := d) (l := l); simpa using this
 conv => rhs; rw [← h]
 rw [List.foldl_map]
def mt (r : P8) : Int := r.2.2.2.2.2.2.2
def orM (l : List P8) : Int := l.foldl (fun s r => bOr .u64 s (mt r)) 0
theorem gather_ok {n a b : Nat} {x : WL rw_iiiiiiLu} (hab : a ≤ b) (hb : b ≤ x.l.length) (hL : x.l.length ≤ 1000000) (hn : x.l.length < n) : m_splicegatherq1 n x (a : Int) (b : Int) = some (orM ((x.l.drop a).take (b - a))) := by
 unfold m_splicegatherq1 m_foldOveruint64uint64q1 m_splicemets1q1
 rw [if_pos (by omega), if_pos (by omega), dif_pos (show ((a : Nat) : Int).toNat ≤ ((b : Nat) : Int).toNat ∧ ((b : Nat) : Int).toNat ≤ x.l.length by omega)]
 generalize hy : wlSub rwf_iiiiiiLu x ((a : Nat) : Int).toNat ((b : Nat) : Int).toNat (by omega) = y
 have hl : y.l = (x.l.drop a).take (b - a) := by
  rw [← hy]
  show (x.l.drop ((a : Nat) : Int).toNat).take (((b : Nat) : Int).toNat - ((a : Nat) : Int).toNat) = _
  rw [Int.toNat_natCast, Int.toNat_natCast]
 have hle : y.l.length ≤ x.l.length := by rw [hl]; simp; omega
 have h := foldLoop (B := B_splicemets1q1_1 n x (a : Int) (b : Int) y (y.l.length : Int)) (fun s j => bOr .u64 s (mt (y.l.getD j d8))) y.l.length
  (fun i s hi => by
   unfold B_splicemets1q1_1
   dsimp only
   rw [if_pos (by omega), if_pos (by omega), Int.toNat_natCast]
   dsimp only [Option.bind_some]
   unfold m_foldOveruint64uint64_1010y1 m_splicegather1q1
   dsimp only [Option.bind_some]
   rw [w64_inc (by omega)]
   rfl)
  (fun s => by
   unfold B_splicemets1q1_1
   dsimp only
   rw [if_neg (by omega)]) n 0 (by omega)
 unfold m_splicemets1q1_1
 rw [h, range_foldl (fun s r => bOr .u64 s (mt r)), hl]
 rfl
theorem has_ok {n i : Nat} {x : WL rw_iiiiiiLu} (hT : TreeOf x) (hn : x.l.length < n) (hi : i < x.l.length) : m_treehasq1 n x (i : Int) = some true := by
 unfold m_treehasq1
 rw [if_pos (by omega), if_pos (by omega), chk hT hn]
 try dsimp only [Option.bind_some]
 rw [if_pos rfl]
theorem tEnd {n i e : Nat} {x : WL rw_iiiiiiLu} (hT : TreeOf x) (hn : x.l.length < n) (hL : x.l.length ≤ 1000000) (h : KsOf x i 0 (i + 1) (atOf x i) e) (hi : i < x.l.length) (he : e ≤ x.l.length) : m_treeEndq1 n x (i : Int) = some (e : Int) := by
 unfold m_treeEndq1
 rw [has_ok hT hn hi]
 try dsimp only [Option.bind_some]
 rw [if_pos rfl, pEnd hn hL h hi he]
 rfl
theorem sfits_ok {n i : Nat} {x o : WL rw_iiiiiiLu} (hi : i < x.l.length) (ho : 0 < o.l.length) : m_splicefitsq1 n x (i : Int) o = some (fitR (x.l.getD i d8) (o.l.getD 0 d8)) := by
 unfold m_splicefitsq1
 rw [if_pos (by omega), if_pos (by omega), if_pos (by omega), Int.toNat_natCast]
 try dsimp only [Option.bind_some]
 rw [if_pos (by omega)]
 try dsimp only [Option.bind_some]
 rw [fits_ok]
 rfl
theorem par_ok {n : Nat} {x : WL rw_iiiiiiLu} (hT : TreeOf x) (hL : x.l.length ≤ 500) (hn : 2000 < n) : ∃ y, m_treeParentsq1 n x = some y ∧ y.l = @parL _ ⟨x⟩ :=
 @prgPar _ ⟨x⟩ n x.l.length hT (fun j => @Tree.few _ ⟨x⟩ hT j) (by show x.l.length + _ < n; omega)
theorem par_lt {x : WL rw_iiiiiiLu} (hT : TreeOf x) {i : Nat} (h0 : 0 < i) (hi : i < x.l.length) : ∃ p : Nat, (@parL _ ⟨x⟩).getD i 0 = (p : Int) ∧ p < i := by
 have h := @parL_ok _ ⟨x⟩ hT i h0 hi
 exact ⟨((@parL _ ⟨x⟩).getD i 0).toNat, by omega, by omega⟩
theorem loop1_ok {n : Nat} {x : WL rw_iiiiiiLu} {i c : Int} {M : List P8} (hn : 0 < n) : m_spliceSpliceq1_1 n x i M c () = some M := by
 obtain ⟨m, rfl⟩ : ∃ m, n = m + 1 := ⟨n - 1, by omega⟩
 unfold m_spliceSpliceq1_1
 rw [iterM_succ]
 cases M <;> rfl
def orR (r : P8) (b : Int) : P8 := (r.1, r.2.1, r.2.2.1, r.2.2.2.1, r.2.2.2.2.1, r.2.2.2.2.2.1, r.2.2.2.2.2.2.1, bOr .u64 r.2.2.2.2.2.2.2 b)
/-- what is spliced -/
theorem splice_ok {n i e : Nat} {x o : WL rw_iiiiiiLu} (hT : TreeOf x) (hO : TreeOf o) (hx : x.l.length ≤ 500) (ho : o.l.length ≤ 500) (hn : 3000 < n) (hi : i < x.l.length) (he : KsOf x i 0 (i + 1) (atOf x i) e) (hel : e ≤ x.l.length) (hf : fitR (x.l.getD i d8) (o.l.getD 0 d8) = true) :
  ∃ (y : WL rw_iiiiiiLu) (M : List P8), m_spliceSpliceq1 n x (i : Int) o = some (y, 0) ∧ M.map vw = (x.l.take i).map (fun r => mvK (aft e (o.l.length - (e - i))) (vw r)) ++ o.l.map (fun r => mvK (ins i) (vw r)) ++ (x.l.drop e).map (fun r => mvK (aft e (o.l.length - (e - i))) (vw r)) ∧
   (i = 0 → y.l = M) ∧ (0 < i → ∃ p : Nat, (@parL _ ⟨x⟩).getD i 0 = (p : Int) ∧ p < i ∧ y.l = M.set p (orR (M.getD p d8) (orM ((x.l.drop i).take (e - i))))) := by
 have hpo : 0 < o.l.length := @Tree.pos _ ⟨o⟩ hO
 have hlt := @Ks.lt _ ⟨x⟩ _ _ _ _ _ he
 obtain ⟨M, hP, hM⟩ := put_ok hT hO hx ho (by omega : 2000 < n) hi he hel hf
 have hlen : M.length = i + o.l.length + (x.l.length - e) := by
  have := congrArg List.length hM
  simp at this
  omega
 have hg := gather_ok (n := n) (a := i) (b := e) (x := x) (by omega) hel (by omega) (by omega)
 unfold m_spliceSpliceq1
 rw [chk hT (by omega)]
 try dsimp only [Option.bind_some]
 rw [if_pos rfl, chk hO (by omega)]
 try dsimp only [Option.bind_some]
 rw [if_pos rfl, sfits_ok hi hpo, hf]
 try dsimp only [Option.bind_some]
 rw [if_pos rfl, hP]
 dsimp only
 cases M with
 | nil => simp at hlen; omega
 | cons a t =>
  dsimp only
  rw [tEnd hT (by omega) (by omega) he hi hel]
  try dsimp only [Option.bind_some]
  unfold m_splicemetsq1
  try dsimp only [Option.bind_some]
  rw [hg]
  try dsimp only [Option.bind_some]
  rw [loop1_ok (by omega)]
  try dsimp only [Option.bind_some]
  by_cases h0 : 0 < i
  ·obtain ⟨z, hz, hzl⟩ := par_ok hT (by omega : x.l.length ≤ 500) (by omega : 2000 < n)
   obtain ⟨p, hp, hpi⟩ := par_lt hT h0 hi
   have hpl : (@parL _ ⟨x⟩).length = x.l.length := @parL_len _ ⟨x⟩
   rw [if_pos (by omega), hz]
   try dsimp only [Option.bind_some]
   rw [hzl, hpl, if_pos (by omega), Int.toNat_natCast, if_pos hi, hp]
   try dsimp only [Option.bind_some]
   rw [if_pos (by omega), Int.toNat_natCast]
   try dsimp only [Option.bind_some]
   rw [if_pos (by simp), dif_pos (by rw [List.length_set]; omega)]
   exact ⟨_, a :: t, rfl, hM, fun h => by omega, fun _ => ⟨p, rfl, hpi, rfl⟩⟩
  ·rw [if_neg (by omega), dif_pos (by omega)]
   exact ⟨_, a :: t, rfl, hM, fun _ => rfl, fun h => absurd h h0⟩
theorem splice_no {n i : Nat} {x o : WL rw_iiiiiiLu} (hT : TreeOf x) (hO : TreeOf o) (hn : x.l.length + o.l.length < n) (hi : i < x.l.length) (hf : fitR (x.l.getD i d8) (o.l.getD 0 d8) = false) : m_spliceSpliceq1 n x (i : Int) o = some (wl0, 2) := by
 have hpo : 0 < o.l.length := @Tree.pos _ ⟨o⟩ hO
 unfold m_spliceSpliceq1
 rw [chk hT (by omega)]
 try dsimp only [Option.bind_some]
 rw [if_pos rfl, chk hO (by omega)]
 try dsimp only [Option.bind_some]
 rw [if_pos rfl, sfits_ok hi hpo, hf]
 rfl
theorem Fits_ok {n i : Nat} {x o : WL rw_iiiiiiLu} (hT : TreeOf x) (hO : TreeOf o) (hn : x.l.length + o.l.length < n) (hi : i < x.l.length) : m_spliceFitsq1 n x (i : Int) o = some (fitR (x.l.getD i d8) (o.l.getD 0 d8)) := by
 have hpo : 0 < o.l.length := @Tree.pos _ ⟨o⟩ hO
 unfold m_spliceFitsq1
 rw [chk hT (by omega)]
 try dsimp only [Option.bind_some]
 rw [if_pos rfl, chk hO (by omega)]
 try dsimp only [Option.bind_some]
 rw [if_pos rfl, sfits_ok hi hpo]
 rfl


/-! the law -/
theorem rEnd {n i e K : Nat} {x : WL rw_iiiiiiLu} (hK : ∀ j, (@kd _ ⟨x⟩ j).length ≤ K) (h : KsOf x i 0 (i + 1) (atOf x i) e) (hi : i < x.l.length) (hn : x.l.length + K + 10 < n) : m_viewportref16endq1 n x (i : Int) = some (e : Int) := @endOf _ ⟨x⟩ K i e hK h hi n (by show x.l.length - i + K + 10 < n; omega)
theorem t7_ok {n i e : Nat} {x o y : WL rw_iiiiiiLu} (hC : m_viewportref16Checkq1 n x = some 0) (hT : TreeOf x) (hO : TreeOf o) (hx : x.l.length ≤ 100) (ho : o.l.length ≤ 100) (hn : 3000 < n) (hi : i < x.l.length) (he : KsOf x i 0 (i + 1) (atOf x i) e) (hel : e ≤ x.l.length) (hf : fitR (x.l.getD i d8) (o.l.getD 0 d8) = true) (hy : y.l.length = i + o.l.length + (x.l.length - e)) : m_viewportlaw20SpliceFitst7 n x o (i : Int) y 0 () = some () := by
 have hlt := @Ks.lt _ ⟨x⟩ _ _ _ _ _ he
 unfold m_viewportlaw20SpliceFitst7
 rw [Fits_ok hT hO (by omega) hi, hf]
 try dsimp only [Option.bind_some]
 rw [if_pos rfl, if_pos rfl]
 unfold m_viewportref16Endq1 m_viewportref16isq1
 rw [hC]
 try dsimp only [Option.bind_some]
 rw [if_pos rfl, if_pos (by omega), if_pos (by omega)]
 try dsimp only [Option.bind_some]
 rw [if_pos rfl, rEnd (fun j => @Tree.few _ ⟨x⟩ hT j) he hi (by show x.l.length + x.l.length + 10 < n; omega)]
 try dsimp only [Option.bind_some]
 rw [w64_sm (x := (e : Int) - i) (by omega) (by omega), w64_sm (x := (x.l.length : Int) - _) (by omega) (by omega), w64_sm (by omega) (by omega), if_pos (by omega)]
theorem t5_ok {n i : Nat} {x o : WL rw_iiiiiiLu} (hC : m_viewportref16Checkq1 n x = some 0) (hT : TreeOf x) (hO : TreeOf o) (hx : x.l.length ≤ 100) (ho : o.l.length ≤ 100) (hn : 3000 < n) (hi : i < x.l.length) : m_viewportlaw20SpliceFitst5 n x o (i : Int) () = some () := by
 have hpo : 0 < o.l.length := @Tree.pos _ ⟨o⟩ hO
 have hno : ∀ b, fitR (x.l.getD i d8) (o.l.getD 0 d8) = false → b = false → ((m_spliceSpliceq1 n x (i : Int) o).bind fun t => match t with
      | (y5_6_0, y5_6_1) => (m_viewportlaw20SpliceFitst6 n x o (i : Int) b y5_6_0 nl0 y5_6_1 ()).bind fun _ => some ()) = some () := fun b hf hb => by
  subst hb
  rw [splice_no hT hO (by omega) hi hf]
  show (m_viewportlaw20SpliceFitst6 n x o (i : Int) false wl0 nl0 2 ()).bind _ = _
  unfold m_viewportlaw20SpliceFitst6
  rw [if_neg (by decide), Fits_ok hT hO (by omega) hi, hf]
  rfl
 unfold m_viewportlaw20SpliceFitst5
 rw [if_pos (by omega), Int.toNat_natCast]
 try dsimp only [Option.bind_some]
 rw [if_pos (by omega)]
 try dsimp only [Option.bind_some]
 show (if (x.l.getD i d8).1 = (o.l.getD 0 d8).1 then if (x.l.getD i d8).2.1 = (o.l.getD 0 d8).2.1 then if (x.l.getD i d8).2.2.1 = (o.l.getD 0 d8).2.2.1 then if (x.l.getD i d8).2.2.2.2.1 = (o.l.getD 0 d8).2.2.2.2.1 then _ else _ else _ else _ else _) = _
 by_cases c1 : (x.l.getD i d8).1 = (o.l.getD 0 d8).1
 ·rw [if_pos c1]
  by_cases c2 : (x.l.getD i d8).2.1 = (o.l.getD 0 d8).2.1
  ·rw [if_pos c2]
   by_cases c3 : (x.l.getD i d8).2.2.1 = (o.l.getD 0 d8).2.2.1
   ·rw [if_pos c3]
    by_cases c4 : (x.l.getD i d8).2.2.2.2.1 = (o.l.getD 0 d8).2.2.2.2.1
    ·rw [if_pos c4]
     have hf : fitR (x.l.getD i d8) (o.l.getD 0 d8) = true := by simp only [fitR, c1, c2, c3, c4, beq_self_eq_true, Bool.and_self]
     obtain ⟨e, he, hie, hel⟩ := @Tree.end _ ⟨x⟩ hT i hi
     obtain ⟨y, M, h1, h2, h3, h4⟩ := splice_ok hT hO (by omega) (by omega) hn hi he hel hf
     rw [h1]
     show (m_viewportlaw20SpliceFitst6 n x o (i : Int) true y nl0 0 ()).bind _ = _
     have hM : M.length = i + o.l.length + (x.l.length - e) := by
      have := congrArg List.length h2
      have hel : e ≤ x.l.length := hel
      simp at this
      omega
     have hy : y.l.length = i + o.l.length + (x.l.length - e) := by
      rcases Nat.eq_zero_or_pos i with h0 | h0
      ·rw [h3 h0, hM]
      ·obtain ⟨p, -, -, hp⟩ := h4 h0
       rw [hp, List.length_set, hM]
     unfold m_viewportlaw20SpliceFitst6
     rw [if_pos rfl, t7_ok hC hT hO hx ho hn hi he hel hf hy]
     rfl
    ·rw [if_neg c4]
     exact hno false (by simp only [fitR, beq_eq_false_iff_ne.2 c4, Bool.and_false]) rfl
   ·rw [if_neg c3]
    exact hno false (by simp only [fitR, beq_eq_false_iff_ne.2 c3, Bool.and_false, Bool.false_and]) rfl
  ·rw [if_neg c2]
   exact hno false (by simp only [fitR, beq_eq_false_iff_ne.2 c2, Bool.and_false, Bool.false_and]) rfl
 ·rw [if_neg c1]
  exact hno false (by simp only [fitR, beq_eq_false_iff_ne.2 c1, Bool.and_false, Bool.false_and]) rfl
theorem light2 {n : Nat} {x o : WL rw_iiiiiiLu} (hn : 200 < n) : ∃ b, m_viewportlaw20lightq1 n x o = some b ∧ (b = true → x.l.length ≤ 100 ∧ o.l.length ≤ 100) := by
 obtain ⟨b1, h1, g1⟩ := lightP (mo := 100) (x := x) (by omega) (by omega : 100 + 5 < n)
 obtain ⟨b2, h2, g2⟩ := lightP (mo := 100) (x := o) (by omega) (by omega : 100 + 5 < n)
 have h1 : m_viewportkitLightPartsq1 n x 100 = some b1 := h1
 have h2 : m_viewportkitLightPartsq1 n o 100 = some b2 := h2
 unfold m_viewportlaw20lightq1
 rw [h1, h2]
 cases b1 with
 | false => exact ⟨false, rfl, fun h => by cases h⟩
 | true => cases b2 with
  | false => exact ⟨false, rfl, fun h => by cases h⟩
  | true => exact ⟨true, rfl, fun _ => ⟨(g1 rfl).1, (g2 rfl).1⟩⟩
theorem spliceFits_true (g2 : Int) : ∃ n, m_viewportlaw20SpliceFits n g2 = some () := by
 obtain ⟨K1, hK1⟩ := @bound_kd _ ⟨wA⟩
 obtain ⟨K2, hK2⟩ := @bound_kd _ ⟨wB⟩
 let n := K1 + K2 + 5000
 refine ⟨n, ?_⟩
 have hn : 3000 < n := by show 3000 < K1 + K2 + 5000; omega
 have no : (match m_viewportlaw20SpliceFitst3 n wA wB g2 true () with
  | none => none
  | some (.inl _) => some ()
  | some (.inr _) => (m_viewportlaw20SpliceFitst4 n wA wB g2 ()).bind fun _ => some ()) = some () := rfl
 show (m_viewportlaw20SpliceFitst2 n wA wB g2 ()).bind _ = _
 have key : m_viewportlaw20SpliceFitst2 n wA wB g2 () = some () := by
  unfold m_viewportlaw20SpliceFitst2
  obtain ⟨b, hb, hl⟩ := light2 (n := n) (x := wA) (o := wB) (by omega)
  rw [hb]
  try dsimp only [Option.bind_some]
  cases b with
  | false => exact no
  | true =>
   obtain ⟨hx, ho⟩ := hl rfl
   rw [if_pos rfl]
   obtain ⟨c, hc, hcT⟩ := refC (x := wA) (by omega) hK1 (n := n) (by show wA.l.length + K1 + 20 < K1 + K2 + 5000; omega)
   rw [hc]
   try dsimp only [Option.bind_some]
   by_cases c0 : c = 0
   ·subst c0
    rw [if_pos rfl]
    obtain ⟨d, hd, hdT⟩ := refC (x := wB) (by omega) hK2 (n := n) (by show wB.l.length + K2 + 20 < K1 + K2 + 5000; omega)
    rw [hd]
    try dsimp only [Option.bind_some]
    by_cases d0 : d = 0
    ·rw [if_pos d0]
     show (m_viewportlaw20SpliceFitst4 n wA wB g2 ()).bind _ = _
     have hT := hcT rfl
     have hO := hdT d0
     have hpx : 0 < (wA).l.length := @Tree.pos _ ⟨wA⟩ hT
     obtain ⟨i, hi, hil⟩ := pickW (n := n) (k := (wA).l.length) (x := g2) (by omega) (by omega)
     unfold m_viewportlaw20SpliceFitst4
     rw [hi]
     try dsimp only [Option.bind_some]
     rw [t5_ok hc hT hO hx ho hn hil]
     rfl
    ·rw [if_neg d0]; exact no
   ·rw [if_neg c0]; exact no
 rw [key]
 rfl

end Go.Proofs.Ytofkckljnmphdaa.spf20
