/-
  The pure side. No condition.
-/
import Derived.Test.YtofkckljnmphdaaSpbPure
import Derived.IntWalk
set_option linter.unusedSimpArgs false
set_option linter.unusedVariables false
set_option linter.unusedSectionVars false
set_option linter.unnecessarySimpa false
noncomputable section
namespace Go.Proofs.Ytofkckljnmphdaa.spb20
open Go Go.Proofs.Ytofkckljnmphdaa Ax
variable [Args]


/-! loops that fill a list, or append to it -/
theorem snoc_range {β : Type} {i : Nat} {F : Nat → β} : (List.range (i + 1)).map F = (List.range i).map F ++ [F i] := by
 rw [List.range_succ, List.map_append]; rfl
theorem appLoop {α β : Type} {B : List α × Int → Option ((List α × Int) ⊕ List α)} (v : α → β) (F : Nat → β) (len C : Nat)
  (h1 : ∀ (i : Nat) (acc : List α), i < len → acc.length ≤ C + i → ∃ r, v r = F i ∧ B (acc, (i : Int)) = some (.inl (acc ++ [r], ((i + 1 : Nat) : Int))))
  (h2 : ∀ acc, B (acc, (len : Int)) = some (.inr acc)) (n : Nat) (acc0 : List α) (h0 : acc0.length ≤ C) (hn : len < n) :
  ∃ M, iterM B n (acc0, 0) = some (acc0 ++ M) ∧ M.map v = (List.range len).map F := by
 obtain ⟨r, q1, q2⟩ := hoare (B := B) (σ := List α) (fun L i => (L, i)) (fun i L => ∃ M, L = acc0 ++ M ∧ M.map v = (List.range i).map F) (fun r => ∃ M, r = acc0 ++ M ∧ M.map v = (List.range len).map F) len
  (fun i L hi hI => by
   obtain ⟨M, rfl, hM⟩ := hI
   have hl : M.length = i := by simpa using congrArg List.length hM
   obtain ⟨r, g1, g2⟩ := h1 i (acc0 ++ M) hi (by rw [List.length_append]; omega)
   refine .inl ⟨_, ⟨M ++ [r], by rw [List.append_assoc], ?_⟩, g2⟩
   rw [List.map_append, hM, snoc_range, ← g1]; rfl)
  (fun L hI => ⟨L, hI, h2 L⟩) n 0 acc0 (Nat.zero_le _) ⟨[], by simp, rfl⟩ (by omega)
 obtain ⟨M, rfl, hM⟩ := q1
 exact ⟨M, q2, hM⟩
theorem ext_getD {α : Type} {d : α} {L M : List α} (hl : L.length = M.length) (h : ∀ j, j < M.length → L.getD j d = M.getD j d) : L = M := by
 apply List.ext_getElem hl
 intro j h1 h2
 have := h j h2
 simpa [List.getD_eq_getElem?_getD, h1, h2] using this
theorem range_getD {β : Type} {F : Nat → β} {d : β} {len j : Nat} (h : j < len) : ((List.range len).map F).getD j d = F j := by
 simp [List.getD_eq_getElem?_getD, h]
theorem qkl_ {α β : Type} {f : α → β} {d : α} {l : List α} : (List.range l.length).map (fun j => f (l.getD j d)) = l.map f := by
 apply List.ext_getElem (by simp)
 intro j h1 h2
 have hj : j < l.length := by simpa using h2
 simp [List.getD_eq_getElem?_getD, hj]
theorem fillLoop {α : Type} {B : List α × Int → Option ((List α × Int) ⊕ List α)} (d : α) (F : Nat → α) (len : Nat)
  (h1 : ∀ (i : Nat) (L : List α), i < len → L.length = len → B (L, (i : Int)) = some (.inl (L.set i (F i), ((i + 1 : Nat) : Int))))
  (h2 : ∀ L, B (L, (len : Int)) = some (.inr L)) (n : Nat) (L0 : List α) (h0 : L0.length = len) (hn : len < n) :
  iterM B n (L0, 0) = some ((List.range len).map F) := by
 obtain ⟨r, rfl, q2⟩ := hoare (B := B) (σ := List α) (fun L i => (L, i)) (fun i L => L.length = len ∧ ∀ j, j < i → L.getD j d = F j) (fun r => r = (List.range len).map F) len
  (fun i L hi hI => .inl ⟨_, ⟨by rw [List.length_set, hI.1], fun j hj => by
   rw [qlk_ (by rw [hI.1]; exact hi)]
   by_cases e : j = i
   ·rw [if_pos e, e]
   ·rw [if_neg e]; exact hI.2 j (by omega)⟩, h1 i L hi hI.1⟩)
  (fun L hI => ⟨L, ext_getD (d := d) (by simp [hI.1]) fun j hj => by
   have hj : j < len := by simpa using hj
   rw [hI.2 j hj, range_getD hj], h2 L⟩) n 0 L0 (Nat.zero_le _) ⟨h0, fun j hj => absurd hj (Nat.not_lt_zero _)⟩ (by omega)
 exact q2
/-- a loop that adds up -/
theorem foldLoop {σ : Type} {B : σ × Int → Option ((σ × Int) ⊕ σ)} (g : σ → Nat → σ) (len : Nat)
  (h1 : ∀ (i : Nat) (s : σ), i < len → B (s, (i : Int)) = some (.inl (g s i, ((i + 1 : Nat) : Int))))
  (h2 : ∀ s, B (s, (len : Int)) = some (.inr s)) (n : Nat) (s0 : σ) (hn : len < n) :
  iterM B n (s0, 0) = some ((List.range len).foldl g s0) := by
 obtain ⟨r, rfl, q2⟩ := hoare (B := B) (σ := σ) (fun s i => (s, i)) (fun i s => s = (List.range i).foldl g s0) (fun r => r = (List.range len).foldl g s0) len
  (fun i s hi hI => .inl ⟨_, by rw [List.range_succ, List.foldl_append, hI]; rfl, h1 i s hi⟩)
  (fun s hI => ⟨s, hI, h2 s⟩) n 0 s0 (Nat.zero_le _) rfl (by omega)
 exact q2
theorem getD_take {α : Type} {l : List α} {d : α} {i j : Nat} (h : j < i) : (l.take i).getD j d = l.getD j d := by
 simp [List.getD_eq_getElem?_getD, List.getElem?_take, h]
theorem getD_drop {α : Type} {l : List α} {d : α} {i j : Nat} : (l.drop i).getD j d = l.getD (i + j) d := by
 simp [List.getD_eq_getElem?_getD]
/-- rows of parts as they look -/
abbrev V8 := Int × Int × Int × Int × Int × Int × List Int × Int
def vw (r : Int × Int × Int × Int × Int × Int × NL × Int) : V8 := (r.1, r.2.1, r.2.2.1, r.2.2.2.1, r.2.2.2.2.1, r.2.2.2.2.2.1, r.2.2.2.2.2.2.1.l, r.2.2.2.2.2.2.2)
def mvK (f : Int → Int) (r : V8) : V8 := (r.1, r.2.1, r.2.2.1, r.2.2.2.1, r.2.2.2.2.1, r.2.2.2.2.2.1, r.2.2.2.2.2.2.1.map f, r.2.2.2.2.2.2.2)


/-! the program's Put -/
def aft (e b v : Int) : Int := if v ≥ e then w64 (v + b) else v
def ins (i v : Int) : Int := w64 (v + i)
theorem put1 {n : Nat} {v e b : Int} : qi3_ n v [e] [b] = some (aft e b v) := by
 unfold qi3_ aft
 rw [if_pos (by simp), if_pos (by simp)]
 show (if v ≥ e then some (w64 (v + b)) else some v) = _
 split <;> rfl
theorem put2 {n : Nat} {v i : Int} : qi5_ n v [i] = some (ins i v) := by
 unfold qi5_
 rw [if_pos (by simp)]
 rfl
theorem each1 {n : Nat} {x : NL} {e b : Int} (hx : x.l.length ≤ 1000000) (hn : x.l.length < n) : ∃ k, qcw_ n x e b = some k ∧ k.l = x.l.map (aft e b) := by
 unfold qcw_
 by_cases h0 : x.l.length = 0
 ·rw [if_pos (by omega)]
  exact ⟨_, rfl, by rw [List.length_eq_zero_iff.1 h0]; rfl⟩
 ·rw [if_neg (by omega), if_pos (by omega), if_pos (by omega), Int.toNat_natCast]
  have h := fillLoop (B := qb1_ n [e] [b] x.l.length x (x.l.length : Int)) 0 (fun i => aft e b (x.l.getD i 0)) x.l.length
   (fun i L hi hL => by
    unfold qb1_
    dsimp only
    rw [if_pos (by omega), if_pos (by omega), Int.toNat_natCast, if_pos hi]
    dsimp only [Option.bind_some]
    rw [put1]
    dsimp only [Option.bind_some]
    rw [if_pos (by omega), if_pos (by omega), w64_inc (by omega)])
   (fun L => by
    unfold qb1_
    dsimp only
    rw [if_neg (by omega)]) n (List.replicate x.l.length 0) (by simp) hn
  unfold qgl_
  rw [h, qkl_]
  dsimp only [Option.bind_some]
  rw [if_pos (by simp), dif_pos (by rw [List.length_map]; omega)]
  exact ⟨_, rfl, rfl⟩
theorem each2 {n : Nat} {x : NL} {i : Int} (hx : x.l.length ≤ 1000000) (hn : x.l.length < n) : ∃ k, qdg_ n x i = some k ∧ k.l = x.l.map (ins i) := by
 unfold qdg_
 by_cases h0 : x.l.length = 0
 ·rw [if_pos (by omega)]
  exact ⟨_, rfl, by rw [List.length_eq_zero_iff.1 h0]; rfl⟩
 ·rw [if_neg (by omega), if_pos (by omega), if_pos (by omega), Int.toNat_natCast]
  have h := fillLoop (B := qb2_ n [i] x.l.length x (x.l.length : Int)) 0 (fun j => ins i (x.l.getD j 0)) x.l.length
   (fun j L hi hL => by
    unfold qb2_
    dsimp only
    rw [if_pos (by omega), if_pos (by omega), Int.toNat_natCast, if_pos hi]
    dsimp only [Option.bind_some]
    rw [put2]
    dsimp only [Option.bind_some]
    rw [if_pos (by omega), if_pos (by omega), w64_inc (by omega)])
   (fun L => by
    unfold qb2_
    dsimp only
    rw [if_neg (by omega)]) n (List.replicate x.l.length 0) (by simp) hn
  unfold qgm_
  rw [h, qkl_]
  dsimp only [Option.bind_some]
  rw [if_pos (by simp), dif_pos (by rw [List.length_map]; omega)]
  exact ⟨_, rfl, rfl⟩
def rk (r : P8) (k : NL) : P8 := (r.1, r.2.1, r.2.2.1, r.2.2.2.1, r.2.2.2.2.1, r.2.2.2.2.2.1, k, r.2.2.2.2.2.2.2)
theorem vw_rk {r : P8} {k : NL} {f : Int → Int} (h : k.l = r.2.2.2.2.2.2.1.l.map f) : vw (rk r k) = mvK f (vw r) := by
 show (_, _, _, _, _, _, k.l, _) = _
 rw [h]; rfl
/-- rows whose kids are few -/
def FewK (n : Nat) (L : List P8) : Prop := ∀ r ∈ L, r.2.2.2.2.2.2.1.l.length ≤ 1000000 ∧ r.2.2.2.2.2.2.1.l.length < n
theorem fewD {n : Nat} {L : List P8} (h : FewK n L) {i : Nat} (hi : i < L.length) : (L.getD i d8).2.2.2.2.2.2.1.l.length ≤ 1000000 ∧ (L.getD i d8).2.2.2.2.2.2.1.l.length < n := h _ (qhh_ hi)
theorem putL1 {n : Nat} {a b y : WL rw_iiiiiiLu} {e d i : Int} (hk : FewK n y.l) (hy : y.l.length ≤ 1000000) (hn : y.l.length < n) : ∃ M, qlf_ n a b e d i y (y.l.length : Int) ([], 0) = some M ∧ M.map vw = y.l.map fun r => mvK (aft e d) (vw r) := by
 obtain ⟨M, h, hM⟩ := appLoop (B := qe2_ n a b e d i y (y.l.length : Int)) vw (fun j => mvK (aft e d) (vw (y.l.getD j d8))) y.l.length 0
  (fun j acc hj hacc => by
   obtain ⟨hf1, hf2⟩ := fewD hk hj
   obtain ⟨k, g1, g2⟩ := each1 (e := e) (b := d) hf1 hf2
   refine ⟨rk (y.l.getD j d8) k, vw_rk g2, ?_⟩
   ·unfold qe2_
    dsimp only
    rw [if_pos (by omega), if_pos (by omega), Int.toNat_natCast]
    dsimp only [Option.bind_some]
    unfold qgu_
    rw [show qcw_ n (y.l.getD j (0, 0, 0, 0, 0, 0, nl0, 0)).2.2.2.2.2.2.1 e d = some k from g1]
    dsimp only [Option.bind_some]
    rw [if_pos (by omega), w64_inc (by omega)]
    rfl)
  (fun acc => by
   unfold qe2_
   dsimp only
   rw [if_neg (by omega)]) n [] (Nat.zero_le _) hn
 rw [List.nil_append] at h
 exact ⟨M, h, by rw [hM]; exact qkl_ (f := fun r => mvK (aft e d) (vw r))⟩
theorem putL2 {n : Nat} {a y : WL rw_iiiiiiLu} {e d i : Int} {acc : List P8} (hk : FewK n y.l) (hy : y.l.length ≤ 1000000) (hn : y.l.length < n) (ha : acc.length ≤ 1000000) : ∃ M, qle_ n a e d i y (y.l.length : Int) (acc, 0) = some (acc ++ M) ∧ M.map vw = y.l.map fun r => mvK (ins i) (vw r) := by
 obtain ⟨M, h, hM⟩ := appLoop (B := qe1_ n a e d i y (y.l.length : Int)) vw (fun j => mvK (ins i) (vw (y.l.getD j d8))) y.l.length 1000000
  (fun j acc hj hacc => by
   obtain ⟨hf1, hf2⟩ := fewD hk hj
   obtain ⟨k, g1, g2⟩ := each2 (i := i) hf1 hf2
   refine ⟨rk (y.l.getD j d8) k, vw_rk g2, ?_⟩
   ·unfold qe1_
    dsimp only
    rw [if_pos (by omega), if_pos (by omega), Int.toNat_natCast]
    dsimp only [Option.bind_some]
    unfold qjs_
    rw [show qdg_ n (y.l.getD j (0, 0, 0, 0, 0, 0, nl0, 0)).2.2.2.2.2.2.1 i = some k from g1]
    dsimp only [Option.bind_some]
    rw [if_pos (by omega), w64_inc (by omega)]
    rfl)
  (fun acc => by
   unfold qe1_
   dsimp only
   rw [if_neg (by omega)]) n acc ha hn
 exact ⟨M, h, by rw [hM]; exact qkl_ (f := fun r => mvK (ins i) (vw r))⟩
theorem putL3 {n : Nat} {y : WL rw_iiiiiiLu} {e d : Int} {acc : List P8} (hk : FewK n y.l) (hy : y.l.length ≤ 1000000) (hn : y.l.length < n) (ha : acc.length ≤ 2000000) : ∃ M, qld_ n e d y (y.l.length : Int) (acc, 0) = some (acc ++ M) ∧ M.map vw = y.l.map fun r => mvK (aft e d) (vw r) := by
 obtain ⟨M, h, hM⟩ := appLoop (B := qe0_ n e d y (y.l.length : Int)) vw (fun j => mvK (aft e d) (vw (y.l.getD j d8))) y.l.length 2000000
  (fun j acc hj hacc => by
   obtain ⟨hf1, hf2⟩ := fewD hk hj
   obtain ⟨k, g1, g2⟩ := each1 (e := e) (b := d) hf1 hf2
   refine ⟨rk (y.l.getD j d8) k, vw_rk g2, ?_⟩
   ·unfold qe0_
    dsimp only
    rw [if_pos (by omega), if_pos (by omega), Int.toNat_natCast]
    dsimp only [Option.bind_some]
    unfold qgu_
    rw [show qcw_ n (y.l.getD j (0, 0, 0, 0, 0, 0, nl0, 0)).2.2.2.2.2.2.1 e d = some k from g1]
    dsimp only [Option.bind_some]
    rw [if_pos (by omega), w64_inc (by omega)]
    rfl)
  (fun acc => by
   unfold qe0_
   dsimp only
   rw [if_neg (by omega)]) n acc ha hn
 exact ⟨M, h, by rw [hM]; exact qkl_ (f := fun r => mvK (aft e d) (vw r))⟩
/-- what a part at e in the place of i fits by -/
def fitR (p q : P8) : Bool := p.1 == q.1 && p.2.1 == q.2.1 && p.2.2.1 == q.2.2.1 && p.2.2.2.2.1 == q.2.2.2.2.1
theorem qhn_ {n : Nat} {p q : P8} : qgt_ n p.1 p.2.1 p.2.2.1 p.2.2.2.1 p.2.2.2.2.1 p.2.2.2.2.2.1 p.2.2.2.2.2.2.1 p.2.2.2.2.2.2.2 q.1 q.2.1 q.2.2.1 q.2.2.2.1 q.2.2.2.2.1 q.2.2.2.2.2.1 q.2.2.2.2.2.2.1 q.2.2.2.2.2.2.2 = some (fitR p q) := by
 unfold qgt_ fitR
 by_cases h1 : p.1 = q.1 <;> by_cases h2 : p.2.1 = q.2.1 <;> by_cases h3 : p.2.2.1 = q.2.2.1 <;> by_cases h4 : p.2.2.2.2.1 = q.2.2.2.2.1 <;> simp [h1, h2, h3, h4]
theorem few_of [Cur] (hT : Tree) {n : Nat} (hn : Cur.x.l.length < n) : FewK n Cur.x.l := fun r hr => by
 obtain ⟨i, hi, rfl⟩ := qim_ d8 hr
 have := hT.few i
 have hm := hT.max
 exact ⟨by show (kd i).length ≤ _; omega, by show (kd i).length < _; omega⟩
def TreeOf (y : WL rw_iiiiiiLu) : Prop := @Tree _ ⟨y⟩
theorem chk {n : Nat} {x : WL rw_iiiiiiLu} (hT : TreeOf x) (hn : x.l.length < n) : qce_ n x = some 0 := @check_ok _ ⟨x⟩ n hT hn
abbrev KsOf (x : WL rw_iiiiiiLu) (i k next : Nat) (a : Int) (e : Nat) : Prop := @Ks _ ⟨x⟩ i k next a e
abbrev atOf (x : WL rw_iiiiiiLu) (i : Nat) : Int := @atF _ ⟨x⟩ i
theorem pEnd {n i e : Nat} {x : WL rw_iiiiiiLu} (hn : x.l.length < n) (hL : x.l.length ≤ 1000000) (h : KsOf x i 0 (i + 1) (atOf x i) e) (hi : i < x.l.length) (he : e ≤ x.l.length) : qgk_ n x (i : Int) = some (e : Int) := @prgEnd _ ⟨x⟩ n hn hL i e h hi he
theorem put_ok {n i e : Nat} {x o : WL rw_iiiiiiLu} (hT : TreeOf x) (hO : TreeOf o) (hx : x.l.length ≤ 500) (ho : o.l.length ≤ 500) (hn : 2000 < n) (hi : i < x.l.length) (he : KsOf x i 0 (i + 1) (atOf x i) e) (hel : e ≤ x.l.length) (hf : fitR (x.l.getD i d8) (o.l.getD 0 d8) = true) :
  ∃ M, qix_ n x (i : Int) o = some (.inr M) ∧ M.map vw = (x.l.take i).map (fun r => mvK (aft e (o.l.length - (e - i))) (vw r)) ++ o.l.map (fun r => mvK (ins i) (vw r)) ++ (x.l.drop e).map (fun r => mvK (aft e (o.l.length - (e - i))) (vw r)) := by
 have hlt := @Ks.lt _ ⟨x⟩ _ _ _ _ _ he
 have hpo := @Tree.pos _ ⟨o⟩ hO
 have kx := @few_of _ ⟨x⟩ hT n (by show x.l.length < n; omega)
 have ko := @few_of _ ⟨o⟩ hO n (by show o.l.length < n; omega)
 unfold qix_
 rw [chk hT (by omega)]
 try dsimp only [Option.bind_some]
 rw [if_pos rfl, chk hO (by omega)]
 try dsimp only [Option.bind_some]
 rw [if_pos rfl, if_neg (by omega), if_neg (by omega), if_pos (by omega)]
 try dsimp only [Option.bind_some]
 have hpo : 0 < o.l.length := hpo
 rw [if_pos (by omega)]
 try dsimp only [Option.bind_some]
 rw [qhn_]
 try dsimp only [Option.bind_some]
 have hf : fitR (x.l.getD i (0, 0, 0, 0, 0, 0, nl0, 0)) (o.l.getD ((0 : Int)).toNat (0, 0, 0, 0, 0, 0, nl0, 0)) = true := hf
 rw [if_pos (show fitR (x.l.getD ((i : Nat) : Int).toNat (0, 0, 0, 0, 0, 0, nl0, 0)) (o.l.getD ((0 : Int)).toNat (0, 0, 0, 0, 0, 0, nl0, 0)) = true from hf), pEnd (by omega) (by omega) he hi hel]
 try dsimp only [Option.bind_some]
 rw [qlq_ (x := (e : Int) - i) (by omega) (by omega), qlq_ (x := (o.l.length : Int) - _) (by omega) (by omega), qlq_ (x := (x.l.length : Int) + _) (by omega) (by omega)]
 rw [if_neg (by omega), if_pos (by omega), if_pos (by omega), if_pos (by omega)]
 rw [dif_pos (show 0 ≤ ((i : Nat) : Int).toNat ∧ ((i : Nat) : Int).toNat ≤ x.l.length by omega)]
 obtain ⟨M1, g1, e1⟩ := putL1 (n := n) (a := x) (b := o) (y := wlSub rwf_iiiiiiLu x 0 ((i : Nat) : Int).toNat (by omega)) (e := (e : Int)) (d := (o.l.length : Int) - ((e : Int) - i)) (i := (i : Int))
  (fun r hr => kx r (List.mem_of_mem_take hr)) (by show (List.take _ (List.drop 0 x.l)).length ≤ _; simp; omega) (by show (List.take _ (List.drop 0 x.l)).length < _; simp; omega)
 rw [g1]
 try dsimp only [Option.bind_some]
 have hM1 : M1.length ≤ 1000000 := by
  have := congrArg List.length e1
  rw [List.length_map, List.length_map] at this
  rw [this]
  show (List.take _ (List.drop 0 x.l)).length ≤ _
  simp; omega
 obtain ⟨M2, g2, e2⟩ := putL2 (n := n) (a := x) (y := o) (e := (e : Int)) (d := (o.l.length : Int) - ((e : Int) - i)) (i := (i : Int)) (acc := M1) ko (by omega) (by omega) hM1
 rw [g2]
 try dsimp only [Option.bind_some]
 have hM2 : M2.length ≤ 1000000 := by
  have := congrArg List.length e2
  rw [List.length_map, List.length_map] at this
  omega
 rw [if_pos (by omega), dif_pos (show ((e : Nat) : Int).toNat ≤ x.l.length ∧ x.l.length ≤ x.l.length by omega)]
 obtain ⟨M3, g3, e3⟩ := putL3 (n := n) (y := wlSub rwf_iiiiiiLu x ((e : Nat) : Int).toNat x.l.length (by omega)) (e := (e : Int)) (d := (o.l.length : Int) - ((e : Int) - i)) (acc := M1 ++ M2)
  (fun r hr => kx r (List.mem_of_mem_drop (List.mem_of_mem_take hr))) (by show (List.take _ (List.drop _ x.l)).length ≤ _; simp; omega) (by show (List.take _ (List.drop _ x.l)).length < _; simp; omega) (by rw [List.length_append]; omega)
 rw [g3]
 try dsimp only [Option.bind_some]
 refine ⟨_, rfl, ?_⟩
 have l1 : (wlSub rwf_iiiiiiLu x 0 ((i : Nat) : Int).toNat (by omega)).l = x.l.take i := by
  show (x.l.drop 0).take (((i : Nat) : Int).toNat - 0) = _
  rw [List.drop_zero, Int.toNat_natCast, Nat.sub_zero]
 have l3 : (wlSub rwf_iiiiiiLu x ((e : Nat) : Int).toNat x.l.length (by omega)).l = x.l.drop e := by
  show (x.l.drop ((e : Nat) : Int).toNat).take (x.l.length - ((e : Nat) : Int).toNat) = _
  rw [Int.toNat_natCast, List.take_of_length_le (by simp)]
 rw [List.map_append, List.map_append, e1, e2, e3, l1, l3]


/-! trees that are gone through -/
theorem lightP {n mo : Nat} {x : WL rw_iiiiiiLu} (hm : mo ≤ 1000) (hn : mo + 5 < n) : ∃ b, qbi_ n x (mo : Int) = some b ∧ (b = true → x.l.length ≤ mo ∧ ∀ r ∈ x.l, r.2.2.1 ≤ 1048576 ∧ r.2.2.2.2.1 ≤ 1048576 ∧ r.2.2.2.2.2.1 ≤ 1048576 ∧ -1048576 ≤ r.2.2.1 ∧ -1048576 ≤ r.2.2.2.2.1 ∧ -1048576 ≤ r.2.2.2.2.2.1) := by
 obtain ⟨r, hr, h⟩ := whileI (B := q4_ n x (mo : Int)) (fun s => ∃ i : Nat, s.2 = i ∧ i ≤ mo + 1 ∧ ∀ j, j < i → j < x.l.length → (x.l.getD j d8).2.2.1 ≤ 1048576 ∧ (x.l.getD j d8).2.2.2.2.1 ≤ 1048576 ∧ (x.l.getD j d8).2.2.2.2.2.1 ≤ 1048576 ∧ -1048576 ≤ (x.l.getD j d8).2.2.1 ∧ -1048576 ≤ (x.l.getD j d8).2.2.2.2.1 ∧ -1048576 ≤ (x.l.getD j d8).2.2.2.2.2.1) (fun s => mo + 1 - s.2.toNat) (fun r => r = .inl () ∨ ∀ j, j < mo + 1 → j < x.l.length → (x.l.getD j d8).2.2.1 ≤ 1048576 ∧ (x.l.getD j d8).2.2.2.2.1 ≤ 1048576 ∧ (x.l.getD j d8).2.2.2.2.2.1 ≤ 1048576 ∧ -1048576 ≤ (x.l.getD j d8).2.2.1 ∧ -1048576 ≤ (x.l.getD j d8).2.2.2.2.1 ∧ -1048576 ≤ (x.l.getD j d8).2.2.2.2.2.1)
  (fun s hI => by
   obtain ⟨c, q⟩ := s
   obtain ⟨i, rfl, hi, hI⟩ := hI
   unfold q4_
   dsimp only
   by_cases c1 : (i : Int) < ((x.l.length : Nat) : Int)
   ·rw [if_pos c1]
    by_cases c2 : (i : Int) ≤ (mo : Int)
    ·rw [if_pos c2, if_pos (by omega), w64_inc (by omega), Int.toNat_natCast]
     simp only [Option.bind_some]
     have hx : x.l.getD i (0, 0, 0, 0, 0, 0, nl0, 0) = x.l.getD i d8 := rfl
     rw [hx]
     by_cases d1 : (x.l.getD i d8).2.2.1 > 1048576
     ·rw [if_pos d1]; exact .inr ⟨_, .inl rfl, rfl⟩
     rw [if_neg d1]
     by_cases d2 : (x.l.getD i d8).2.2.2.2.1 > 1048576
     ·rw [if_pos d2]; exact .inr ⟨_, .inl rfl, rfl⟩
     rw [if_neg d2]
     by_cases d3 : (x.l.getD i d8).2.2.2.2.2.1 > 1048576
     ·rw [if_pos d3]; exact .inr ⟨_, .inl rfl, rfl⟩
     rw [if_neg d3]
     by_cases d4 : (x.l.getD i d8).2.2.1 < -1048576
     ·rw [if_pos d4]; exact .inr ⟨_, .inl rfl, rfl⟩
     rw [if_neg d4]
     by_cases d5 : (x.l.getD i d8).2.2.2.2.1 < -1048576
     ·rw [if_pos d5]; exact .inr ⟨_, .inl rfl, rfl⟩
     rw [if_neg d5]
     by_cases d6 : (x.l.getD i d8).2.2.2.2.2.1 < -1048576
     ·rw [if_pos d6]; exact .inr ⟨_, .inl rfl, rfl⟩
     rw [if_neg d6]
     refine .inl ⟨(_, ((i + 1 : Nat) : Int)), ⟨i + 1, rfl, by omega, fun j h1 h2 => ?_⟩, by dsimp only; omega, rfl⟩
     rcases Nat.lt_or_ge j i with h | h
     ·exact hI j h h2
     ·obtain rfl : j = i := by omega
      omega
    ·rw [if_neg c2]; exact .inr ⟨_, .inr fun j h1 h2 => hI j (by omega) h2, rfl⟩
   ·rw [if_neg c1]; exact .inr ⟨_, .inr fun j h1 h2 => hI j (by omega) h2, rfl⟩) n (0, 0) ⟨0, rfl, by omega, fun j h => absurd h (Nat.not_lt_zero _)⟩ (by dsimp only; omega)
 unfold qbi_ qch_
 rw [h]
 rcases r with r | r
 ·exact ⟨_, rfl, fun h => by cases h⟩
 ·have hr := hr.resolve_left (fun h => by cases h)
  dsimp only
  by_cases c1 : ((x.l.length : Nat) : Int) ≤ (mo : Int)
  ·rw [if_pos c1]
   have key : x.l.length ≤ mo ∧ ∀ r ∈ x.l, r.2.2.1 ≤ 1048576 ∧ r.2.2.2.2.1 ≤ 1048576 ∧ r.2.2.2.2.2.1 ≤ 1048576 ∧ -1048576 ≤ r.2.2.1 ∧ -1048576 ≤ r.2.2.2.2.1 ∧ -1048576 ≤ r.2.2.2.2.2.1 := ⟨by omega, fun r hm => by
    obtain ⟨j, hj, rfl⟩ := qim_ d8 hm
    exact hr j (by omega) hj⟩
   split
   ·exact ⟨_, rfl, fun _ => key⟩
   ·exact ⟨_, rfl, fun h => by cases h⟩
  ·rw [if_neg c1]; exact ⟨_, rfl, fun h => by cases h⟩
theorem pickW {n k : Nat} {x : Int} (h0 : 1 ≤ k) (hk : k ≤ 1000) : ∃ e : Nat, qdy_ n x (k : Int) = some (e : Int) ∧ e < k := by
 have hlt := Int.tmod_lt_of_pos x (show (0 : Int) < (k : Int) by omega)
 have hgt : -(k : Int) < Int.tmod x k := by
  rw [← Int.neg_neg (Int.tmod x k), ← Int.neg_tmod]
  have := Int.tmod_lt_of_pos (-x) (show (0 : Int) < (k : Int) by omega)
  omega
 unfold qdy_
 rw [if_neg (by omega), if_pos (by omega)]
 by_cases h : Int.tmod x k < 0
 ·rw [if_pos h, qlq_ (by omega) (by omega)]
  refine ⟨(Int.tmod x k + k).toNat, ?_, by omega⟩
  rw [Int.toNat_of_nonneg (by omega)]
 ·rw [if_neg h]
  refine ⟨(Int.tmod x k).toNat, ?_, by omega⟩
  rw [Int.toNat_of_nonneg (by omega)]
/-- the document's check -/
theorem refC {n : Nat} {x : WL rw_iiiiiiLu} (hL : x.l.length ≤ 1000000) {K : Nat} (hK : ∀ j, (@kd _ ⟨x⟩ j).length ≤ K) (hn : x.l.length + K + 20 < n) : ∃ c, ql_ n x = some c ∧ (c = 0 → TreeOf x) := @refCheck_ok _ ⟨x⟩ n K hK hn hL


/-! rows that look alike, some of them moved: the same tree -/
def SameB (i : Int) (p q : P8) : Prop := q.1 = p.1 ∧ q.2.1 = p.2.1 ∧ q.2.2.1 = p.2.2.1 ∧ q.2.2.2.1 = p.2.2.2.1 ∧ q.2.2.2.2.1 = p.2.2.2.2.1 ∧ q.2.2.2.2.2.1 = p.2.2.2.2.2.1 ∧ q.2.2.2.2.2.2.1.l = p.2.2.2.2.2.2.1.l.map (fun v => v - i)
structure Shf (x y : WL rw_iiiiiiLu) (i E : Nat) : Prop where
 len : y.l.length = E - i
 row : ∀ j, i ≤ j → j < E → SameB i (x.l.getD j d8) (y.l.getD (j - i) d8)
theorem Shf.kids {x y : WL rw_iiiiiiLu} {i E j : Nat} (h : Shf x y i E) (h1 : i ≤ j) (h2 : j < E) : @kd _ ⟨y⟩ (j - i) = (@kd _ ⟨x⟩ j).map (fun v => v - (i : Int)) := (h.row j h1 h2).2.2.2.2.2.2
theorem Shf.at {x y : WL rw_iiiiiiLu} {i E j : Nat} (h : Shf x y i E) (h1 : i ≤ j) (h2 : j < E) : atOf y (j - i) = atOf x j := (h.row j h1 h2).2.2.1
theorem Shf.to {x y : WL rw_iiiiiiLu} {i E j : Nat} (h : Shf x y i E) (h1 : i ≤ j) (h2 : j < E) : @toF _ ⟨y⟩ (j - i) = @toF _ ⟨x⟩ j := (h.row j h1 h2).2.2.2.2.1
theorem Shf.ks {x y : WL rw_iiiiiiLu} {i E p k next e : Nat} {a : Int} (hS : Shf x y i E) (hE : E ≤ x.l.length) (hk : KsOf x p k next a e) : i ≤ p → p < E → e ≤ E → i ≤ next → KsOf y (p - i) k (next - i) a (e - i) := by
 have hk' : @Ks _ ⟨x⟩ p k next a e := hk
 clear hk
 induction hk' with
 | @done p k next a hk ha =>
  intro h1 h2 h3 h4
  exact @Ks.done _ ⟨y⟩ _ _ _ _ (by rw [hS.kids h1 h2, List.length_map]; exact hk) (by rw [hS.to h1 h2]; exact ha)
 | @kid p k next e' e a hk hv hn ha c1 c2 ih1 ih2 =>
  intro h1 h2 h3 h4
  have l1 := @Ks.lt _ ⟨x⟩ _ _ _ _ _ c1
  have l2 := @Ks.lt _ ⟨x⟩ _ _ _ _ _ c2
  have q1 := ih1 h4 (by omega) (by omega) (by omega)
  have q2 := ih2 h1 h2 h3 (by omega)
  refine @Ks.kid _ ⟨y⟩ _ _ _ (e' - i) _ _ ?_ ?_ ?_ ?_ ?_ ?_
  ·rw [hS.kids h1 h2, List.length_map]; exact hk
  ·rw [hS.kids h1 h2]
   have : ((@kd _ ⟨x⟩ p).map (fun v => v - (i : Int))).getD k 0 = (@kd _ ⟨x⟩ p).getD k 0 - (i : Int) := by
    simp [List.getD_eq_getElem?_getD, hk]
   rw [this, hv]; omega
  ·show next - i < y.l.length
   rw [hS.len]; omega
  ·have g : @atF _ ⟨y⟩ (next - i) = @atF _ ⟨x⟩ next := hS.at h4 (by omega)
   rw [g]; exact ha
  ·have g : @atF _ ⟨y⟩ (next - i) = @atF _ ⟨x⟩ next := hS.at h4 (by omega)
   rw [g, show next - i + 1 = next + 1 - i by omega]; exact q1
  ·rw [hS.to h4 (by omega)]; exact q2
theorem Shf.tree {x y : WL rw_iiiiiiLu} {i E : Nat} (hS : Shf x y i E) (hT : TreeOf x) (hi : i < E) (hE : E ≤ x.l.length) (hk : KsOf x i 0 (i + 1) (atOf x i) E) : TreeOf y := by
 have hmax : x.l.length ≤ 524288 := @Tree.max _ ⟨x⟩ hT
 have hl := hS.len
 refine @Tree.mk _ ⟨y⟩ (by show 0 < y.l.length; omega) (by show y.l.length ≤ _; omega) (fun j hj => ?_) (fun j h0 hj => ?_) ?_
 ·have hj : j < y.l.length := hj
  obtain ⟨r1, r2, r3, r4, r5, r6, r7⟩ := hS.row (i + j) (by omega) (by omega)
  rw [show i + j - i = j by omega] at r1 r2 r3 r4 r5 r6 r7
  have h : SP (x.l.getD (i + j) d8).2.1 (x.l.getD (i + j) d8).2.2.1 (x.l.getD (i + j) d8).2.2.2.1 (x.l.getD (i + j) d8).2.2.2.2.1 (x.l.getD (i + j) d8).2.2.2.2.2.1 (x.l.getD (i + j) d8).2.2.2.2.2.2.1.l.length := @Tree.sp _ ⟨x⟩ hT (i + j) (by show i + j < x.l.length; omega)
  show SP (y.l.getD j d8).2.1 (y.l.getD j d8).2.2.1 (y.l.getD j d8).2.2.2.1 (y.l.getD j d8).2.2.2.2.1 (y.l.getD j d8).2.2.2.2.2.1 (y.l.getD j d8).2.2.2.2.2.2.1.l.length
  rw [r2, r3, r4, r5, r6, r7, List.length_map]
  exact h
 ·have hj : j < y.l.length := hj
  obtain ⟨r1, r2, -⟩ := hS.row (i + j) (by omega) (by omega)
  rw [show i + j - i = j by omega] at r2
  show (y.l.getD j d8).2.1 ≠ 1
  rw [r2]
  exact @Tree.root _ ⟨x⟩ hT (i + j) (by omega) (by show i + j < x.l.length; omega)
 ·have h := hS.ks hE hk (Nat.le_refl i) hi (Nat.le_refl E) (by omega)
  rw [Nat.sub_self, show i + 1 - i = 1 by omega, ← hl] at h
  have ha := hS.at (Nat.le_refl i) hi
  rw [Nat.sub_self] at ha
  rw [← ha] at h
  exact h
theorem Tree.whole {x : WL rw_iiiiiiLu} (hT : TreeOf x) : KsOf x 0 0 (0 + 1) (atOf x 0) x.l.length := @Tree.ks _ ⟨x⟩ hT
/-- the same rows but for their bits -/
theorem TreeOf.alike {x y : WL rw_iiiiiiLu} (hT : TreeOf x) (hl : y.l.length = x.l.length) (h : ∀ j, j < x.l.length → SameB 0 (x.l.getD j d8) (y.l.getD j d8)) : TreeOf y := by
 have hp : 0 < x.l.length := @Tree.pos _ ⟨x⟩ hT
 exact Shf.tree (i := 0) (E := x.l.length) ⟨hl, fun j _ h2 => h j h2⟩ hT hp (Nat.le_refl _) (Tree.whole hT)
/-! the document's Check of a tree -/
theorem bare_true (n : Nat) (a0 a1 a2 a3 a4 a5 : Int) (a6 : NL) (a7 : Int) (h : SP a1 a2 a3 a4 a5 a6.l.length) : qs_ n a0 a1 a2 a3 a4 a5 a6 a7 = some true := by
 obtain ⟨h1, h2, h3, h4, h5, h6, h7, h8, h9⟩ := h
 have leaf := @leaf_ok _ ⟨(wl0 : WL rw_iiiiiiLu)⟩ n
 unfold qs_
 rw [if_neg (by omega), if_neg (by omega), if_neg (by omega), if_neg (by omega), if_neg (by omega)]
 have hc : a1 = 1 ∨ a1 = 2 ∨ a1 = 3 ∨ a1 = 4 ∨ a1 = 5 ∨ a1 = 6 := by omega
 rcases hc with rfl | rfl | rfl | rfl | rfl | rfl
 ·have g := h7 (by omega)
  simp only [leaf, Option.bind_some, Int.reduceEq, reduceIte, g, Bool.false_eq_true]
 ·have g := h7 (by omega)
  simp only [leaf, Option.bind_some, Int.reduceEq, reduceIte, g, Bool.false_eq_true]
 ·have g := h6 (by omega)
  have l := h9 (by omega) (by omega)
  simp only [leaf, Option.bind_some, Int.reduceEq, reduceIte, if_neg (show ¬ a3 < a2 by omega), if_neg (show ¬ a3 > a4 by omega), l]
  rfl
 ·have g := h7 (by omega)
  have g8 := h8 rfl
  have l := h9 (by omega) (by omega)
  simp only [leaf, Option.bind_some, Int.reduceEq, reduceIte, g, g8, l]
  rfl
 ·have g := h6 (by omega)
  have l := h9 (by omega) (by omega)
  simp only [leaf, Option.bind_some, Int.reduceEq, reduceIte, if_neg (show ¬ a3 < a2 by omega), if_neg (show ¬ a3 > a4 by omega), l]
  rfl
 ·have g := h6 (by omega)
  have l := h9 (by omega) (by omega)
  simp only [leaf, Option.bind_some, Int.reduceEq, reduceIte, if_neg (show ¬ a3 < a2 by omega), if_neg (show ¬ a3 > a4 by omega), l]
  rfl
theorem refTrue {n : Nat} {y : WL rw_iiiiiiLu} (hT : TreeOf y) (hn : y.l.length + y.l.length + 20 < n) : ql_ n y = some 0 := by
 have hmax : y.l.length ≤ 524288 := @Tree.max _ ⟨y⟩ hT
 have hp : 0 < y.l.length := @Tree.pos _ ⟨y⟩ hT
 obtain ⟨r, q1, q2⟩ := hoare (B := qh_ n y) (σ := Unit) (fun _ i => i) (fun _ _ => True) (fun r => r = .inr ()) y.l.length
  (fun j _ hj _ => by
   refine .inl ⟨(), trivial, ?_⟩
   have hb := bare_true n (y.l.getD j d8).1 (y.l.getD j d8).2.1 (y.l.getD j d8).2.2.1 (y.l.getD j d8).2.2.2.1 (y.l.getD j d8).2.2.2.2.1 (y.l.getD j d8).2.2.2.2.2.1 (y.l.getD j d8).2.2.2.2.2.2.1 (y.l.getD j d8).2.2.2.2.2.2.2 (@Tree.sp _ ⟨y⟩ hT j hj)
   unfold qh_
   dsimp only
   rw [if_pos (by omega), if_pos (by omega), Int.toNat_natCast]
   dsimp only [Option.bind_some]
   rw [show qs_ n (y.l.getD j (0, 0, 0, 0, 0, 0, nl0, 0)).1 (y.l.getD j (0, 0, 0, 0, 0, 0, nl0, 0)).2.1 (y.l.getD j (0, 0, 0, 0, 0, 0, nl0, 0)).2.2.1 (y.l.getD j (0, 0, 0, 0, 0, 0, nl0, 0)).2.2.2.1 (y.l.getD j (0, 0, 0, 0, 0, 0, nl0, 0)).2.2.2.2.1 (y.l.getD j (0, 0, 0, 0, 0, 0, nl0, 0)).2.2.2.2.2.1 (y.l.getD j (0, 0, 0, 0, 0, 0, nl0, 0)).2.2.2.2.2.2.1 (y.l.getD j (0, 0, 0, 0, 0, 0, nl0, 0)).2.2.2.2.2.2.2 = some true from hb]
   dsimp only [Option.bind_some]
   rw [if_pos rfl, w64_inc (by omega)]
   by_cases c : (j : Int) > 0
   ·have g : (y.l.getD j (0, 0, 0, 0, 0, 0, nl0, 0)).2.1 ≠ 1 := @Tree.root _ ⟨y⟩ hT j (by omega) hj
    rw [if_pos c, if_neg g]
   ·rw [if_neg c])
  (fun _ _ => by
   refine ⟨.inr (), rfl, ?_⟩
   unfold qh_
   dsimp only
   rw [if_neg (by omega)])
  n 0 () (Nat.zero_le _) trivial (by omega)
 have q2 : qb8_ n y 0 = some r := q2
 have he : qa_ n y 0 = some (y.l.length : Int) := @endOf _ ⟨y⟩ y.l.length 0 y.l.length (fun j => @Tree.few _ ⟨y⟩ hT j) (Tree.whole hT) hp n (by show y.l.length - 0 + y.l.length + 10 < n; omega)
 unfold ql_
 rw [if_neg (by omega), q2, q1]
 dsimp only
 rw [if_neg (by omega), he]
 dsimp only [Option.bind_some]
 rw [if_pos rfl]


/-! the document's copies -/
theorem takeS {L : List Int} {q : Nat} (h : q < L.length) : L.take (q + 1) = L.take q ++ [L.getD q 0] := by
 rw [List.take_add_one, List.getD_eq_getElem?_getD, List.getElem?_eq_getElem h]; rfl
theorem movedIn {n i : Nat} {by_ : Int} {x : WL rw_iiiiiiLu} {r : P8} {acc : List P8} (hi : i < x.l.length) (hr : x.l.getD i d8 = r) (hk : r.2.2.2.2.2.2.1.l.length ≤ 1000000) (hn : r.2.2.2.2.2.2.1.l.length < n) :
  ∃ k, qc9_ n x by_ (i : Int) r.1 r.2.1 r.2.2.1 r.2.2.2.1 r.2.2.2.2.1 r.2.2.2.2.2.1 r.2.2.2.2.2.2.2 (acc, [], 0) = some (acc, k) ∧ k.l = r.2.2.2.2.2.2.1.l.map (ins by_) := by
 subst hr
 obtain ⟨q, ⟨k, rfl, hq⟩, q2⟩ := hoare (B := qbb_ n x by_ (i : Int) (x.l.getD i d8).1 (x.l.getD i d8).2.1 (x.l.getD i d8).2.2.1 (x.l.getD i d8).2.2.2.1 (x.l.getD i d8).2.2.2.2.1 (x.l.getD i d8).2.2.2.2.2.1 (x.l.getD i d8).2.2.2.2.2.2.2) (σ := List Int) (fun L j => (acc, L, j)) (fun j L => L = ((x.l.getD i d8).2.2.2.2.2.2.1.l.take j).map (ins by_)) (fun q => ∃ k : NL, q = (acc, k) ∧ k.l = (x.l.getD i d8).2.2.2.2.2.2.1.l.map (ins by_)) (x.l.getD i d8).2.2.2.2.2.2.1.l.length
  (fun j L hj hL => by
   refine .inl ⟨L ++ [ins by_ ((x.l.getD i d8).2.2.2.2.2.2.1.l.getD j 0)], ?_, ?_⟩
   ·rw [hL, takeS hj, List.map_append]; rfl
   ·have hlen : L.length = j := by rw [hL, List.length_map, List.length_take]; omega
    have hj : j < (x.l.getD i (0, 0, 0, 0, 0, 0, nl0, 0)).2.2.2.2.2.2.1.l.length := hj
    have hk : (x.l.getD i (0, 0, 0, 0, 0, 0, nl0, 0)).2.2.2.2.2.2.1.l.length ≤ 1000000 := hk
    unfold qbb_
    dsimp only
    cases acc with
    | nil =>
     cases L with
     | nil =>
      dsimp only
      rw [if_pos (by omega), Int.toNat_natCast]
      try dsimp only [Option.bind_some]
      rw [if_pos (by omega), if_pos (by omega), Int.toNat_natCast, if_pos hj]
      try dsimp only [Option.bind_some]
      rw [w64_inc (by omega)]
      rfl
     | cons a t =>
      dsimp only
      rw [if_pos (by omega), Int.toNat_natCast]
      try dsimp only [Option.bind_some]
      rw [if_pos (by omega), if_pos (by omega), Int.toNat_natCast, if_pos hj]
      try dsimp only [Option.bind_some]
      rw [if_pos (by omega), w64_inc (by omega)]
      rfl
    | cons b u =>
     cases L with
     | nil =>
      dsimp only
      rw [if_pos (by omega), Int.toNat_natCast]
      try dsimp only [Option.bind_some]
      rw [if_pos (by omega), if_pos (by omega), Int.toNat_natCast, if_pos hj]
      try dsimp only [Option.bind_some]
      rw [w64_inc (by omega)]
      rfl
     | cons a t =>
      dsimp only
      rw [if_pos (by omega), Int.toNat_natCast]
      try dsimp only [Option.bind_some]
      rw [if_pos (by omega), if_pos (by omega), Int.toNat_natCast, if_pos hj]
      try dsimp only [Option.bind_some]
      rw [if_pos (by omega), w64_inc (by omega)]
      rfl)
  (fun L hL => by
   rw [List.take_length] at hL
   have hk : (x.l.getD i (0, 0, 0, 0, 0, 0, nl0, 0)).2.2.2.2.2.2.1.l.length ≤ 1000000 := hk
   have hlen : L.length = (x.l.getD i (0, 0, 0, 0, 0, 0, nl0, 0)).2.2.2.2.2.2.1.l.length := by rw [hL, List.length_map]; rfl
   unfold qbb_
   dsimp only
   cases acc with
   | nil =>
    cases L with
    | nil =>
     dsimp only
     rw [if_pos (by omega), Int.toNat_natCast]
     try dsimp only [Option.bind_some]
     refine ⟨_, ⟨nl0, rfl, hL⟩, ?_⟩
     rw [if_neg (by show ¬ (((x.l.getD i (0, 0, 0, 0, 0, 0, nl0, 0)).2.2.2.2.2.2.1.l.length : Nat) : Int) < (((x.l.getD i (0, 0, 0, 0, 0, 0, nl0, 0)).2.2.2.2.2.2.1.l.length : Nat) : Int); omega)]
    | cons a t =>
     dsimp only
     rw [if_pos (by omega), Int.toNat_natCast]
     try dsimp only [Option.bind_some]
     refine ⟨_, ⟨frzL (a :: t) (by omega), rfl, hL⟩, ?_⟩
     rw [if_neg (by show ¬ (((x.l.getD i (0, 0, 0, 0, 0, 0, nl0, 0)).2.2.2.2.2.2.1.l.length : Nat) : Int) < (((x.l.getD i (0, 0, 0, 0, 0, 0, nl0, 0)).2.2.2.2.2.2.1.l.length : Nat) : Int); omega), dif_pos (by omega)]
   | cons b u =>
    cases L with
    | nil =>
     dsimp only
     rw [if_pos (by omega), Int.toNat_natCast]
     try dsimp only [Option.bind_some]
     refine ⟨_, ⟨nl0, rfl, hL⟩, ?_⟩
     rw [if_neg (by show ¬ (((x.l.getD i (0, 0, 0, 0, 0, 0, nl0, 0)).2.2.2.2.2.2.1.l.length : Nat) : Int) < (((x.l.getD i (0, 0, 0, 0, 0, 0, nl0, 0)).2.2.2.2.2.2.1.l.length : Nat) : Int); omega)]
    | cons a t =>
     dsimp only
     rw [if_pos (by omega), Int.toNat_natCast]
     try dsimp only [Option.bind_some]
     refine ⟨_, ⟨frzL (a :: t) (by omega), rfl, hL⟩, ?_⟩
     rw [if_neg (by show ¬ (((x.l.getD i (0, 0, 0, 0, 0, 0, nl0, 0)).2.2.2.2.2.2.1.l.length : Nat) : Int) < (((x.l.getD i (0, 0, 0, 0, 0, 0, nl0, 0)).2.2.2.2.2.2.1.l.length : Nat) : Int); omega), dif_pos (by omega)])
  n 0 [] (Nat.zero_le _) (by simp) (by omega)
 exact ⟨k, q2, hq⟩
theorem moved_ok {n : Nat} {by_ : Int} {x : WL rw_iiiiiiLu} (hp : 0 < x.l.length) (hk : FewK n x.l) (hx : x.l.length ≤ 1000000) (hn : x.l.length < n) :
  ∃ M, q2_ n x by_ = some (.inr M) ∧ M.map vw = x.l.map fun r => mvK (ins by_) (vw r) := by
 obtain ⟨M, h, hM⟩ := appLoop (B := qbc_ n x by_) vw (fun j => mvK (ins by_) (vw (x.l.getD j d8))) x.l.length 0
  (fun j acc hj hacc => by
   obtain ⟨hf1, hf2⟩ := fewD hk hj
   obtain ⟨k, g1, g2⟩ := movedIn (n := n) (by_ := by_) (acc := acc) hj rfl hf1 hf2
   refine ⟨rk (x.l.getD j d8) k, vw_rk g2, ?_⟩
   unfold qbc_
   dsimp only
   cases acc with
   | nil =>
    dsimp only
    rw [if_pos (by omega), if_pos (by omega), Int.toNat_natCast]
    try dsimp only [Option.bind_some]
    erw [g1]
    try dsimp only [Option.bind_some]
    rw [w64_inc (by omega)]
    rfl
   | cons a t =>
    dsimp only
    rw [if_pos (by omega), if_pos (by omega), Int.toNat_natCast]
    try dsimp only [Option.bind_some]
    erw [g1]
    try dsimp only [Option.bind_some]
    rw [if_pos (by omega), w64_inc (by omega)]
    rfl)
  (fun acc => by
   unfold qbc_
   dsimp only
   cases acc with
   | nil => dsimp only; rw [if_neg (by omega)]
   | cons a t => dsimp only; rw [if_neg (by omega)]) n [] (Nat.zero_le _) hn
 rw [List.nil_append] at h
 have hM' : M.map vw = x.l.map fun r => mvK (ins by_) (vw r) := by rw [hM]; exact qkl_ (f := fun r => mvK (ins by_) (vw r))
 refine ⟨M, ?_, hM'⟩
 unfold q2_ qef_
 rw [h]
 try dsimp only [Option.bind_some]
 cases M with
 | nil =>
  have := congrArg List.length hM'
  simp at this
  omega
 | cons a t => rfl
theorem copy_ok {n : Nat} {x : WL rw_iiiiiiLu} (hp : 0 < x.l.length) (hk : FewK n x.l) (hx : x.l.length ≤ 1000000) (hn : x.l.length < n) :
  ∃ M, qc6_ n x = some M ∧ M.map vw = x.l.map fun r => mvK (ins 0) (vw r) := by
 obtain ⟨M, h, hM⟩ := moved_ok (by_ := 0) hp hk hx hn
 unfold qc6_
 rw [h]
 exact ⟨M, rfl, hM⟩
def met0 (v : V8) : V8 := (v.1, v.2.1, v.2.2.1, v.2.2.2.1, v.2.2.2.2.1, v.2.2.2.2.2.1, v.2.2.2.2.2.2.1, 0)
def m0 (r : P8) : P8 := (r.1, r.2.1, r.2.2.1, r.2.2.2.1, r.2.2.2.2.1, r.2.2.2.2.2.1, r.2.2.2.2.2.2.1, 0)
theorem bareIn {n : Nat} {L : List P8} (hL : L.length ≤ 1000000) (hn : L.length < n) : qeo_ n L.length (L, 0) = some (L.map m0) := by
 obtain ⟨q, rfl, q2⟩ := hoare (B := qbf_ n L.length) (σ := List P8) (fun M j => (M, j)) (fun j M => M.length = L.length ∧ ∀ k, M.getD k d8 = if k < j then m0 (L.getD k d8) else L.getD k d8) (fun q => q = L.map m0) L.length
  (fun j M hj hM => by
   refine .inl ⟨M.set j (m0 (M.getD j d8)), ⟨by rw [List.length_set]; exact hM.1, fun k => ?_⟩, ?_⟩
   ·rw [qlk_ (by omega), hM.2 k, hM.2 j, if_neg (Nat.lt_irrefl j)]
    by_cases e : k = j
    ·subst e; rw [if_pos rfl, if_pos (by omega)]
    ·rw [if_neg e]
     by_cases c : k < j
     ·rw [if_pos c, if_pos (by omega)]
     ·rw [if_neg c, if_neg (by omega)]
   ·unfold qbf_
    dsimp only
    have hMl := hM.1
    rw [if_pos (by omega), if_pos (by omega), Int.toNat_natCast, if_pos (by omega)]
    try dsimp only [Option.bind_some]
    rw [w64_inc (by omega)]
    rfl)
  (fun M hM => by
   refine ⟨_, ?_, by unfold qbf_; dsimp only; rw [if_neg (by omega)]⟩
   refine ext_getD (d := d8) (by rw [List.length_map]; exact hM.1) fun j hj => ?_
   rw [List.length_map] at hj
   rw [hM.2 j, if_pos hj]
   simp [List.getD_eq_getElem?_getD, hj])
  n 0 L (Nat.zero_le _) ⟨rfl, fun k => by rw [if_neg (Nat.not_lt_zero _)]⟩ (by omega)
 exact q2
theorem Tree.kin {x : WL rw_iiiiiiLu} (hT : TreeOf x) : ∀ r ∈ x.l, ∀ k ∈ r.2.2.2.2.2.2.1.l, ∃ c : Nat, k = c ∧ c < x.l.length := fun r hr k hk => by
 obtain ⟨i, hi, rfl⟩ := qim_ d8 hr
 obtain ⟨q, hq, rfl⟩ := qim_ 0 hk
 obtain ⟨c, h1, h2, h3⟩ := @Tree.kid _ ⟨x⟩ hT i q hi hq
 exact ⟨c, h1, h3⟩
theorem mv_id {f : Int → Int} {v : V8} (h : ∀ k ∈ v.2.2.2.2.2.2.1, f k = k) : mvK f v = v := by
 obtain ⟨a, b, c, d, e, g, l, m⟩ := v
 have : l.map f = l := by
  conv => rhs; rw [← List.map_id l]
  exact List.map_congr_left h
 show (a, b, c, d, e, g, l.map f, m) = _
 rw [this]
theorem ins0 {x : WL rw_iiiiiiLu} (hT : TreeOf x) : (x.l.map fun r => mvK (ins 0) (vw r)) = x.l.map vw := by
 have hmax : x.l.length ≤ 524288 := @Tree.max _ ⟨x⟩ hT
 refine List.map_congr_left fun r hr => mv_id fun k hk => ?_
 obtain ⟨c, rfl, hc⟩ := Tree.kin hT r hr k hk
 unfold ins
 rw [Int.add_zero, qlq_ (by omega) (by omega)]
theorem rbare_ok {n : Nat} {x : WL rw_iiiiiiLu} (hT : TreeOf x) (hn : x.l.length + x.l.length + 20 < n) : ∃ z, qbr_ n x = some z ∧ z.l.map vw = x.l.map fun r => met0 (vw r) := by
 have hmax : x.l.length ≤ 524288 := @Tree.max _ ⟨x⟩ hT
 obtain ⟨M, h, hM⟩ := copy_ok (n := n) (x := x) (@Tree.pos _ ⟨x⟩ hT) (@few_of _ ⟨x⟩ hT n (by show x.l.length < n; omega)) (by omega) (by omega)
 have hl : M.length = x.l.length := by simpa using congrArg List.length hM
 rw [ins0 hT] at hM
 unfold qbr_
 rw [refTrue hT hn]
 try dsimp only [Option.bind_some]
 rw [if_pos rfl, h]
 try dsimp only [Option.bind_some]
 rw [bareIn (by omega) (by omega)]
 try dsimp only [Option.bind_some]
 rw [if_pos (by rw [List.length_map]), dif_pos (by rw [List.length_map]; omega)]
 refine ⟨_, rfl, ?_⟩
 show (M.map m0).map vw = _
 rw [List.map_map, show vw ∘ m0 = met0 ∘ vw from rfl, ← List.map_map, hM, List.map_map]
 rfl
theorem sub_ok {n i e : Nat} {x : WL rw_iiiiiiLu} (hT : TreeOf x) (hi : i < x.l.length) (he : KsOf x i 0 (i + 1) (atOf x i) e) (hel : e ≤ x.l.length) (hn : x.l.length + x.l.length + 20 < n) :
  ∃ z, qdi_ n x (i : Int) = some z ∧ z.l.map vw = ((x.l.drop i).take (e - i)).map fun r => mvK (ins (w64 (0 - (i : Int)))) (vw r) := by
 have hmax : x.l.length ≤ 524288 := @Tree.max _ ⟨x⟩ hT
 have hlt : i + 1 ≤ e := @Ks.lt _ ⟨x⟩ _ _ _ _ _ he
 have hend : qa_ n x (i : Int) = some (e : Int) := @endOf _ ⟨x⟩ x.l.length i e (fun j => @Tree.few _ ⟨x⟩ hT j) he hi n (by show x.l.length - i + x.l.length + 10 < n; omega)
 have hl : (wlSub rwf_iiiiiiLu x ((i : Nat) : Int).toNat ((e : Nat) : Int).toNat (by omega)).l = (x.l.drop i).take (e - i) := rfl
 have hll : (wlSub rwf_iiiiiiLu x ((i : Nat) : Int).toNat ((e : Nat) : Int).toNat (by omega)).l.length = e - i := by rw [hl]; simp; omega
 have kx := @few_of _ ⟨x⟩ hT n (by show x.l.length < n; omega)
 obtain ⟨M, h, hM⟩ := moved_ok (n := n) (x := wlSub rwf_iiiiiiLu x ((i : Nat) : Int).toNat ((e : Nat) : Int).toNat (by omega)) (by_ := w64 (0 - (i : Int))) (by omega) (fun r hr => kx r (List.mem_of_mem_drop (List.mem_of_mem_take hr))) (by omega) (by omega)
 have hMl : M.length = e - i := by have := congrArg List.length hM; rw [List.length_map, List.length_map, hll] at this; exact this
 unfold qdi_ qep_
 rw [refTrue hT hn]
 try dsimp only [Option.bind_some]
 rw [if_pos rfl, if_pos (by omega), if_pos (by omega)]
 try dsimp only [Option.bind_some]
 rw [if_pos rfl, hend]
 try dsimp only [Option.bind_some]
 rw [if_pos (by omega), if_pos (by omega), dif_pos (by omega), h]
 dsimp only
 rw [dif_pos (by omega)]
 exact ⟨_, rfl, hM⟩
/-! Same -/
theorem same2 {n : Nat} {a b : WL rw_iiiiiiLu} {i c1 c2 c3 c4 c5 c6 c7 d1 d2 d3 d4 d5 d6 d7 : Int} {k l : NL} (h : k.l = l.l) (hk : k.l.length ≤ 1000000) (hn : k.l.length < n) : qdm_ n a b i c1 c2 c3 c4 c5 c6 k c7 d1 d2 d3 d4 d5 d6 l d7 0 = some (.inr ()) := by
 obtain ⟨q, rfl, q2⟩ := hoare (B := qbg_ n a b i c1 c2 c3 c4 c5 c6 k c7 d1 d2 d3 d4 d5 d6 l d7) (σ := Unit) (fun _ j => j) (fun _ _ => True) (fun q => q = .inr ()) k.l.length
  (fun j _ hj _ => by
   refine .inl ⟨(), trivial, ?_⟩
   unfold qbg_
   dsimp only
   rw [← h, if_pos (by omega), if_pos (by omega), if_pos (by omega), Int.toNat_natCast]
   try dsimp only [Option.bind_some]
   rw [if_pos (by omega), if_pos hj]
   try dsimp only [Option.bind_some]
   rw [if_pos rfl, w64_inc (by omega)])
  (fun _ _ => ⟨_, rfl, by unfold qbg_; dsimp only; rw [if_neg (by omega)]⟩)
  n 0 () (Nat.zero_le _) trivial (by omega)
 exact q2
theorem same_ok {n : Nat} {a b : WL rw_iiiiiiLu} (h : a.l.map vw = b.l.map vw) (ha : a.l.length ≤ 1000000) (hk : FewK n a.l) (hn : a.l.length < n) : qc7_ n a b = some true := by
 have hl : a.l.length = b.l.length := by simpa using congrArg List.length h
 have hrow : ∀ j, j < a.l.length → vw (a.l.getD j d8) = vw (b.l.getD j d8) := fun j hj => by
  have := congrArg (fun L => L.getD j (vw d8)) h
  simpa [List.getD_eq_getElem?_getD, hj, hl ▸ hj] using this
 obtain ⟨q, rfl, q2⟩ := hoare (B := qbh_ n a b) (σ := Unit) (fun _ j => j) (fun _ _ => True) (fun q => q = .inr ()) a.l.length
  (fun j _ hj _ => by
   refine .inl ⟨(), trivial, ?_⟩
   obtain ⟨hf1, hf2⟩ := fewD hk hj
   have hv := hrow j hj
   simp only [vw, Prod.mk.injEq] at hv
   obtain ⟨e1, e2, e3, e4, e5, e6, e7, e8⟩ := hv
   unfold qbh_
   dsimp only
   rw [if_pos (by omega), if_pos (by omega), Int.toNat_natCast]
   try dsimp only [Option.bind_some]
   rw [if_pos (by omega)]
   try dsimp only [Option.bind_some]
   erw [if_pos e1, if_pos e2, if_pos e3, if_pos e4, if_pos e5, if_pos e6, if_pos e8, if_pos (by rw [show (a.l.getD j (0, 0, 0, 0, 0, 0, nl0, 0)).2.2.2.2.2.2.1.l = _ from e7]; rfl), same2 e7 hf1 hf2]
   dsimp only
   rw [w64_inc (by omega)])
  (fun _ _ => ⟨_, rfl, by unfold qbh_; dsimp only; rw [if_neg (by omega)]⟩)
  n 0 () (Nat.zero_le _) trivial (by omega)
 have q2 : qdn_ n a b 0 = some (.inr ()) := q2
 unfold qc7_
 rw [if_pos (by omega), q2]


/-! Splice without jobs -/
theorem range_foldl {σ α : Type} {d : α} (f : σ → α → σ) (l : List α) (s : σ) : (List.range l.length).foldl (fun s j => f s (l.getD j d)) s = l.foldl f s := by
 have h : (List.range l.length).map (fun j => l.getD j d) = l := by have := qkl_ (f := id) (d := d) (l := l); simpa using this
 conv => rhs; rw [← h]
 rw [List.foldl_map]
def mt (r : P8) : Int := r.2.2.2.2.2.2.2
def orM (l : List P8) : Int := l.foldl (fun s r => bOr .u64 s (mt r)) 0
theorem qns_ {n a b : Nat} {x : WL rw_iiiiiiLu} (hab : a ≤ b) (hb : b ≤ x.l.length) (hL : x.l.length ≤ 1000000) (hn : x.l.length < n) : qbj_ n x (a : Int) (b : Int) = some (orM ((x.l.drop a).take (b - a))) := by
 unfold qbj_ qdc_ qhx_
 rw [if_pos (by omega), if_pos (by omega), dif_pos (show ((a : Nat) : Int).toNat ≤ ((b : Nat) : Int).toNat ∧ ((b : Nat) : Int).toNat ≤ x.l.length by omega)]
 generalize hy : wlSub rwf_iiiiiiLu x ((a : Nat) : Int).toNat ((b : Nat) : Int).toNat (by omega) = y
 have hl : y.l = (x.l.drop a).take (b - a) := by
  rw [← hy]
  show (x.l.drop ((a : Nat) : Int).toNat).take (((b : Nat) : Int).toNat - ((a : Nat) : Int).toNat) = _
  rw [Int.toNat_natCast, Int.toNat_natCast]
 have hle : y.l.length ≤ x.l.length := by rw [hl]; simp; omega
 have h := foldLoop (B := qc4_ n x (a : Int) (b : Int) y (y.l.length : Int)) (fun s j => bOr .u64 s (mt (y.l.getD j d8))) y.l.length
  (fun i s hi => by
   unfold qc4_
   dsimp only
   rw [if_pos (by omega), if_pos (by omega), Int.toNat_natCast]
   dsimp only [Option.bind_some]
   unfold qb7_ qgc_
   dsimp only [Option.bind_some]
   rw [w64_inc (by omega)]
   rfl)
  (fun s => by
   unfold qc4_
   dsimp only
   rw [if_neg (by omega)]) n 0 (by omega)
 unfold qig_
 rw [h, range_foldl (fun s r => bOr .u64 s (mt r)), hl]
 rfl
theorem has_ok {n i : Nat} {x : WL rw_iiiiiiLu} (hT : TreeOf x) (hn : x.l.length < n) (hi : i < x.l.length) : qj5_ n x (i : Int) = some true := by
 unfold qj5_
 rw [if_pos (by omega), if_pos (by omega), chk hT hn]
 try dsimp only [Option.bind_some]
 rw [if_pos rfl]
theorem tEnd {n i e : Nat} {x : WL rw_iiiiiiLu} (hT : TreeOf x) (hn : x.l.length < n) (hL : x.l.length ≤ 1000000) (h : KsOf x i 0 (i + 1) (atOf x i) e) (hi : i < x.l.length) (he : e ≤ x.l.length) : qhu_ n x (i : Int) = some (e : Int) := by
 unfold qhu_
 rw [has_ok hT hn hi]
 try dsimp only [Option.bind_some]
 rw [if_pos rfl, pEnd hn hL h hi he]
 rfl
theorem sfits_ok {n i : Nat} {x o : WL rw_iiiiiiLu} (hi : i < x.l.length) (ho : 0 < o.l.length) : qhb_ n x (i : Int) o = some (fitR (x.l.getD i d8) (o.l.getD 0 d8)) := by
 unfold qhb_
 rw [if_pos (by omega), if_pos (by omega), if_pos (by omega), Int.toNat_natCast]
 try dsimp only [Option.bind_some]
 rw [if_pos (by omega)]
 try dsimp only [Option.bind_some]
 rw [qhn_]
 rfl
theorem par_ok {n : Nat} {x : WL rw_iiiiiiLu} (hT : TreeOf x) (hL : x.l.length ≤ 500) (hn : 2000 < n) : ∃ y, qc0_ n x = some y ∧ y.l = @parL _ ⟨x⟩ :=
 @prgPar _ ⟨x⟩ n x.l.length hT (fun j => @Tree.few _ ⟨x⟩ hT j) (by show x.l.length + _ < n; omega)
theorem par_lt {x : WL rw_iiiiiiLu} (hT : TreeOf x) {i : Nat} (h0 : 0 < i) (hi : i < x.l.length) : ∃ p : Nat, (@parL _ ⟨x⟩).getD i 0 = (p : Int) ∧ p < i := by
 have h := @parL_ok _ ⟨x⟩ hT i h0 hi
 exact ⟨((@parL _ ⟨x⟩).getD i 0).toNat, by omega, by omega⟩
def orR (r : P8) (b : Int) : P8 := (r.1, r.2.1, r.2.2.1, r.2.2.2.1, r.2.2.2.2.1, r.2.2.2.2.2.1, r.2.2.2.2.2.2.1, bOr .u64 r.2.2.2.2.2.2.2 b)


/-! bits -/
def bt (v : Int) (k : Nat) : Bool := (BitVec.ofInt 64 v).getLsbD k
def Un (v : Int) : Prop := ∃ m : BitVec 64, v = (m.toNat : Int)
theorem u64w (m : BitVec 64) : IntKind.u64.wrap ((m.toNat : Nat) : Int) = ((m.toNat : Nat) : Int) := IntWalk.u64_in _ (by have := m.isLt; omega)
theorem ofI (m : BitVec 64) : BitVec.ofInt 64 ((m.toNat : Nat) : Int) = m := by
 rw [BitVec.ofInt_natCast, BitVec.ofNat_toNat, BitVec.setWidth_eq]
theorem un_or {x y : Int} : Un (bOr .u64 x y) := ⟨_, u64w _⟩
theorem un_ann {x y : Int} : Un (bAndNot .u64 x y) := ⟨_, u64w _⟩
theorem bt_or {x y : Int} {k : Nat} : bt (bOr .u64 x y) k = (bt x k || bt y k) := by
 unfold bOr bt
 rw [show IntKind.u64.bits = 64 from rfl, u64w, ofI, BitVec.getLsbD_or]
theorem bt_ann {x y : Int} {k : Nat} : bt (bAndNot .u64 x y) k = (bt x k && !bt y k) := by
 unfold bAndNot bt
 rw [show IntKind.u64.bits = 64 from rfl, u64w, ofI, BitVec.getLsbD_and, BitVec.getLsbD_not]
 by_cases h : k < 64
 ·simp [h]
 ·have : (BitVec.ofInt 64 x).getLsbD k = false := BitVec.getLsbD_of_ge _ _ (by omega)
  simp [this]
theorem bt_not {x : Int} {k : Nat} (h : k < 64) : bt (bNot .u64 x) k = !bt x k := by
 unfold bNot bXor bt
 rw [show IntKind.u64.bits = 64 from rfl, u64w, ofI, BitVec.getLsbD_xor, if_neg (by decide), show BitVec.ofInt 64 (IntKind.max .u64) = BitVec.allOnes 64 by decide, BitVec.getLsbD_allOnes]
 simp [h]
theorem bt_z {k : Nat} : bt 0 k = false := by unfold bt; simp
theorem un_zero {x : Int} (hx : Un x) (h : ∀ k, k < 64 → bt x k = false) : x = 0 := by
 obtain ⟨m, rfl⟩ := hx
 have : m = 0#64 := BitVec.eq_of_getLsbD_eq fun i hi => by
  have := h i hi
  unfold bt at this
  rw [ofI] at this
  rw [this]; simp
 rw [this]; rfl
theorem un_all {x : Int} (hx : Un x) (h : ∀ k, k < 64 → bt x k = true) : x = 18446744073709551615 := by
 obtain ⟨m, rfl⟩ := hx
 have : m = BitVec.allOnes 64 := BitVec.eq_of_getLsbD_eq fun i hi => by
  have := h i hi
  unfold bt at this
  rw [ofI] at this
  rw [this, BitVec.getLsbD_allOnes]; simp [hi]
 rw [this]; decide
theorem bt_fold {k : Nat} : ∀ (l : List P8) (s : Int), (bt (l.foldl (fun s r => bOr .u64 s (mt r)) s) k = true) ↔ (bt s k = true ∨ ∃ r ∈ l, bt (mt r) k = true)
 | [], s => by simp
 | r :: l, s => by
  rw [List.foldl_cons, bt_fold l, bt_or, Bool.or_eq_true]
  simp only [List.mem_cons]
  constructor
  ·rintro ((h | h) | ⟨q, h1, h2⟩)
   ·exact .inl h
   ·exact .inr ⟨r, .inl rfl, h⟩
   ·exact .inr ⟨q, .inr h1, h2⟩
  ·rintro (h | ⟨q, rfl | h1, h2⟩)
   ·exact .inl (.inl h)
   ·exact .inl (.inr h2)
   ·exact .inr ⟨q, h1, h2⟩
theorem un_fold : ∀ (l : List P8) (s : Int), Un s → Un (l.foldl (fun s r => bOr .u64 s (mt r)) s)
 | [], s, h => h
 | r :: l, s, h => by rw [List.foldl_cons]; exact un_fold l _ un_or
theorem un_orM (l : List P8) : Un (orM l) := un_fold l 0 ⟨0#64, rfl⟩
theorem bt_orM {l : List P8} {k : Nat} : (bt (orM l) k = true) ↔ ∃ r ∈ l, bt (mt r) k = true := by
 unfold orM
 rw [bt_fold, bt_z]
 simp
/-- without the bits of those that are done -/
def lefts (v : Int) (ds : List Int) : Int := ds.foldl (fun b s => bAndNot .u64 b (shlV .u64 1 s)) v
theorem qo5_ {k : Nat} : ∀ (ds : List Int) (v : Int), bt (lefts v ds) k = (bt v k && !(ds.any fun s => bt (shlV .u64 1 s) k))
 | [], v => by simp [lefts]
 | s :: ds, v => by
  show bt (lefts (bAndNot .u64 v (shlV .u64 1 s)) ds) k = _
  rw [qo5_ ds, bt_ann, List.any_cons]
  cases bt v k <;> cases bt (shlV .u64 1 s) k <;> rfl
theorem lefts_snoc {v s : Int} {ds : List Int} : lefts v (ds ++ [s]) = bAndNot .u64 (lefts v ds) (shlV .u64 1 s) := by
 simp [lefts]
/-! Splice with jobs -/
theorem done_ok {n i e : Nat} {x : WL rw_iiiiiiLu} {s f1 f2 f3 f4 : Int} (hT : TreeOf x) (hx : x.l.length ≤ 500) (hn : 2000 < n) (hi : i < x.l.length) (he : KsOf x i 0 (i + 1) (atOf x i) e) (hel : e ≤ x.l.length) : ∃ b, qd0_ n x (i : Int) s f1 f2 f3 f4 = some b ∧ (b = true → 0 ≤ s ∧ s < 64) := by
 have hlt := @Ks.lt _ ⟨x⟩ _ _ _ _ _ he
 unfold qd0_ qhf_ qcz_
 rw [tEnd hT (by omega) (by omega) he hi hel]
 try dsimp only [Option.bind_some]
 rw [if_neg (by omega)]
 by_cases c1 : s ≥ 0
 ·rw [if_pos c1]
  by_cases c2 : s < 64
  ·rw [if_pos c2]
   try dsimp only [Option.bind_some]
   rw [if_pos rfl]
   by_cases c3 : f1 > f2
   ·rw [if_pos c3]; exact ⟨_, rfl, fun h => by cases h⟩
   rw [if_neg c3, if_pos (by omega)]
   try dsimp only [Option.bind_some]
   split
   ·exact ⟨_, rfl, fun h => by cases h⟩
   split
   ·exact ⟨_, rfl, fun h => by cases h⟩
   have g1 := qns_ (n := n) (a := 0) (b := i) (x := x) (by omega) (by omega) (by omega) (by omega)
   have g2 := qns_ (n := n) (a := e) (b := x.l.length) (x := x) (by omega) (by omega) (by omega) (by omega)
   have g1 : qbj_ n x 0 (i : Int) = _ := g1
   rw [g1]
   try dsimp only [Option.bind_some]
   rw [g2]
   try dsimp only [Option.bind_some]
   split
   ·exact ⟨_, rfl, fun _ => ⟨by omega, by omega⟩⟩
   ·exact ⟨_, rfl, fun h => by cases h⟩
  ·rw [if_neg c2]; exact ⟨_, rfl, fun h => by cases h⟩
 ·rw [if_neg c1]; exact ⟨_, rfl, fun h => by cases h⟩
theorem jobs_ok {n i e : Nat} {x : WL rw_iiiiiiLu} {w : WL rw_iiiii} {M : List P8} {v : Int} (hT : TreeOf x) (hx : x.l.length ≤ 500) (hn : 2000 < n) (hi : i < x.l.length) (he : KsOf x i 0 (i + 1) (atOf x i) e) (hel : e ≤ x.l.length) (hw : w.l.length ≤ 40) :
  ∃ ds : List Int, qff_ n x (i : Int) w (w.l.length : Int) (M, [], v, 0) = some (M, ds, lefts v ds) ∧ (∀ s ∈ ds, 0 ≤ s ∧ s < 64) ∧ ds.length ≤ 40 := by
 obtain ⟨q, ⟨ds, rfl, h1, h2⟩, q2⟩ := hoare (B := qb6_ n x (i : Int) w (w.l.length : Int)) (σ := List Int) (fun ds j => (M, ds, lefts v ds, j)) (fun j ds => (∀ s ∈ ds, 0 ≤ s ∧ s < 64) ∧ ds.length ≤ j) (fun q => ∃ ds : List Int, q = (M, ds, lefts v ds) ∧ (∀ s ∈ ds, 0 ≤ s ∧ s < 64) ∧ ds.length ≤ 40) w.l.length
  (fun j ds hj hI => by
   obtain ⟨b, hb, hb2⟩ := done_ok (n := n) (s := (w.l.getD j (0, 0, 0, 0, 0)).1) (f1 := (w.l.getD j (0, 0, 0, 0, 0)).2.1) (f2 := (w.l.getD j (0, 0, 0, 0, 0)).2.2.1) (f3 := (w.l.getD j (0, 0, 0, 0, 0)).2.2.2.1) (f4 := (w.l.getD j (0, 0, 0, 0, 0)).2.2.2.2) hT hx hn hi he hel
   have hw' := w64_inc (i := j) (by omega)
   cases b with
   | false =>
    refine .inl ⟨ds, ⟨hI.1, by omega⟩, ?_⟩
    unfold qb6_
    cases M <;> cases ds <;> (
     dsimp only
     rw [if_pos (by omega), if_pos (by omega), Int.toNat_natCast]
     try dsimp only [Option.bind_some]
     rw [hb]
     try dsimp only [Option.bind_some]
     rw [if_neg (by decide), hw'])
   | true =>
    obtain ⟨s1, s2⟩ := hb2 rfl
    refine .inl ⟨ds ++ [(w.l.getD j (0, 0, 0, 0, 0)).1], ⟨fun s hs => ?_, by rw [List.length_append]; simp; omega⟩, ?_⟩
    ·rcases List.mem_append.1 hs with h | h
     ·exact hI.1 s h
     ·rw [List.mem_singleton.1 h]; exact ⟨s1, s2⟩
    ·have hl := hI.2
     unfold qb6_
     rw [lefts_snoc]
     cases M <;> cases ds <;> (
      dsimp only
      rw [if_pos (by omega), if_pos (by omega), Int.toNat_natCast]
      try dsimp only [Option.bind_some]
      rw [hb]
      try dsimp only [Option.bind_some]
      rw [if_pos rfl]
      try rw [if_pos (by omega)]
      try rw [if_pos s1]
      rw [hw']
      try rfl))
  (fun ds hI => ⟨_, ⟨ds, rfl, hI.1, by have := hI.2; omega⟩, by unfold qb6_; cases M <;> cases ds <;> (dsimp only; rw [if_neg (by omega)])⟩)
  n 0 [] (Nat.zero_le _) ⟨fun s h => (by cases h), Nat.le_refl _⟩ (by omega)
 exact ⟨ds, q2, h1, h2⟩
/-- what is spliced, with jobs -/
theorem spliceJ {n i e : Nat} {x o : WL rw_iiiiiiLu} {w : WL rw_iiiii} (hT : TreeOf x) (hO : TreeOf o) (hx : x.l.length ≤ 500) (ho : o.l.length ≤ 500) (hn : 3000 < n) (hi : i < x.l.length) (he : KsOf x i 0 (i + 1) (atOf x i) e) (hel : e ≤ x.l.length) (hf : fitR (x.l.getD i d8) (o.l.getD 0 d8) = true) (hw : w.l.length ≤ 40) :
  ∃ (y : WL rw_iiiiiiLu) (M : List P8) (d : NL), qe4_ n x (i : Int) o w = some (y, d, 0) ∧ M.map vw = (x.l.take i).map (fun r => mvK (aft e (o.l.length - (e - i))) (vw r)) ++ o.l.map (fun r => mvK (ins i) (vw r)) ++ (x.l.drop e).map (fun r => mvK (aft e (o.l.length - (e - i))) (vw r)) ∧ (∀ s ∈ d.l, 0 ≤ s ∧ s < 64) ∧ d.l.length ≤ 40 ∧
   (i = 0 → y.l = M) ∧ (0 < i → ∃ p : Nat, p < i ∧ y.l = M.set p (orR (M.getD p d8) (lefts (orM ((x.l.drop i).take (e - i))) d.l))) := by
 have hpo : 0 < o.l.length := @Tree.pos _ ⟨o⟩ hO
 have hlt := @Ks.lt _ ⟨x⟩ _ _ _ _ _ he
 obtain ⟨M, hP, hM⟩ := put_ok hT hO hx ho (by omega : 2000 < n) hi he hel hf
 have hlen : M.length = i + o.l.length + (x.l.length - e) := by
  have := congrArg List.length hM
  simp at this
  omega
 have hg := qns_ (n := n) (a := i) (b := e) (x := x) (by omega) hel (by omega) (by omega)
 obtain ⟨ds, hj, hd, hd2⟩ := jobs_ok (n := n) (w := w) (M := M) (v := orM ((x.l.drop i).take (e - i))) hT hx (by omega) hi he hel hw
 unfold qe4_
 rw [chk hT (by omega)]
 try dsimp only [Option.bind_some]
 rw [if_pos rfl, chk hO (by omega)]
 try dsimp only [Option.bind_some]
 rw [if_pos rfl, sfits_ok hi hpo, hf]
 try dsimp only [Option.bind_some]
 rw [if_pos rfl, hP]
 cases M with
 | nil => simp at hlen; omega
 | cons a t =>
  dsimp only
  rw [tEnd hT (by omega) (by omega) he hi hel]
  try dsimp only [Option.bind_some]
  unfold qcz_
  try dsimp only [Option.bind_some]
  rw [hg]
  try dsimp only [Option.bind_some]
  rw [hj]
  try dsimp only [Option.bind_some]
  by_cases h0 : 0 < i
  ·obtain ⟨z, hz, hzl⟩ := par_ok hT (by omega : x.l.length ≤ 500) (by omega : 2000 < n)
   obtain ⟨p, hp, hpi⟩ := par_lt hT h0 hi
   have hpl : (@parL _ ⟨x⟩).length = x.l.length := @parL_len _ ⟨x⟩
   cases ds with
   | nil =>
    dsimp only
    rw [if_pos (by omega), hz]
    try dsimp only [Option.bind_some]
    rw [hzl, hpl, if_pos (by omega), Int.toNat_natCast, if_pos hi, hp]
    try dsimp only [Option.bind_some]
    rw [if_pos (by omega), Int.toNat_natCast]
    try dsimp only [Option.bind_some]
    rw [if_pos (by simp), dif_pos (by rw [List.length_set]; omega)]
    exact ⟨_, a :: t, nl0, rfl, hM, fun s h => (by cases h), Nat.zero_le _, fun h => by omega, fun _ => ⟨p, hpi, rfl⟩⟩
   | cons b u =>
    dsimp only
    rw [if_pos (by omega), hz]
    try dsimp only [Option.bind_some]
    rw [hzl, hpl, if_pos (by omega), Int.toNat_natCast, if_pos hi, hp]
    try dsimp only [Option.bind_some]
    rw [if_pos (by omega), Int.toNat_natCast]
    try dsimp only [Option.bind_some]
    rw [dif_pos (by omega), if_pos (by simp), dif_pos (by rw [List.length_set]; omega)]
    exact ⟨_, a :: t, frzL (b :: u) (by omega), rfl, hM, hd, hd2, fun h => by omega, fun _ => ⟨p, hpi, rfl⟩⟩
  ·cases ds with
   | nil =>
    dsimp only
    rw [if_neg (by omega), dif_pos (by omega)]
    exact ⟨_, a :: t, nl0, rfl, hM, fun s h => (by cases h), Nat.zero_le _, fun _ => rfl, fun h => absurd h h0⟩
   | cons b u =>
    dsimp only
    rw [if_neg (by omega), dif_pos (by omega), dif_pos (by omega)]
    exact ⟨_, a :: t, frzL (b :: u) (by omega), rfl, hM, hd, hd2, fun _ => rfl, fun h => absurd h h0⟩


/-! what is put back -/
theorem map_getD {α β : Type} {f : α → β} {l : List α} {d : α} {j : Nat} (h : j < l.length) : (l.map f).getD j (f d) = f (l.getD j d) := by
 simp [List.getD_eq_getElem?_getD, h]
theorem kin_map {f : Int → Int} {l : List Int} {n : Nat} (h : ∀ k ∈ l, ∃ c : Nat, k = c ∧ c < n) {g : Int → Int} (e : ∀ c : Nat, c < n → f c = g c) : l.map f = l.map g :=
 List.map_congr_left fun k hk => by obtain ⟨c, rfl, hc⟩ := h k hk; exact e c hc
theorem viewO {x o : WL rw_iiiiiiLu} {i e : Nat} (ho : o.l.map vw = ((x.l.drop i).take (e - i)).map fun r => met0 (mvK (ins (w64 (0 - (i : Int)))) (vw r))) (hie : i < e) (hel : e ≤ x.l.length) : o.l.length = e - i ∧ ∀ j, i ≤ j → j < e → vw (o.l.getD (j - i) d8) = met0 (mvK (ins (w64 (0 - (i : Int)))) (vw (x.l.getD j d8))) := by
 have hl : o.l.length = e - i := by
  have := congrArg List.length ho
  rw [List.length_map, List.length_map, List.length_take, List.length_drop] at this
  omega
 refine ⟨hl, fun j h1 h2 => ?_⟩
 have h : (o.l.map vw).getD (j - i) (vw d8) = (((x.l.drop i).take (e - i)).map fun r => met0 (mvK (ins (w64 (0 - (i : Int)))) (vw r))).getD (j - i) (vw d8) := by rw [ho]
 rw [map_getD (by omega)] at h
 rw [h]
 simp only [List.getD_eq_getElem?_getD, List.getElem?_map, List.getElem?_take, List.getElem?_drop]
 rw [if_pos (by omega), show i + (j - i) = j by omega, List.getElem?_eq_getElem (by omega : j < x.l.length)]
 rfl
theorem shfO {x o : WL rw_iiiiiiLu} {i e : Nat} (hT : TreeOf x) (ho : o.l.map vw = ((x.l.drop i).take (e - i)).map fun r => met0 (mvK (ins (w64 (0 - (i : Int)))) (vw r))) (hie : i < e) (hel : e ≤ x.l.length) : Shf x o i e := by
 have hmax : x.l.length ≤ 524288 := @Tree.max _ ⟨x⟩ hT
 obtain ⟨h1, h2⟩ := viewO ho hie hel
 refine ⟨h1, fun j a b => ?_⟩
 have h := h2 j a b
 have hj : j < x.l.length := by omega
 simp only [vw, mvK, met0, Prod.mk.injEq] at h
 obtain ⟨e1, e2, e3, e4, e5, e6, e7, -⟩ := h
 refine ⟨e1, e2, e3, e4, e5, e6, ?_⟩
 rw [e7]
 refine kin_map (n := x.l.length) (Tree.kin hT _ (qhh_ hj)) fun c hc => ?_
 unfold ins
 rw [qlq_ (x := 0 - (i : Int)) (by omega) (by omega), qlq_ (by omega) (by omega)]
 omega
theorem backM {x o : WL rw_iiiiiiLu} {i e : Nat} {M : List P8} (hT : TreeOf x) (ho : o.l.map vw = ((x.l.drop i).take (e - i)).map fun r => met0 (mvK (ins (w64 (0 - (i : Int)))) (vw r))) (hie : i < e) (hel : e ≤ x.l.length)
  (hM : M.map vw = (x.l.take i).map (fun r => mvK (aft e (o.l.length - (e - i))) (vw r)) ++ o.l.map (fun r => mvK (ins i) (vw r)) ++ (x.l.drop e).map (fun r => mvK (aft e (o.l.length - (e - i))) (vw r))) :
  M.length = x.l.length ∧ ∀ j, j < x.l.length → vw (M.getD j d8) = if i ≤ j ∧ j < e then met0 (vw (x.l.getD j d8)) else vw (x.l.getD j d8) := by
 have hmax : x.l.length ≤ 524288 := @Tree.max _ ⟨x⟩ hT
 obtain ⟨hl, hv⟩ := viewO ho hie hel
 have haft : ∀ r ∈ x.l, mvK (aft e ((o.l.length : Int) - ((e : Int) - (i : Int)))) (vw r) = vw r := fun r hr => mv_id fun k hk => by
  obtain ⟨c, rfl, hc⟩ := Tree.kin hT r hr k hk
  unfold aft
  split
  ·rw [qlq_ (by omega) (by omega)]; omega
  ·rfl
 have hlM : M.length = x.l.length := by
  have := congrArg List.length hM
  simp only [List.length_map, List.length_append, List.length_take, List.length_drop] at this
  omega
 refine ⟨hlM, fun j hj => ?_⟩
 have h := congrArg (fun L => L[j]?) hM
 simp only [List.getElem?_append, List.getElem?_map, List.length_map, List.length_append, List.length_take, List.length_drop, List.getElem?_take, List.getElem?_drop] at h
 rw [List.getElem?_eq_getElem (by omega : j < M.length)] at h
 have hm : M.getD j d8 = M[j] := by simp [List.getD_eq_getElem?_getD, hlM, hj]
 have hx : x.l.getD j d8 = x.l[j] := by simp [List.getD_eq_getElem?_getD, hj]
 rw [hm]
 by_cases c1 : j < i
 ·rw [if_pos (show j < min i x.l.length + o.l.length by omega), if_pos (show j < min i x.l.length by omega), if_pos c1, List.getElem?_eq_getElem hj] at h
  rw [if_neg (by omega), hx]
  have h := Option.some.inj h
  rw [h]
  exact haft _ (List.getElem_mem hj)
 ·by_cases c2 : j < e
  ·rw [if_pos (show j < min i x.l.length + o.l.length by omega), if_neg (show ¬ j < min i x.l.length by omega), show j - min i x.l.length = j - i by omega, List.getElem?_eq_getElem (by omega : j - i < o.l.length)] at h
   have h := Option.some.inj h
   rw [if_pos (by omega), h]
   have := hv j (by omega) c2
   rw [show o.l.getD (j - i) d8 = o.l[j - i] by simp [List.getD_eq_getElem?_getD, hl, show j - i < e - i by omega]] at this
   show mvK (ins (i : Int)) (vw o.l[j - i]) = _
   rw [this]
   have hk := Tree.kin hT _ (qhh_ (d := d8) hj)
   generalize x.l.getD j d8 = r at hk ⊢
   obtain ⟨r1, r2, r3, r4, r5, r6, r7, r8⟩ := r
   show (r1, r2, r3, r4, r5, r6, (r7.l.map (ins (w64 (0 - (i : Int))))).map (ins i), (0 : Int)) = (r1, r2, r3, r4, r5, r6, r7.l, 0)
   rw [List.map_map, kin_map (g := id) hk (fun c hc => by
    show ins i (ins (w64 (0 - (i : Int))) c) = (c : Int)
    unfold ins
    rw [qlq_ (x := 0 - (i : Int)) (by omega) (by omega), qlq_ (x := (c : Int) + _) (by omega) (by omega), qlq_ (by omega) (by omega)]
    omega), List.map_id]
  ·rw [if_neg (show ¬ j < min i x.l.length + o.l.length by omega), show e + (j - (min i x.l.length + o.l.length)) = j by omega, List.getElem?_eq_getElem hj] at h
   rw [if_neg (by omega), hx]
   have h := Option.some.inj h
   rw [h]
   exact haft _ (List.getElem_mem hj)
theorem spBits {n : Nat} {y : WL rw_iiiiiiLu} (hT : TreeOf y) (hy : y.l.length ≤ 1000000) (hn : y.l.length < n) : qdd_ n y = some (orM y.l) := by
 have hg := qns_ (n := n) (a := 0) (b := y.l.length) (x := y) (by omega) (by omega) hy hn
 have hg : qbj_ n y 0 (y.l.length : Int) = some (orM y.l) := by
  rw [show (0 : Int) = ((0 : Nat) : Int) from rfl, hg, List.drop_zero, Nat.sub_zero, List.take_length]
 unfold qdd_ qcz_
 rw [chk hT hn]
 try dsimp only [Option.bind_some]
 rw [if_pos rfl, hg]
 rfl
theorem lawLoop {n : Nat} {x y : WL rw_iiiiiiLu} {i v : Int} {d : NL} (hd : ∀ s ∈ d.l, 0 ≤ s ∧ s < 64) (hl : d.l.length ≤ 40) (hn : 100 < n) : qdl_ n x i y d (v, 0) = some (lefts v d.l) := by
 obtain ⟨q, rfl, q2⟩ := hoare (B := qr_ n x i y d) (σ := Int) (fun b j => (b, j)) (fun j b => b = lefts v (d.l.take j)) (fun q => q = lefts v d.l) d.l.length
  (fun j b hj hb => by
   subst hb
   refine .inl ⟨lefts v (d.l.take (j + 1)), rfl, ?_⟩
   have hs := hd _ (qhh_ (d := (0 : Int)) hj)
   have hw : IntKind.u64.wrap (d.l.getD j 0) = d.l.getD j 0 := IntWalk.u64_in _ (by omega)
   rw [takeS hj, lefts_snoc]
   unfold qr_
   dsimp only
   rw [if_pos (by omega), if_pos (by omega), if_pos (by omega), Int.toNat_natCast]
   try dsimp only [Option.bind_some]
   rw [hw, if_pos (by omega), w64_inc (by omega)])
  (fun b hb => ⟨b, by rw [hb, List.take_length], by unfold qr_; dsimp only; rw [if_neg (by omega)]⟩)
  n 0 v (Nat.zero_le _) rfl (by omega)
 exact q2
/-! the law -/
theorem t9_ok {n i e : Nat} {x y : WL rw_iiiiiiLu} {M : List P8} {d : NL} (hT : TreeOf x) (hY : TreeOf y) (hx : x.l.length ≤ 100) (hn : 3000 < n) (hi : i < x.l.length) (he : KsOf x i 0 (i + 1) (atOf x i) e) (hel : e ≤ x.l.length)
  (hM : M.length = x.l.length ∧ ∀ j, j < x.l.length → vw (M.getD j d8) = if i ≤ j ∧ j < e then met0 (vw (x.l.getD j d8)) else vw (x.l.getD j d8)) (hd : ∀ s ∈ d.l, 0 ≤ s ∧ s < 64) (hdl : d.l.length ≤ 40)
  (h0 : i = 0 → y.l = M) (hp : 0 < i → ∃ p : Nat, p < i ∧ y.l = M.set p (orR (M.getD p d8) (lefts (orM ((x.l.drop i).take (e - i))) d.l))) : qo_ n x (i : Int) y d () = some () := by
 obtain ⟨hMl, hM⟩ := hM
 have hie : i + 1 ≤ e := @Ks.lt _ ⟨x⟩ _ _ _ _ _ he
 have hmt : ∀ j, j < x.l.length → mt (M.getD j d8) = if i ≤ j ∧ j < e then 0 else mt (x.l.getD j d8) := fun j hj => by
  have h := hM j hj
  by_cases c : i ≤ j ∧ j < e
  ·rw [if_pos c] at h ⊢
   exact congrArg (fun v : V8 => v.2.2.2.2.2.2.2) h
  ·rw [if_neg c] at h ⊢
   exact congrArg (fun v : V8 => v.2.2.2.2.2.2.2) h
 have hyl : y.l.length = x.l.length := by
  rcases Nat.eq_zero_or_pos i with c | c
  ·rw [h0 c, hMl]
  ·obtain ⟨p, -, h⟩ := hp c
   rw [h, List.length_set, hMl]
 unfold qo_ qcd_
 rw [spBits hT (by omega) (by omega)]
 try dsimp only [Option.bind_some]
 rw [lawLoop hd hdl (by omega)]
 try dsimp only [Option.bind_some]
 have key : qbk_ n x (i : Int) y (lefts (orM x.l) d.l) () = some () := by
  unfold qbk_
  by_cases c : i = 0
  ·subst c
   have hel : e = x.l.length := @Ks.uniq _ ⟨x⟩ 0 e x.l.length he (Tree.whole hT) hi
   rw [if_pos (by omega), spBits hY (by omega) (by omega)]
   try dsimp only [Option.bind_some]
   rw [if_pos]
   refine un_zero (un_orM _) fun k hk => ?_
   rw [Bool.eq_false_iff]
   intro hb
   obtain ⟨r, hr, hb⟩ := bt_orM.1 hb
   rw [h0 rfl] at hr
   obtain ⟨j, hj, rfl⟩ := qim_ d8 hr
   rw [hmt j (by omega), if_pos (by omega), bt_z] at hb
   cases hb
  ·obtain ⟨p, hpi, hy⟩ := hp (by omega)
   have hyj : ∀ j, j < x.l.length → mt (y.l.getD j d8) = if j = p then bOr .u64 (mt (x.l.getD p d8)) (lefts (orM ((x.l.drop i).take (e - i))) d.l) else if i ≤ j ∧ j < e then 0 else mt (x.l.getD j d8) := fun j hj => by
    rw [hy, qlk_ (by omega)]
    by_cases e1 : j = p
    ·rw [if_pos e1, if_pos e1]
     show bOr .u64 (mt (M.getD p d8)) _ = _
     rw [hmt p (by omega), if_neg (by omega)]
    ·rw [if_neg e1, if_neg e1]
     exact hmt j hj
   have hin : ∀ k, bt (orM ((x.l.drop i).take (e - i))) k = true ↔ ∃ j, i ≤ j ∧ j < e ∧ bt (mt (x.l.getD j d8)) k = true := fun k => by
    rw [bt_orM]
    constructor
    ·rintro ⟨r, hr, hb⟩
     obtain ⟨q, hq, rfl⟩ := qim_ d8 hr
     rw [List.length_take, List.length_drop] at hq
     refine ⟨i + q, by omega, by omega, ?_⟩
     rw [getD_take (by omega), getD_drop] at hb
     exact hb
    ·rintro ⟨j, h1, h2, hb⟩
     refine ⟨((x.l.drop i).take (e - i)).getD (j - i) d8, qhh_ (by rw [List.length_take, List.length_drop]; omega), ?_⟩
     rw [getD_take (by omega), getD_drop, show i + (j - i) = j by omega]
     exact hb
   rw [if_neg (by omega)]
   unfold qca_
   rw [spBits hY (by omega) (by omega), spBits hT (by omega) (by omega)]
   try dsimp only [Option.bind_some]
   rw [if_pos, if_pos]
   ·rfl
   ·refine un_zero un_ann fun k hk => ?_
    rw [bt_ann, Bool.and_eq_false_iff]
    by_cases hb : bt (orM y.l) k = true
    ·right
     obtain ⟨r, hr, hb⟩ := bt_orM.1 hb
     obtain ⟨j, hj, rfl⟩ := qim_ d8 hr
     rw [hyj j (by omega)] at hb
     have : bt (orM x.l) k = true := by
      rw [bt_orM]
      by_cases e1 : j = p
      ·rw [if_pos e1, bt_or, Bool.or_eq_true, qo5_, Bool.and_eq_true] at hb
       rcases hb with hb | ⟨hb, -⟩
       ·exact ⟨_, qhh_ (by omega), hb⟩
       ·obtain ⟨q, -, h2, hb⟩ := (hin k).1 hb
        exact ⟨_, qhh_ (by omega), hb⟩
      ·rw [if_neg e1] at hb
       by_cases e2 : i ≤ j ∧ j < e
       ·rw [if_pos e2, bt_z] at hb; cases hb
       ·rw [if_neg e2] at hb
        exact ⟨_, qhh_ (by omega), hb⟩
     rw [this]; rfl
    ·left
     exact Bool.eq_false_iff.2 hb
   ·refine un_all un_or fun k hk => ?_
    rw [bt_or, bt_not hk, Bool.or_eq_true]
    by_cases hb : bt (lefts (orM x.l) d.l) k = true
    ·left
     rw [qo5_, Bool.and_eq_true] at hb
     obtain ⟨hb, hD⟩ := hb
     obtain ⟨r, hr, hb⟩ := bt_orM.1 hb
     obtain ⟨j, hj, rfl⟩ := qim_ d8 hr
     rw [bt_orM]
     by_cases e2 : i ≤ j ∧ j < e
     ·refine ⟨y.l.getD p d8, qhh_ (by omega), ?_⟩
      rw [hyj p (by omega), if_pos rfl, bt_or, qo5_, hD, (hin k).2 ⟨j, e2.1, e2.2, hb⟩]
      simp
     ·refine ⟨y.l.getD j d8, qhh_ (by omega), ?_⟩
      rw [hyj j hj]
      by_cases e1 : j = p
      ·subst e1
       rw [if_pos rfl, bt_or, hb]
       rfl
      ·rw [if_neg e1, if_neg e2]; exact hb
    ·right
     rw [Bool.eq_false_iff.2 hb]; rfl
 rw [key]
 rfl
theorem t6_ok {n i : Nat} {x o z : WL rw_iiiiiiLu} {w : WL rw_iiiii} (hT : TreeOf x) (hx : x.l.length ≤ 100) (hw : w.l.length ≤ 40) (hn : 3000 < n) (hi : i < x.l.length) : qbq_ n x (i : Int) w () = some () := by
 obtain ⟨e, he, hie, hel⟩ := @Tree.end _ ⟨x⟩ hT i hi
 have hel : e ≤ x.l.length := hel
 obtain ⟨z, hz, hzv⟩ := sub_ok (n := n) hT hi he hel (by omega)
 have hzl : z.l.length = e - i := by
  have := congrArg List.length hzv
  rw [List.length_map, List.length_map, List.length_take, List.length_drop] at this
  omega
 have hmax : x.l.length ≤ 524288 := @Tree.max _ ⟨x⟩ hT
 have hZ : TreeOf z := Shf.tree (i := i) (E := e) ⟨hzl, fun j a b => by
  have h : (z.l.map vw).getD (j - i) (vw d8) = (((x.l.drop i).take (e - i)).map fun r => mvK (ins (w64 (0 - (i : Int)))) (vw r)).getD (j - i) (vw d8) := by rw [hzv]
  rw [map_getD (by omega)] at h
  have hj : j < x.l.length := by omega
  have h2 : (((x.l.drop i).take (e - i)).map fun r => mvK (ins (w64 (0 - (i : Int)))) (vw r)).getD (j - i) (vw d8) = mvK (ins (w64 (0 - (i : Int)))) (vw (x.l.getD j d8)) := by
   simp only [List.getD_eq_getElem?_getD, List.getElem?_map, List.getElem?_take, List.getElem?_drop]
   rw [if_pos (by omega), show i + (j - i) = j by omega, List.getElem?_eq_getElem hj]
   rfl
  rw [h2] at h
  simp only [vw, mvK, Prod.mk.injEq] at h
  obtain ⟨e1, e2, e3, e4, e5, e6, e7, -⟩ := h
  refine ⟨e1, e2, e3, e4, e5, e6, ?_⟩
  rw [e7]
  refine kin_map (n := x.l.length) (Tree.kin hT _ (qhh_ hj)) fun c hc => ?_
  unfold ins
  rw [qlq_ (x := 0 - (i : Int)) (by omega) (by omega), qlq_ (by omega) (by omega)]
  omega⟩ hT (by omega) hel he
 obtain ⟨o, ho, hov⟩ := rbare_ok (n := n) hZ (by omega)
 have hov : o.l.map vw = ((x.l.drop i).take (e - i)).map fun r => met0 (mvK (ins (w64 (0 - (i : Int)))) (vw r)) := by
  rw [hov, show (fun r => met0 (vw r)) = met0 ∘ vw from rfl, ← List.map_map, hzv, List.map_map]
  rfl
 have hO : TreeOf o := (shfO hT hov hie hel).tree hT hie hel he
 obtain ⟨hol, hoj⟩ := viewO hov hie hel
 have hf : fitR (x.l.getD i d8) (o.l.getD 0 d8) = true := by
  have h := hoj i (Nat.le_refl i) hie
  rw [Nat.sub_self] at h
  simp only [vw, mvK, met0, Prod.mk.injEq] at h
  obtain ⟨e1, e2, e3, e4, e5, e6, e7, -⟩ := h
  unfold fitR
  rw [e1, e2, e3, e5]
  simp
 obtain ⟨y, M, d, h1, h2, h3, h4, h5, h6⟩ := spliceJ (n := n) (w := w) hT hO (by omega) (by omega) hn hi he hel hf hw
 have hM := backM hT hov hie hel h2
 have hyM : y.l.length = x.l.length ∧ ∀ j, j < x.l.length → met0 (vw (y.l.getD j d8)) = met0 (vw (x.l.getD j d8)) := by
  have hMj : ∀ j, j < x.l.length → met0 (vw (M.getD j d8)) = met0 (vw (x.l.getD j d8)) := fun j hj => by
   rw [hM.2 j hj]; split <;> rfl
  rcases Nat.eq_zero_or_pos i with c | c
  ·rw [h5 c]; exact ⟨hM.1, hMj⟩
  ·obtain ⟨p, hp, hy⟩ := h6 c
   rw [hy]
   refine ⟨by rw [List.length_set]; exact hM.1, fun j hj => ?_⟩
   rw [qlk_ (by omega)]
   by_cases e1 : j = p
   ·subst e1
    rw [if_pos rfl]
    exact hMj j hj
   ·rw [if_neg e1]; exact hMj j hj
 have hY : TreeOf y := hT.alike hyM.1 fun j hj => by
  have h := hyM.2 j hj
  simp only [vw, met0, Prod.mk.injEq] at h
  obtain ⟨e1, e2, e3, e4, e5, e6, e7, -⟩ := h
  refine ⟨e1, e2, e3, e4, e5, e6, ?_⟩
  rw [e7]; simp
 obtain ⟨by1, hb1, hv1⟩ := rbare_ok (n := n) hY (by omega)
 obtain ⟨by2, hb2, hv2⟩ := rbare_ok (n := n) hT (by omega)
 have hbl : by1.l.length = x.l.length := by
  have := congrArg List.length hv1
  rw [List.length_map, List.length_map] at this
  omega
 have hsv : by1.l.map vw = by2.l.map vw := by
  rw [hv1, hv2]
  apply List.ext_getElem (by simp [hyM.1])
  intro j g1 g2
  have hj : j < x.l.length := by simpa using g2
  have := hyM.2 j hj
  simpa [List.getD_eq_getElem?_getD, hj, hyM.1] using this
 have hfew : FewK n by1.l := fun r hr => by
  obtain ⟨j, hj, rfl⟩ := qim_ d8 hr
  have hj2 : j < y.l.length := by omega
  have h : (by1.l.map vw).getD j (vw d8) = (y.l.map fun r => met0 (vw r)).getD j (vw d8) := by rw [hv1]
  rw [map_getD hj] at h
  have h2 : (y.l.map fun r => met0 (vw r)).getD j (vw d8) = met0 (vw (y.l.getD j d8)) := by simp [List.getD_eq_getElem?_getD, hj2]
  rw [h2] at h
  simp only [vw, met0, Prod.mk.injEq] at h
  obtain ⟨-, -, -, -, -, -, e7, -⟩ := h
  rw [e7]
  exact @few_of _ ⟨y⟩ hY n (by show y.l.length < n; omega) _ (qhh_ hj2)
 have hS := same_ok (n := n) hsv (by omega) hfew (by omega)
 have key : qbp_ n x (i : Int) y d 0 () = some () := by
  unfold qbp_
  rw [if_pos rfl, refTrue hY (by omega)]
  try dsimp only [Option.bind_some]
  rw [if_pos rfl, hb1, hb2]
  try dsimp only [Option.bind_some]
  rw [hS]
  try dsimp only [Option.bind_some]
  rw [if_pos rfl, t9_ok hT hY hx hn hi he hel hM h3 h4 h5 h6]
  rfl
 unfold qbq_ qco_
 rw [hz]
 try dsimp only [Option.bind_some]
 rw [ho]
 try dsimp only [Option.bind_some]
 rw [h1]
 try dsimp only [Option.bind_some]
 rw [key]
 rfl
theorem lightP0 {n : Nat} (hn : 5 < n) : qc2_ n 100 = some true := by
 obtain ⟨m, rfl⟩ : ∃ m, n = m + 1 := ⟨n - 1, by omega⟩
 rfl
theorem lightJ {n : Nat} {x : WL rw_iiiiiiLu} {w : WL rw_iiiii} (hn : 200 < n) : ∃ b, qc1_ n x w = some b ∧ (b = true → x.l.length ≤ 100 ∧ w.l.length ≤ 40) := by
 obtain ⟨b1, h1, g1⟩ := lightP (mo := 100) (x := x) (by omega) (by omega : 100 + 5 < n)
 have h1 : qbi_ n x 100 = some b1 := h1
 unfold qc1_
 rw [h1, lightP0 (by omega)]
 cases b1 with
 | false => exact ⟨false, rfl, fun h => by cases h⟩
 | true =>
  try dsimp only [Option.bind_some]
  rw [if_pos rfl, if_pos rfl]
  by_cases c : ((w.l.length : Nat) : Int) ≤ 40
  ·rw [if_pos c]; exact ⟨true, rfl, fun _ => ⟨(g1 rfl).1, by omega⟩⟩
  ·rw [if_neg c]; exact ⟨false, rfl, fun h => by cases h⟩
theorem qok_ (g1 : Int) : ∃ n, qed_ n g1 = some () := by
 obtain ⟨K1, hK1⟩ := @bound_kd _ ⟨wA⟩
 let n := K1 + 5000
 refine ⟨n, ?_⟩
 have hn : 3000 < n := by show 3000 < K1 + 5000; omega
 have no : (match qj_ n wA g1 wB true () with
  | none => none
  | some (.inl _) => some ()
  | some (.inr _) => (qq_ n wA g1 wB ()).bind fun _ => some ()) = some () := rfl
 have key : q9_ n wA g1 wB () = some () := by
  unfold q9_
  obtain ⟨b, hb, hl⟩ := lightJ (n := n) (x := wA) (w := wB) (by omega)
  rw [hb]
  try dsimp only [Option.bind_some]
  cases b with
  | false => exact no
  | true =>
   obtain ⟨hx, hw⟩ := hl rfl
   rw [if_pos rfl]
   obtain ⟨c, hc, hcT⟩ := refC (x := wA) (by omega) hK1 (n := n) (by show wA.l.length + K1 + 20 < K1 + 5000; omega)
   rw [hc]
   try dsimp only [Option.bind_some]
   by_cases c0 : c = 0
   ·subst c0
    rw [if_pos rfl]
    show (qq_ n wA g1 wB ()).bind _ = _
    have hT := hcT rfl
    have hpx : 0 < (wA).l.length := @Tree.pos _ ⟨wA⟩ hT
    obtain ⟨i, hi, hil⟩ := pickW (n := n) (k := (wA).l.length) (x := g1) (by omega) (by omega)
    unfold qq_
    rw [hi]
    try dsimp only [Option.bind_some]
    rw [t6_ok (o := wA) (z := wA) hT hx hw hn hil]
    rfl
   ·rw [if_neg c0]; exact no
 show (q9_ n wA g1 wB ()).bind _ = _
 rw [key]
 rfl

end Go.Proofs.Ytofkckljnmphdaa.spb20
