/-
  The pure side. No condition.
-/
import Derived.Test.YtdoidamfhkbgdaaTptPure
import Derived.IntWalk
set_option linter.unusedSimpArgs false
set_option linter.unusedVariables false
set_option linter.unusedSectionVars false
set_option linter.unnecessarySimpa false
noncomputable section
namespace Go.Proofs.Ytdoidamfhkbgdaa.tpt16
open Go Go.Proofs.Ytdoidamfhkbgdaa Ax
variable [Args]


/-! the program's Put -/
def aft (e b v : Int) : Int := if v ≥ e then w64 (v + b) else v
theorem put1 {n : Nat} {v e b : Int} : m_treePut1q2 n v [e] [b] = some (aft e b v) := by
 unfold m_treePut1q2 aft
 rw [if_pos (by simp), if_pos (by simp)]
 show (if v ≥ e then some (w64 (v + b)) else some v) = _
 split <;> rfl
theorem put2 {n : Nat} {v i : Int} : m_treePut2q2 n v [i] = some (ins i v) := by
 unfold m_treePut2q2
 rw [if_pos (by simp)]
 rfl
theorem each1 {n : Nat} {x : NL} {e b : Int} (hx : x.l.length ≤ 1000000) (hn : x.l.length < n) : ∃ k, m_treeeachintintq2 n x e b = some k ∧ k.l = x.l.map (aft e b) := by
 unfold m_treeeachintintq2
 by_cases h0 : x.l.length = 0
 ·rw [if_pos (by omega)]
  exact ⟨_, rfl, by rw [List.length_eq_zero_iff.1 h0]; rfl⟩
 ·rw [if_neg (by omega), if_pos (by omega), if_pos (by omega), Int.toNat_natCast]
  have h := fillLoop (B := B_treeeachintintq2_1 n [e] [b] x.l.length x (x.l.length : Int)) 0 (fun i => aft e b (x.l.getD i 0)) x.l.length
   (fun i L hi hL => by
    unfold B_treeeachintintq2_1
    dsimp only
    rw [if_pos (by omega), if_pos (by omega), Int.toNat_natCast, if_pos hi]
    dsimp only [Option.bind_some]
    rw [put1]
    dsimp only [Option.bind_some]
    rw [if_pos (by omega), if_pos (by omega), w64_inc (by omega)])
   (fun L => by
    unfold B_treeeachintintq2_1
    dsimp only
    rw [if_neg (by omega)]) n (List.replicate x.l.length 0) (by simp) hn
  unfold m_treeeachintintq2_1
  rw [h, range_map]
  dsimp only [Option.bind_some]
  rw [if_pos (by simp), dif_pos (by rw [List.length_map]; omega)]
  exact ⟨_, rfl, rfl⟩
theorem each2 {n : Nat} {x : NL} {i : Int} (hx : x.l.length ≤ 1000000) (hn : x.l.length < n) : ∃ k, m_treeeachintintq3 n x i = some k ∧ k.l = x.l.map (ins i) := by
 unfold m_treeeachintintq3
 by_cases h0 : x.l.length = 0
 ·rw [if_pos (by omega)]
  exact ⟨_, rfl, by rw [List.length_eq_zero_iff.1 h0]; rfl⟩
 ·rw [if_neg (by omega), if_pos (by omega), if_pos (by omega), Int.toNat_natCast]
  have h := fillLoop (B := B_treeeachintintq3_1 n [i] x.l.length x (x.l.length : Int)) 0 (fun j => ins i (x.l.getD j 0)) x.l.length
   (fun j L hi hL => by
    unfold B_treeeachintintq3_1
    dsimp only
    rw [if_pos (by omega), if_pos (by omega), Int.toNat_natCast, if_pos hi]
    dsimp only [Option.bind_some]
    rw [put2]
    dsimp only [Option.bind_some]
    rw [if_pos (by omega), if_pos (by omega), w64_inc (by omega)])
   (fun L => by
    unfold B_treeeachintintq3_1
    dsimp only
    rw [if_neg (by omega)]) n (List.replicate x.l.length 0) (by simp) hn
  unfold m_treeeachintintq3_1
  rw [h, range_map]
  dsimp only [Option.bind_some]
  rw [if_pos (by simp), dif_pos (by rw [List.length_map]; omega)]
  exact ⟨_, rfl, rfl⟩
theorem putL1 {n : Nat} {a b y : WL rw_iiiiiiLu} {e d i : Int} (hk : FewK n y.l) (hy : y.l.length ≤ 1000000) (hn : y.l.length < n) : ∃ M, m_treePutq1_1 n a b e d i y (y.l.length : Int) ([], 0) = some M ∧ M.map vw = y.l.map fun r => mvK (aft e d) (vw r) := by
 obtain ⟨M, h, hM⟩ := appLoop (B := B_treePutq1_1 n a b e d i y (y.l.length : Int)) vw (fun j => mvK (aft e d) (vw (y.l.getD j d8))) y.l.length 0
  (fun j acc hj hacc => by
   obtain ⟨hf1, hf2⟩ := fewD hk hj
   obtain ⟨k, g1, g2⟩ := each1 (e := e) (b := d) hf1 hf2
   refine ⟨rk (y.l.getD j d8) k, vw_rk g2, ?_⟩
   ·unfold B_treePutq1_1
    dsimp only
    rw [if_pos (by omega), if_pos (by omega), Int.toNat_natCast]
    dsimp only [Option.bind_some]
    unfold m_treemovedq2
    rw [show m_treeeachintintq2 n (y.l.getD j (0, 0, 0, 0, 0, 0, nl0, 0)).2.2.2.2.2.2.1 e d = some k from g1]
    dsimp only [Option.bind_some]
    rw [if_pos (by omega), w64_inc (by omega)]
    rfl)
  (fun acc => by
   unfold B_treePutq1_1
   dsimp only
   rw [if_neg (by omega)]) n [] (Nat.zero_le _) hn
 rw [List.nil_append] at h
 exact ⟨M, h, by rw [hM]; exact range_map (f := fun r => mvK (aft e d) (vw r))⟩
theorem putL2 {n : Nat} {a y : WL rw_iiiiiiLu} {e d i : Int} {acc : List P8} (hk : FewK n y.l) (hy : y.l.length ≤ 1000000) (hn : y.l.length < n) (ha : acc.length ≤ 1000000) : ∃ M, m_treePutq1_2 n a e d i y (y.l.length : Int) (acc, 0) = some (acc ++ M) ∧ M.map vw = y.l.map fun r => mvK (ins i) (vw r) := by
 obtain ⟨M, h, hM⟩ := appLoop (B := B_treePutq1_2 n a e d i y (y.l.length : Int)) vw (fun j => mvK (ins i) (vw (y.l.getD j d8))) y.l.length 1000000
  (fun j acc hj hacc => by
   obtain ⟨hf1, hf2⟩ := fewD hk hj
   obtain ⟨k, g1, g2⟩ := each2 (i := i) hf1 hf2
   refine ⟨rk (y.l.getD j d8) k, vw_rk g2, ?_⟩
   ·unfold B_treePutq1_2
    dsimp only
    rw [if_pos (by omega), if_pos (by omega), Int.toNat_natCast]
    dsimp only [Option.bind_some]
    unfold m_treemovedq3
    rw [show m_treeeachintintq3 n (y.l.getD j (0, 0, 0, 0, 0, 0, nl0, 0)).2.2.2.2.2.2.1 i = some k from g1]
    dsimp only [Option.bind_some]
    rw [if_pos (by omega), w64_inc (by omega)]
    rfl)
  (fun acc => by
   unfold B_treePutq1_2
   dsimp only
   rw [if_neg (by omega)]) n acc ha hn
 exact ⟨M, h, by rw [hM]; exact range_map (f := fun r => mvK (ins i) (vw r))⟩
theorem putL3 {n : Nat} {y : WL rw_iiiiiiLu} {e d : Int} {acc : List P8} (hk : FewK n y.l) (hy : y.l.length ≤ 1000000) (hn : y.l.length < n) (ha : acc.length ≤ 2000000) : ∃ M, m_treePutq1_3 n e d y (y.l.length : Int) (acc, 0) = some (acc ++ M) ∧ M.map vw = y.l.map fun r => mvK (aft e d) (vw r) := by
 obtain ⟨M, h, hM⟩ := appLoop (B := B_treePutq1_3 n e d y (y.l.length : Int)) vw (fun j => mvK (aft e d) (vw (y.l.getD j d8))) y.l.length 2000000
  (fun j acc hj hacc => by
   obtain ⟨hf1, hf2⟩ := fewD hk hj
   obtain ⟨k, g1, g2⟩ := each1 (e := e) (b := d) hf1 hf2
   refine ⟨rk (y.l.getD j d8) k, vw_rk g2, ?_⟩
   ·unfold B_treePutq1_3
    dsimp only
    rw [if_pos (by omega), if_pos (by omega), Int.toNat_natCast]
    dsimp only [Option.bind_some]
    unfold m_treemovedq2
    rw [show m_treeeachintintq2 n (y.l.getD j (0, 0, 0, 0, 0, 0, nl0, 0)).2.2.2.2.2.2.1 e d = some k from g1]
    dsimp only [Option.bind_some]
    rw [if_pos (by omega), w64_inc (by omega)]
    rfl)
  (fun acc => by
   unfold B_treePutq1_3
   dsimp only
   rw [if_neg (by omega)]) n acc ha hn
 exact ⟨M, h, by rw [hM]; exact range_map (f := fun r => mvK (aft e d) (vw r))⟩
/-- what a part at e in the place of i fits by -/
def fitR (p q : P8) : Bool := p.1 == q.1 && p.2.1 == q.2.1 && p.2.2.1 == q.2.2.1 && p.2.2.2.2.1 == q.2.2.2.2.1
theorem fits_ok {n : Nat} {p q : P8} : m_partsFitsq1 n p.1 p.2.1 p.2.2.1 p.2.2.2.1 p.2.2.2.2.1 p.2.2.2.2.2.1 p.2.2.2.2.2.2.1 p.2.2.2.2.2.2.2 q.1 q.2.1 q.2.2.1 q.2.2.2.1 q.2.2.2.2.1 q.2.2.2.2.2.1 q.2.2.2.2.2.2.1 q.2.2.2.2.2.2.2 = some (fitR p q) := by
 unfold m_partsFitsq1 fitR
 by_cases h1 : p.1 = q.1 <;> by_cases h2 : p.2.1 = q.2.1 <;> by_cases h3 : p.2.2.1 = q.2.2.1 <;> by_cases h4 : p.2.2.2.2.1 = q.2.2.2.2.1 <;> simp [h1, h2, h3, h4]
theorem pEnd {n i e : Nat} {x : WL rw_iiiiiiLu} (hn : x.l.length < n) (hL : x.l.length ≤ 1000000) (h : KsOf x i 0 (i + 1) (atOf x i) e) (hi : i < x.l.length) (he : e ≤ x.l.length) : m_partsEndq1 n x (i : Int) = some (e : Int) := @prgEnd _ ⟨x⟩ n hn hL i e h hi he
theorem put_ok {n i e : Nat} {x o : WL rw_iiiiiiLu} (hT : TreeOf x) (hO : TreeOf o) (hx : x.l.length ≤ 500) (ho : o.l.length ≤ 500) (hn : 2000 < n) (hi : i < x.l.length) (he : KsOf x i 0 (i + 1) (atOf x i) e) (hel : e ≤ x.l.length) (hf : fitR (x.l.getD i d8) (o.l.getD 0 d8) = true) :
  ∃ M, m_treePutq1 n x (i : Int) o = some (M, 0) ∧ M.l.map vw = (x.l.take i).map (fun r => mvK (aft e (o.l.length - (e - i))) (vw r)) ++ o.l.map (fun r => mvK (ins i) (vw r)) ++ (x.l.drop e).map (fun r => mvK (aft e (o.l.length - (e - i))) (vw r)) := by
 have hlt := @Ks.lt _ ⟨x⟩ _ _ _ _ _ he
 have hpo := @Tree.pos _ ⟨o⟩ hO
 have kx := @few_of _ ⟨x⟩ hT n (by show x.l.length < n; omega)
 have ko := @few_of _ ⟨o⟩ hO n (by show o.l.length < n; omega)
 unfold m_treePutq1
 rw [chk hT (by omega)]
 try dsimp only [Option.bind_some]
 rw [if_pos rfl, chk hO (by omega)]
 try dsimp only [Option.bind_some]
 rw [if_pos rfl, if_neg (by omega), if_neg (by omega), if_pos (by omega)]
 try dsimp only [Option.bind_some]
 have hpo : 0 < o.l.length := hpo
 rw [if_pos (by omega)]
 try dsimp only [Option.bind_some]
 rw [fits_ok]
 try dsimp only [Option.bind_some]
 have hf : fitR (x.l.getD i (0, 0, 0, 0, 0, 0, nl0, 0)) (o.l.getD ((0 : Int)).toNat (0, 0, 0, 0, 0, 0, nl0, 0)) = true := hf
 rw [if_pos (show fitR (x.l.getD ((i : Nat) : Int).toNat (0, 0, 0, 0, 0, 0, nl0, 0)) (o.l.getD ((0 : Int)).toNat (0, 0, 0, 0, 0, 0, nl0, 0)) = true from hf), pEnd (by omega) (by omega) he hi hel]
 try dsimp only [Option.bind_some]
 rw [w64_sm (x := (e : Int) - i) (by omega) (by omega), w64_sm (x := (o.l.length : Int) - _) (by omega) (by omega), w64_sm (x := (x.l.length : Int) + _) (by omega) (by omega)]
 rw [if_neg (by omega), if_pos (by omega), if_pos (by omega), if_pos (by omega)]
 rw [dif_pos (show 0 ≤ ((i : Nat) : Int).toNat ∧ ((i : Nat) : Int).toNat ≤ x.l.length by omega)]
 obtain ⟨M1, g1, e1⟩ := putL1 (n := n) (a := x) (b := o) (y := wlSub rwf_iiiiiiLu x 0 ((i : Nat) : Int).toNat (by omega)) (e := (e : Int)) (d := (o.l.length : Int) - ((e : Int) - i)) (i := (i : Int))
  (fun r hr => kx r (List.mem_of_mem_take hr)) (by show (List.take _ (List.drop 0 x.l)).length ≤ _; simp; omega) (by show (List.take _ (List.drop 0 x.l)).length < _; simp; omega)
 rw [g1]
 try dsimp only [Option.bind_some]
 have hM1 : M1.length ≤ 1000000 := by
  have := congrArg List.length e1
  rw [List.length_map, List.length_map] at this
  rw [this]
  show (List.take _ (List.drop 0 x.l)).length ≤ _
  simp; omega
 obtain ⟨M2, g2, e2⟩ := putL2 (n := n) (a := x) (y := o) (e := (e : Int)) (d := (o.l.length : Int) - ((e : Int) - i)) (i := (i : Int)) (acc := M1) ko (by omega) (by omega) hM1
 rw [g2]
 try dsimp only [Option.bind_some]
 have hM2 : M2.length ≤ 1000000 := by
  have := congrArg List.length e2
  rw [List.length_map, List.length_map] at this
  omega
 rw [if_pos (by omega), dif_pos (show ((e : Nat) : Int).toNat ≤ x.l.length ∧ x.l.length ≤ x.l.length by omega)]
 obtain ⟨M3, g3, e3⟩ := putL3 (n := n) (y := wlSub rwf_iiiiiiLu x ((e : Nat) : Int).toNat x.l.length (by omega)) (e := (e : Int)) (d := (o.l.length : Int) - ((e : Int) - i)) (acc := M1 ++ M2)
  (fun r hr => kx r (List.mem_of_mem_drop (List.mem_of_mem_take hr))) (by show (List.take _ (List.drop _ x.l)).length ≤ _; simp; omega) (by show (List.take _ (List.drop _ x.l)).length < _; simp; omega) (by rw [List.length_append]; omega)
 rw [g3]
 try dsimp only [Option.bind_some]
 rw [dif_pos (by rw [List.length_append, List.length_append]; have := congrArg List.length e3; rw [List.length_map, List.length_map] at this; have h3 : (wlSub rwf_iiiiiiLu x ((e : Nat) : Int).toNat x.l.length (by omega)).l.length ≤ 1000000 := (by show (List.take _ (List.drop _ x.l)).length ≤ _; simp; omega); omega)]
 refine ⟨_, rfl, ?_⟩
 show (M1 ++ M2 ++ M3).map vw = _
 have l1 : (wlSub rwf_iiiiiiLu x 0 ((i : Nat) : Int).toNat (by omega)).l = x.l.take i := by
  show (x.l.drop 0).take (((i : Nat) : Int).toNat - 0) = _
  rw [List.drop_zero, Int.toNat_natCast, Nat.sub_zero]
 have l3 : (wlSub rwf_iiiiiiLu x ((e : Nat) : Int).toNat x.l.length (by omega)).l = x.l.drop e := by
  show (x.l.drop ((e : Nat) : Int).toNat).take (x.l.length - ((e : Nat) : Int).toNat) = _
  rw [Int.toNat_natCast, List.take_of_length_le (by simp)]
 rw [List.map_append, List.map_append, e1, e2, e3, l1, l3]


/-! a tree with another tree in the place of a part: a tree -/
theorem Ks.uni [Cur] {i k next e : Nat} {a : Int} (h : Ks i k next a e) : ∀ {f : Nat} {b : Int}, Ks i k next b f → e = f := by
 induction h with
 | done hk => intro f b g; cases g with
  | done => rfl
  | kid hk' => omega
 | kid hk hv hn ha h1 h2 ih1 ih2 => intro f b g; cases g with
  | done hk' => omega
  | kid hk' hv' hn' ha' g1 g2 =>
   have := ih1 g1
   subst this
   exact ih2 g2
theorem Ks.nest [Cur] {i k next E e j : Nat} {a : Int} (h : Ks i k next a E) (hj : Ks j 0 (j + 1) (atF j) e) (h1 : next ≤ j) (h2 : j < E) : e ≤ E := by
 obtain ⟨f, g1, g2⟩ := h.cover j h1 h2
 have := g2.uni hj
 omega
/-- kids of what lies outside do not lie inside -/
theorem Ks.out [Cur] {i e : Nat} (hj : Ks i 0 (i + 1) (atF i) e) {p k next E : Nat} {a : Int} (h : Ks p k next a E) : (next ≤ i ∨ e ≤ next) → ∀ q, k ≤ q → q < (kd p).length → ∃ c : Nat, (kd p).getD q 0 = (c : Int) ∧ (c ≤ i ∨ e ≤ c) := by
 have hie : i + 1 ≤ e := hj.lt
 induction h with
 | done hk => exact fun _ q h1 h2 => by omega
 | @kid p k next e' E a hk hv hn ha h1 h2 ih1 ih2 =>
  intro h0 q h3 h4
  have l1 := h1.lt
  by_cases e1 : q = k
  ·subst e1; exact ⟨next, hv, h0⟩
  ·refine ih2 ?_ q (by omega) h4
   rcases Nat.lt_or_ge i e' with c | c
   ·rcases Nat.lt_or_ge next i with c2 | c2
    ·exact .inr (h1.nest hj (by omega) c)
    ·by_cases c3 : next = i
     ·subst c3
      exact .inr (by have := h1.uni hj; omega)
     ·omega
   ·exact .inl c
/-- y is x with o in the place of part i -/
def gN (i m e j : Nat) : Nat := if e ≤ j then j + (i + m) - e else j
structure Gr (x o y : WL rw_iiiiiiLu) (i e : Nat) : Prop where
 len : y.l.length = i + o.l.length + (x.l.length - e)
 lo : ∀ j, j < i → vw (y.l.getD j d8) = mvK (fun v => if v ≥ e then v + (i + o.l.length - e : Int) else v) (vw (x.l.getD j d8))
 mid : ∀ j, j < o.l.length → vw (y.l.getD (i + j) d8) = mvK (fun v => v + i) (vw (o.l.getD j d8))
 hi : ∀ j, e ≤ j → j < x.l.length → vw (y.l.getD (j + (i + o.l.length) - e) d8) = mvK (fun v => if v ≥ e then v + (i + o.l.length - e : Int) else v) (vw (x.l.getD j d8))
theorem vw_at {x y : WL rw_iiiiiiLu} {a b : Nat} {f : Int → Int} (h : vw (y.l.getD b d8) = mvK f (vw (x.l.getD a d8))) : atOf y b = atOf x a ∧ @toF _ ⟨y⟩ b = @toF _ ⟨x⟩ a ∧ @kd _ ⟨y⟩ b = (@kd _ ⟨x⟩ a).map f :=
 ⟨congrArg (fun v : V8 => v.2.2.1) h, congrArg (fun v : V8 => v.2.2.2.2.1) h, congrArg (fun v : V8 => v.2.2.2.2.2.2.1) h⟩
theorem mapD {f : Int → Int} {l : List Int} {q : Nat} (h : q < l.length) : (l.map f).getD q 0 = f (l.getD q 0) := by
 simp [List.getD_eq_getElem?_getD, h]
/-- the part that was put -/
theorem Gr.inner {x o y : WL rw_iiiiiiLu} {i e : Nat} (g : Gr x o y i e) {p k next E : Nat} {a : Int} (h : KsOf o p k next a E) : p < o.l.length → E ≤ o.l.length → KsOf y (i + p) k (i + next) a (i + E) := by
 have h' : @Ks _ ⟨o⟩ p k next a E := h
 clear h
 have hl := g.len
 induction h' with
 | @done p k next a hk ha =>
  intro h1 h2
  obtain ⟨e1, e2, e3⟩ := vw_at (g.mid p h1)
  exact @Ks.done _ ⟨y⟩ _ _ _ _ (by rw [e3, List.length_map]; exact hk) (by rw [e2]; exact ha)
 | @kid p k next e' E a hk hv hn ha c1 c2 ih1 ih2 =>
  intro h1 h2
  have l1 := @Ks.lt _ ⟨o⟩ _ _ _ _ _ c1
  have l2 := @Ks.lt _ ⟨o⟩ _ _ _ _ _ c2
  have hn : next < o.l.length := hn
  obtain ⟨e1, e2, e3⟩ := vw_at (g.mid p h1)
  obtain ⟨f1, f2, f3⟩ := vw_at (g.mid next hn)
  refine @Ks.kid _ ⟨y⟩ _ _ _ (i + e') _ _ (by rw [e3, List.length_map]; exact hk) (by rw [e3, mapD hk, hv]; omega) (by show i + next < y.l.length; omega) (by show a ≤ atOf y (i + next); rw [f1]; exact ha) ?_ ?_
  ·have := ih1 hn (by omega)
   show @Ks _ ⟨y⟩ (i + next) 0 (i + next + 1) (atOf y (i + next)) (i + e')
   rw [f1]; exact this
  ·rw [f2]; exact ih2 h1 h2
theorem gN_lo {i m e j : Nat} (h : j < e) : gN i m e j = j := by unfold gN; rw [if_neg (by omega)]
theorem gN_hi {i m e j : Nat} (h : e ≤ j) : gN i m e j = j + (i + m) - e := by unfold gN; rw [if_pos h]
theorem Gr.outer {x o y : WL rw_iiiiiiLu} {i e : Nat} (g : Gr x o y i e) (hO : TreeOf o) (hj : KsOf x i 0 (i + 1) (atOf x i) e) (hel : e ≤ x.l.length) (hat : atOf o 0 = atOf x i) (hto : @toF _ ⟨o⟩ 0 = @toF _ ⟨x⟩ i) {p k next E : Nat} {a : Int} (h : KsOf x p k next a E) :
  (p < i ∨ e ≤ p) → (next ≤ i ∨ e ≤ next) → (E ≤ i ∨ e ≤ E) → p < next → E ≤ x.l.length → KsOf y (gN i o.l.length e p) k (gN i o.l.length e next) a (gN i o.l.length e E) := by
 have h' : @Ks _ ⟨x⟩ p k next a E := h
 clear h
 have hl := g.len
 have hie : i + 1 ≤ e := @Ks.lt _ ⟨x⟩ _ _ _ _ _ hj
 have hpo : 0 < o.l.length := @Tree.pos _ ⟨o⟩ hO
 have row : ∀ p, p < i ∨ e ≤ p → p < x.l.length → vw (y.l.getD (gN i o.l.length e p) d8) = mvK (fun v => if v ≥ e then v + (i + o.l.length - e : Int) else v) (vw (x.l.getD p d8)) := fun p hp hx => by
  rcases hp with hp | hp
  ·rw [gN_lo (by omega)]; exact g.lo p hp
  ·rw [gN_hi hp]; exact g.hi p hp hx
 induction h' with
 | @done p k next a hk ha =>
  intro h1 h2 h3 h4 h5
  obtain ⟨e1, e2, e3⟩ := vw_at (row p h1 (by omega))
  exact @Ks.done _ ⟨y⟩ _ _ _ _ (by rw [e3, List.length_map]; exact hk) (by rw [e2]; exact ha)
 | @kid p k next e' E a hk hv hn ha c1 c2 ih1 ih2 =>
  intro h1 h2 h3 h4 h5
  have l1 := @Ks.lt _ ⟨x⟩ _ _ _ _ _ c1
  have l2 := @Ks.lt _ ⟨x⟩ _ _ _ _ _ c2
  have hn : next < x.l.length := hn
  obtain ⟨e1, e2, e3⟩ := vw_at (row p h1 (by omega))
  have he' : e' ≤ i ∨ e ≤ e' := by
   rcases Nat.lt_or_ge i e' with c | c
   ·rcases Nat.lt_or_ge next i with d | d
    ·exact .inr (@Ks.nest _ ⟨x⟩ _ _ _ _ _ _ _ c1 hj (by omega) c)
    ·by_cases c3 : next = i
     ·subst c3
      exact .inr (by have := @Ks.uni _ ⟨x⟩ _ _ _ _ _ c1 _ _ hj; omega)
     ·omega
   ·exact .inl c
  have q2 := ih2 h1 he' h3 (by omega) h5
  have hk3 : k < (@kd _ ⟨y⟩ (gN i o.l.length e p)).length := by rw [e3, List.length_map]; exact hk
  have hv3 : (@kd _ ⟨y⟩ (gN i o.l.length e p)).getD k 0 = ((gN i o.l.length e next : Nat) : Int) := by
   rw [e3, mapD hk, hv]
   unfold gN
   by_cases c : e ≤ next
   ·rw [if_pos c, if_pos (by omega)]; omega
   ·rw [if_neg c, if_neg (by omega)]
  have hn3 : gN i o.l.length e next < y.l.length := by
   unfold gN; split <;> omega
  by_cases c3 : next = i
  ·subst c3
   have hee : e' = e := @Ks.uni _ ⟨x⟩ _ _ _ _ _ c1 _ _ hj
   subst hee
   have gi : gN next o.l.length e' next = next := gN_lo (by omega)
   have ge : gN next o.l.length e' e' = next + o.l.length := by rw [gN_hi (Nat.le_refl _)]; omega
   obtain ⟨f1, f2, f3⟩ := vw_at (g.mid 0 hpo)
   rw [Nat.add_zero] at f1 f2 f3
   have w := g.inner (@Tree.ks _ ⟨o⟩ hO) hpo (Nat.le_refl _)
   have w : KsOf y (next + 0) 0 (next + 1) (atOf o 0) (next + o.l.length) := w
   rw [Nat.add_zero] at w
   rw [gi] at hv3 hn3 ⊢
   refine @Ks.kid _ ⟨y⟩ _ _ _ (next + o.l.length) _ _ hk3 hv3 hn3 (by show a ≤ atOf y next; rw [f1, hat]; exact ha) ?_ ?_
   ·show @Ks _ ⟨y⟩ next 0 (next + 1) (atOf y next) (next + o.l.length)
    rw [f1]; exact w
   ·rw [ge] at q2
    rw [f2, hto]; exact q2
  ·have h2' : next < i ∨ e ≤ next := by omega
   obtain ⟨f1, f2, f3⟩ := vw_at (row next h2' hn)
   have q1 := ih1 h2' (by omega) he' (by omega) (by omega)
   refine @Ks.kid _ ⟨y⟩ _ _ _ (gN i o.l.length e e') _ _ hk3 hv3 hn3 (by show a ≤ atOf y _; rw [f1]; exact ha) ?_ ?_
   ·have e4 : gN i o.l.length e (next + 1) = gN i o.l.length e next + 1 := by
     rcases h2' with c | c
     ·rw [gN_lo (by omega), gN_lo (by omega)]
     ·rw [gN_hi (by omega), gN_hi (by omega)]; omega
    show @Ks _ ⟨y⟩ _ 0 _ (atOf y _) _
    rw [e4] at q1
    rw [f1]; exact q1
   ·rw [f2]; exact q2
theorem vw_sp {x y : WL rw_iiiiiiLu} {a b : Nat} {f : Int → Int} (h : vw (y.l.getD b d8) = mvK f (vw (x.l.getD a d8))) (hs : @SPi _ ⟨x⟩ a) : @SPi _ ⟨y⟩ b := by
 have hs : SP (x.l.getD a d8).2.1 (x.l.getD a d8).2.2.1 (x.l.getD a d8).2.2.2.1 (x.l.getD a d8).2.2.2.2.1 (x.l.getD a d8).2.2.2.2.2.1 (x.l.getD a d8).2.2.2.2.2.2.1.l.length := hs
 show SP (y.l.getD b d8).2.1 (y.l.getD b d8).2.2.1 (y.l.getD b d8).2.2.2.1 (y.l.getD b d8).2.2.2.2.1 (y.l.getD b d8).2.2.2.2.2.1 (y.l.getD b d8).2.2.2.2.2.2.1.l.length
 generalize x.l.getD a d8 = p at h hs
 generalize y.l.getD b d8 = q at h ⊢
 simp only [vw, mvK, Prod.mk.injEq] at h
 obtain ⟨e1, e2, e3, e4, e5, e6, e7, e8⟩ := h
 rw [e2, e3, e4, e5, e6, e7, List.length_map]
 exact hs
theorem Gr.tree {x o y : WL rw_iiiiiiLu} {i e : Nat} (g : Gr x o y i e) (hT : TreeOf x) (hO : TreeOf o) (hi : i < x.l.length) (hj : KsOf x i 0 (i + 1) (atOf x i) e) (hel : e ≤ x.l.length) (hat : atOf o 0 = atOf x i) (hto : @toF _ ⟨o⟩ 0 = @toF _ ⟨x⟩ i) (hkd : (o.l.getD 0 d8).2.1 = (x.l.getD i d8).2.1) (hmax : y.l.length ≤ 524288) : TreeOf y := by
 have hl := g.len
 have hie : i + 1 ≤ e := @Ks.lt _ ⟨x⟩ _ _ _ _ _ hj
 have hpo : 0 < o.l.length := @Tree.pos _ ⟨o⟩ hO
 refine @Tree.mk _ ⟨y⟩ (by show 0 < y.l.length; omega) hmax (fun j hj => ?_) (fun j h0 hj => ?_) ?_
 ·have hj : j < y.l.length := hj
  rcases Nat.lt_or_ge j i with c | c
  ·exact vw_sp (g.lo j c) (@Tree.sp _ ⟨x⟩ hT j (by show j < x.l.length; omega))
  ·rcases Nat.lt_or_ge j (i + o.l.length) with d | d
   ·have := g.mid (j - i) (by omega)
    rw [show i + (j - i) = j by omega] at this
    exact vw_sp this (@Tree.sp _ ⟨o⟩ hO (j - i) (by show j - i < o.l.length; omega))
   ·have := g.hi (j + e - (i + o.l.length)) (by omega) (by omega)
    rw [show j + e - (i + o.l.length) + (i + o.l.length) - e = j by omega] at this
    exact vw_sp this (@Tree.sp _ ⟨x⟩ hT _ (by show _ < x.l.length; omega))
 ·have hj : j < y.l.length := hj
  show (y.l.getD j d8).2.1 ≠ 1
  rcases Nat.lt_or_ge j i with c | c
  ·rw [show (y.l.getD j d8).2.1 = (x.l.getD j d8).2.1 from congrArg (fun v : V8 => v.2.1) (g.lo j c)]
   exact @Tree.root _ ⟨x⟩ hT j h0 (by show j < x.l.length; omega)
  ·rcases Nat.lt_or_ge j (i + o.l.length) with d | d
   ·have := g.mid (j - i) (by omega)
    rw [show i + (j - i) = j by omega] at this
    rw [show (y.l.getD j d8).2.1 = (o.l.getD (j - i) d8).2.1 from congrArg (fun v : V8 => v.2.1) this]
    by_cases c2 : j = i
    ·subst c2
     rw [Nat.sub_self, hkd]
     exact @Tree.root _ ⟨x⟩ hT j h0 hi
    ·exact @Tree.root _ ⟨o⟩ hO (j - i) (by omega) (by show j - i < o.l.length; omega)
   ·have := g.hi (j + e - (i + o.l.length)) (by omega) (by omega)
    rw [show j + e - (i + o.l.length) + (i + o.l.length) - e = j by omega] at this
    rw [show (y.l.getD j d8).2.1 = (x.l.getD (j + e - (i + o.l.length)) d8).2.1 from congrArg (fun v : V8 => v.2.1) this]
    exact @Tree.root _ ⟨x⟩ hT _ (by omega) (by show _ < x.l.length; omega)
 ·show @Ks _ ⟨y⟩ 0 0 1 (atOf y 0) y.l.length
  rcases Nat.eq_zero_or_pos i with c | c
  ·subst c
   have hee : e = x.l.length := @Ks.uni _ ⟨x⟩ _ _ _ _ _ hj _ _ (@Tree.ks _ ⟨x⟩ hT)
   have w := g.inner (@Tree.ks _ ⟨o⟩ hO) hpo (Nat.le_refl _)
   have w : KsOf y (0 + 0) 0 (0 + 1) (atOf o 0) (0 + o.l.length) := w
   rw [show y.l.length = 0 + o.l.length by omega]
   obtain ⟨f1, f2, f3⟩ := vw_at (g.mid 0 hpo)
   rw [show (0 + 0 : Nat) = 0 from rfl] at f1
   rw [f1]; exact w
  ·have w : KsOf y (gN i o.l.length e 0) 0 (gN i o.l.length e 1) (atOf x 0) (gN i o.l.length e x.l.length) := g.outer hO hj hel hat hto (@Tree.ks _ ⟨x⟩ hT) (.inl c) (.inl (by omega)) (.inr hel) (by omega) (Nat.le_refl _)
   rw [gN_lo (by omega), gN_lo (by omega), gN_hi hel] at w
   rw [show y.l.length = x.l.length + (i + o.l.length) - e by omega, (vw_at (g.lo 0 c)).1]
   exact w
/-- what of x lies outside has no kid inside -/
theorem Tree.outside {x : WL rw_iiiiiiLu} {i e p : Nat} (hT : TreeOf x) (hi : i < x.l.length) (hj : KsOf x i 0 (i + 1) (atOf x i) e) (hp : p < i ∨ e ≤ p) (hx : p < x.l.length) : ∀ k ∈ @kd _ ⟨x⟩ p, ∃ c : Nat, k = c ∧ (c ≤ i ∨ e ≤ c) ∧ c < x.l.length := fun k hk => by
 obtain ⟨q, hq, rfl⟩ := mem_getD (0 : Int) hk
 obtain ⟨E, h1, h2, h3⟩ := @Tree.end _ ⟨x⟩ hT p hx
 obtain ⟨c, g1, g2⟩ := @Ks.out _ ⟨x⟩ _ _ hj _ _ _ _ _ h1 (by omega) q (Nat.zero_le _) hq
 obtain ⟨c', g3, g4, g5, g6⟩ := @Ks.kids _ ⟨x⟩ _ _ _ _ _ h1 q (Nat.zero_le _) hq
 have : c' = c := by rw [g1] at g3; omega
 subst this
 exact ⟨c', g1, g2, g6⟩


/-! what Sub gives -/
theorem prgSub {n i e : Nat} {x : WL rw_iiiiiiLu} (hT : TreeOf x) (hL : x.l.length ≤ 1000000) (hi : i < x.l.length) (he : KsOf x i 0 (i + 1) (atOf x i) e) (hel : e ≤ x.l.length) (hn : x.l.length + x.l.length + 30 < n) :
  ∃ z, m_treeSubq1 n x (i : Int) = some z ∧ z.l.map vw = ((x.l.drop i).take (e - i)).map fun r => mvK (fun v => w64 (v - i)) (vw r) := by
 have hie : i + 1 ≤ e := @Ks.lt _ ⟨x⟩ _ _ _ _ _ he
 obtain ⟨M, h1, h2⟩ := @sub2 _ ⟨x⟩ x.l.length n i e (i : Int) hL (fun j => @Tree.few _ ⟨x⟩ hT j) hL he hi (by show x.l.length + _ + 20 < n; omega)
 have hl := @Sb.len _ ⟨x⟩ _ _ _ _ h2
 have h1 : m_treevisitq1 n x (i : Int) x (i : Int) x (i : Int) = some M := h1
 unfold m_treeSubq1 m_treehasq1 m_treeplacesq1 m_treeplaces1q1
 rw [if_pos (by omega), if_pos (by omega), chk hT (by omega)]
 try dsimp only [Option.bind_some]
 rw [if_pos rfl]
 try dsimp only [Option.bind_some]
 rw [if_pos rfl, h1]
 try dsimp only [Option.bind_some]
 rw [dif_pos (by omega)]
 refine ⟨_, rfl, ?_⟩
 show M.map vw = _
 apply List.ext_getElem (by rw [List.length_map, List.length_map, List.length_take, List.length_drop]; omega)
 intro j g1 g2
 have hj : j < M.length := by simpa using g1
 obtain ⟨k, e1, e2⟩ := @Sb.row _ ⟨x⟩ _ _ _ _ h2 (i + j) (by omega) (by omega)
 rw [show i + j - i = j by omega] at e1
 have e1 : M[j] = ((x.l.getD (i + j) d8).1, (x.l.getD (i + j) d8).2.1, (x.l.getD (i + j) d8).2.2.1, (x.l.getD (i + j) d8).2.2.2.1, (x.l.getD (i + j) d8).2.2.2.2.1, (x.l.getD (i + j) d8).2.2.2.2.2.1, k, (x.l.getD (i + j) d8).2.2.2.2.2.2.2) := by
  have e0 : M.getD j (0, 0, 0, 0, 0, 0, nl0, 0) = M[j] := by simp [List.getD_eq_getElem?_getD, hj]
  rw [← e0]; exact e1
 have e3 : x.l[i + j]'(by omega) = x.l.getD (i + j) d8 := by simp [List.getD_eq_getElem?_getD, show i + j < x.l.length by omega]
 rw [List.getElem_map, List.getElem_map, List.getElem_take, List.getElem_drop, e3, e1]
 show (_, _, _, _, _, _, k.l, _) = (_, _, _, _, _, _, List.map _ _, _)
 rw [e2]
 rfl
/-! rows of a list by their views -/
theorem map_getD {α β : Type} {f : α → β} {l : List α} {d : α} {j : Nat} (h : j < l.length) : (l.map f).getD j (f d) = f (l.getD j d) := by
 simp [List.getD_eq_getElem?_getD, h]
theorem kin_map {f : Int → Int} {l : List Int} {n : Nat} (h : ∀ k ∈ l, ∃ c : Nat, k = c ∧ c < n) {g : Int → Int} (e : ∀ c : Nat, c < n → f c = g c) : l.map f = l.map g :=
 List.map_congr_left fun k hk => by obtain ⟨c, rfl, hc⟩ := h k hk; exact e c hc
/-- o is x from i up to e -/
def IsSub (x o : WL rw_iiiiiiLu) (i e : Nat) : Prop := o.l.map vw = ((x.l.drop i).take (e - i)).map fun r => mvK (fun v => w64 (v - i)) (vw r)
theorem IsSub.view {x o : WL rw_iiiiiiLu} {i e : Nat} (ho : IsSub x o i e) (hie : i < e) (hel : e ≤ x.l.length) : o.l.length = e - i ∧ ∀ j, i ≤ j → j < e → vw (o.l.getD (j - i) d8) = mvK (fun v => w64 (v - i)) (vw (x.l.getD j d8)) := by
 have hl : o.l.length = e - i := by
  have := congrArg List.length ho
  rw [List.length_map, List.length_map, List.length_take, List.length_drop] at this
  omega
 refine ⟨hl, fun j h1 h2 => ?_⟩
 have h : (o.l.map vw).getD (j - i) (vw d8) = (((x.l.drop i).take (e - i)).map fun r => mvK (fun v => w64 (v - i)) (vw r)).getD (j - i) (vw d8) := by rw [ho]
 rw [map_getD (by omega)] at h
 rw [h]
 simp only [List.getD_eq_getElem?_getD, List.getElem?_map, List.getElem?_take, List.getElem?_drop]
 rw [if_pos (by omega), show i + (j - i) = j by omega, List.getElem?_eq_getElem (by omega : j < x.l.length)]
 rfl
theorem IsSub.shf {x o : WL rw_iiiiiiLu} {i e : Nat} (hT : TreeOf x) (ho : IsSub x o i e) (hie : i < e) (hel : e ≤ x.l.length) : Shf x o i e := by
 have hmax : x.l.length ≤ 524288 := @Tree.max _ ⟨x⟩ hT
 obtain ⟨h1, h2⟩ := ho.view hie hel
 refine ⟨h1, fun j a b => ?_⟩
 have h := h2 j a b
 have hj : j < x.l.length := by omega
 simp only [vw, mvK, Prod.mk.injEq] at h
 obtain ⟨e1, e2, e3, e4, e5, e6, e7, -⟩ := h
 refine ⟨e1, e2, e3, e4, e5, e6, ?_⟩
 rw [e7]
 refine kin_map (n := x.l.length) (Tree.kin hT _ (getD_mem hj)) fun c hc => ?_
 rw [w64_sm (by omega) (by omega)]
/-! the program's Same -/
theorem eqInts {n : Nat} {k l : NL} (h : k.l = l.l) (hk : k.l.length ≤ 1000000) (hn : k.l.length < n) : m_slicesEqualintintq1 n k l = some true := by
 unfold m_slicesEqualintintq1
 have hl : l.l.length = k.l.length := by rw [h]
 rw [if_pos (by rw [h])]
 have := scan (B := B_slicesEqualintintq1_1 n k l (k.l.length : Int)) k.l.length (fun _ => true) () ()
  (fun j hj => by
   unfold B_slicesEqualintintq1_1
   dsimp only
   rw [if_pos (by omega), if_pos (by omega), Int.toNat_natCast, if_pos hj]
   dsimp only [Option.bind_some]
   rw [if_pos (by omega), if_pos (by omega)]
   try dsimp only [Option.bind_some]
   rw [if_pos (by rw [h]), w64_inc (by omega)]
   rfl)
  (by
   unfold B_slicesEqualintintq1_1
   dsimp only
   rw [if_neg (by omega)]) n hn
 rw [show m_slicesEqualintintq1_1 n k l (k.l.length : Int) 0 = _ from this, if_pos (by simp)]
theorem same_ok {n : Nat} {a b : WL rw_iiiiiiLu} (h : a.l.map vw = b.l.map vw) (ha : a.l.length ≤ 1000000) (hk : FewK n a.l) (hn : a.l.length < n) : m_treeSameq1 n a b = some true := by
 have hl : b.l.length = a.l.length := by simpa using (congrArg List.length h).symm
 unfold m_treeSameq1 m_partsSameq1 m_slicesEqualFuncapiPartq1
 rw [if_pos (by omega)]
 have := scan (B := B_slicesEqualFuncapiPartq1_1 n b a (a.l.length : Int)) a.l.length (fun _ => true) () ()
  (fun j hj => by
   have hv : vw (a.l.getD j d8) = vw (b.l.getD j d8) := by
    have : (a.l.map vw).getD j (vw d8) = (b.l.map vw).getD j (vw d8) := by rw [h]
    rwa [map_getD hj, map_getD (by omega)] at this
   have hk := fewD hk hj
   unfold B_slicesEqualFuncapiPartq1_1
   dsimp only
   rw [if_pos (by omega), if_pos (by omega), Int.toNat_natCast]
   dsimp only [Option.bind_some]
   rw [if_pos (by omega)]
   try dsimp only [Option.bind_some]
   show ((m_partsSame1q1 n (a.l.getD j d8).1 (a.l.getD j d8).2.1 (a.l.getD j d8).2.2.1 (a.l.getD j d8).2.2.2.1 (a.l.getD j d8).2.2.2.2.1 (a.l.getD j d8).2.2.2.2.2.1 (a.l.getD j d8).2.2.2.2.2.2.1 (a.l.getD j d8).2.2.2.2.2.2.2 (b.l.getD j d8).1 (b.l.getD j d8).2.1 (b.l.getD j d8).2.2.1 (b.l.getD j d8).2.2.2.1 (b.l.getD j d8).2.2.2.2.1 (b.l.getD j d8).2.2.2.2.2.1 (b.l.getD j d8).2.2.2.2.2.2.1 (b.l.getD j d8).2.2.2.2.2.2.2).bind _) = _
   generalize a.l.getD j d8 = p at hv hk ⊢
   generalize b.l.getD j d8 = q at hv ⊢
   simp only [vw, Prod.mk.injEq] at hv
   obtain ⟨e1, e2, e3, e4, e5, e6, e7, e8⟩ := hv
   unfold m_partsSame1q1
   rw [fits_ok]
   dsimp only [Option.bind_some]
   rw [if_pos (by simp only [fitR, e1, e2, e3, e5, beq_self_eq_true, Bool.and_self]), if_pos e4, if_pos e6, if_pos e8, eqInts e7 hk.1 hk.2]
   dsimp only [Option.bind_some]
   rw [if_pos rfl, w64_inc (by omega)]
   rfl)
  (by
   unfold B_slicesEqualFuncapiPartq1_1
   dsimp only
   rw [if_neg (by omega)]) n hn
 rw [show m_slicesEqualFuncapiPartq1_1 n b a (a.l.length : Int) 0 = _ from this, if_pos (by simp)]
 rfl
theorem few_sub {n i e : Nat} {x a : WL rw_iiiiiiLu} {f : Int → Int} (hk : FewK n x.l) (ha : a.l.map vw = ((x.l.drop i).take (e - i)).map fun r => mvK f (vw r)) : FewK n a.l := fun r hr => by
 have hm : vw r ∈ a.l.map vw := List.mem_map_of_mem hr
 rw [ha] at hm
 obtain ⟨q, hq, he⟩ := List.mem_map.1 hm
 have h := hk q (List.mem_of_mem_drop (List.mem_of_mem_take hq))
 have he : (mvK f (vw q)).2.2.2.2.2.2.1 = r.2.2.2.2.2.2.1.l := congrArg (fun v : V8 => v.2.2.2.2.2.2.1) he
 rw [← he]
 show (q.2.2.2.2.2.2.1.l.map f).length ≤ _ ∧ (q.2.2.2.2.2.2.1.l.map f).length < n
 rw [List.length_map]
 exact h
theorem few_eq {n : Nat} {x a : WL rw_iiiiiiLu} (hk : FewK n x.l) (ha : a.l.map vw = x.l.map vw) : FewK n a.l := fun r hr => by
 have hm : vw r ∈ a.l.map vw := List.mem_map_of_mem hr
 rw [ha] at hm
 obtain ⟨q, hq, he⟩ := List.mem_map.1 hm
 have he : q.2.2.2.2.2.2.1.l = r.2.2.2.2.2.2.1.l := congrArg (fun v : V8 => v.2.2.2.2.2.2.1) he
 rw [← he]; exact hk q hq
theorem prgEndT {n i e : Nat} {x : WL rw_iiiiiiLu} (hT : TreeOf x) (hL : x.l.length ≤ 1000000) (hi : i < x.l.length) (he : KsOf x i 0 (i + 1) (atOf x i) e) (hel : e ≤ x.l.length) (hn : x.l.length < n) : m_treeEndq1 n x (i : Int) = some (e : Int) := by
 unfold m_treeEndq1 m_treehasq1
 rw [if_pos (by omega), if_pos (by omega), chk hT hn]
 try dsimp only [Option.bind_some]
 rw [if_pos rfl]
 try dsimp only [Option.bind_some]
 rw [if_pos rfl, pEnd hn hL he hi hel]
 rfl
/-! a part alone -/
theorem one_tree {x o : WL rw_iiiiiiLu} {i : Nat} {m : Int} (hT : TreeOf x) (hi : i < x.l.length) (ho : o.l = [((x.l.getD i d8).1, (x.l.getD i d8).2.1, (x.l.getD i d8).2.2.1, (x.l.getD i d8).2.2.2.1, (x.l.getD i d8).2.2.2.2.1, (x.l.getD i d8).2.2.2.2.2.1, nl0, m)]) : TreeOf o := by
 have h : SP (x.l.getD i d8).2.1 (x.l.getD i d8).2.2.1 (x.l.getD i d8).2.2.2.1 (x.l.getD i d8).2.2.2.2.1 (x.l.getD i d8).2.2.2.2.2.1 (x.l.getD i d8).2.2.2.2.2.2.1.l.length := @Tree.sp _ ⟨x⟩ hT i hi
 have hl : o.l.length = 1 := by rw [ho]; rfl
 have h0 : o.l.getD 0 d8 = ((x.l.getD i d8).1, (x.l.getD i d8).2.1, (x.l.getD i d8).2.2.1, (x.l.getD i d8).2.2.2.1, (x.l.getD i d8).2.2.2.2.1, (x.l.getD i d8).2.2.2.2.2.1, nl0, m) := by rw [ho]; rfl
 refine @Tree.mk _ ⟨o⟩ (by show 0 < o.l.length; omega) (by show o.l.length ≤ _; omega) (fun j hj => ?_) (fun j h0 hj => ?_) ?_
 ·have hj : j < o.l.length := hj
  obtain rfl : j = 0 := by omega
  show SP (o.l.getD 0 d8).2.1 (o.l.getD 0 d8).2.2.1 (o.l.getD 0 d8).2.2.2.1 (o.l.getD 0 d8).2.2.2.2.1 (o.l.getD 0 d8).2.2.2.2.2.1 (o.l.getD 0 d8).2.2.2.2.2.2.1.l.length
  rw [h0]
  exact { h with leaf := fun _ _ => rfl }
 ·have hj : j < o.l.length := hj
  omega
 ·show @Ks _ ⟨o⟩ 0 0 1 (@atF _ ⟨o⟩ 0) o.l.length
  rw [hl]
  refine @Ks.done _ ⟨o⟩ _ _ _ _ ?_ ?_
  ·show 0 = (o.l.getD 0 d8).2.2.2.2.2.2.1.l.length
   rw [h0]; rfl
  ·show (o.l.getD 0 d8).2.2.1 ≤ (o.l.getD 0 d8).2.2.2.2.1
   rw [h0]
   have := h.at_
   show (x.l.getD i d8).2.2.1 ≤ (x.l.getD i d8).2.2.2.2.1
   omega


/-! trees that are gone through -/
theorem lightP {n mo : Nat} {x : WL rw_iiiiiiLu} (hm : mo ≤ 1000) (hn : mo + 5 < n) : ∃ b, m_viewportkitLightPartsq1 n x (mo : Int) = some b ∧ (b = true → x.l.length ≤ mo ∧ ∀ r ∈ x.l, r.2.2.1 ≤ 1048576 ∧ r.2.2.2.2.1 ≤ 1048576 ∧ r.2.2.2.2.2.1 ≤ 1048576 ∧ -1048576 ≤ r.2.2.1 ∧ -1048576 ≤ r.2.2.2.2.1 ∧ -1048576 ≤ r.2.2.2.2.2.1) := by
 obtain ⟨r, hr, h⟩ := whileI (B := B_viewportkitLightPartsq1_1 n x (mo : Int)) (fun s => ∃ i : Nat, s.2 = i ∧ i ≤ mo + 1 ∧ ∀ j, j < i → j < x.l.length → (x.l.getD j d8).2.2.1 ≤ 1048576 ∧ (x.l.getD j d8).2.2.2.2.1 ≤ 1048576 ∧ (x.l.getD j d8).2.2.2.2.2.1 ≤ 1048576 ∧ -1048576 ≤ (x.l.getD j d8).2.2.1 ∧ -1048576 ≤ (x.l.getD j d8).2.2.2.2.1 ∧ -1048576 ≤ (x.l.getD j d8).2.2.2.2.2.1) (fun s => mo + 1 - s.2.toNat) (fun r => r = .inl () ∨ ∀ j, j < mo + 1 → j < x.l.length → (x.l.getD j d8).2.2.1 ≤ 1048576 ∧ (x.l.getD j d8).2.2.2.2.1 ≤ 1048576 ∧ (x.l.getD j d8).2.2.2.2.2.1 ≤ 1048576 ∧ -1048576 ≤ (x.l.getD j d8).2.2.1 ∧ -1048576 ≤ (x.l.getD j d8).2.2.2.2.1 ∧ -1048576 ≤ (x.l.getD j d8).2.2.2.2.2.1)
  (fun s hI => by
   obtain ⟨c, q⟩ := s
   obtain ⟨i, rfl, hi, hI⟩ := hI
   unfold B_viewportkitLightPartsq1_1
   dsimp only
   by_cases c1 : (i : Int) < ((x.l.length : Nat) : Int)
   ·rw [if_pos c1]
    by_cases c2 : (i : Int) ≤ (mo : Int)
    ·rw [if_pos c2, if_pos (by omega), w64_inc (by omega), Int.toNat_natCast]
     simp only [Option.bind_some]
     have hx : x.l.getD i (0, 0, 0, 0, 0, 0, nl0, 0) = x.l.getD i d8 := rfl
     rw [hx]
     by_cases d1 : (x.l.getD i d8).2.2.1 > 1048576
     ·rw [if_pos d1]; exact .inr ⟨_, .inl rfl, rfl⟩
     rw [if_neg d1]
     by_cases d2 : (x.l.getD i d8).2.2.2.2.1 > 1048576
     ·rw [if_pos d2]; exact .inr ⟨_, .inl rfl, rfl⟩
     rw [if_neg d2]
     by_cases d3 : (x.l.getD i d8).2.2.2.2.2.1 > 1048576
     ·rw [if_pos d3]; exact .inr ⟨_, .inl rfl, rfl⟩
     rw [if_neg d3]
     by_cases d4 : (x.l.getD i d8).2.2.1 < -1048576
     ·rw [if_pos d4]; exact .inr ⟨_, .inl rfl, rfl⟩
     rw [if_neg d4]
     by_cases d5 : (x.l.getD i d8).2.2.2.2.1 < -1048576
     ·rw [if_pos d5]; exact .inr ⟨_, .inl rfl, rfl⟩
     rw [if_neg d5]
     by_cases d6 : (x.l.getD i d8).2.2.2.2.2.1 < -1048576
     ·rw [if_pos d6]; exact .inr ⟨_, .inl rfl, rfl⟩
     rw [if_neg d6]
     refine .inl ⟨(_, ((i + 1 : Nat) : Int)), ⟨i + 1, rfl, by omega, fun j h1 h2 => ?_⟩, by dsimp only; omega, rfl⟩
     rcases Nat.lt_or_ge j i with h | h
     ·exact hI j h h2
     ·obtain rfl : j = i := by omega
      omega
    ·rw [if_neg c2]; exact .inr ⟨_, .inr fun j h1 h2 => hI j (by omega) h2, rfl⟩
   ·rw [if_neg c1]; exact .inr ⟨_, .inr fun j h1 h2 => hI j (by omega) h2, rfl⟩) n (0, 0) ⟨0, rfl, by omega, fun j h => absurd h (Nat.not_lt_zero _)⟩ (by dsimp only; omega)
 unfold m_viewportkitLightPartsq1 m_viewportkitLightPartsq1_1
 rw [h]
 rcases r with r | r
 ·exact ⟨_, rfl, fun h => by cases h⟩
 ·have hr := hr.resolve_left (fun h => by cases h)
  dsimp only
  by_cases c1 : ((x.l.length : Nat) : Int) ≤ (mo : Int)
  ·rw [if_pos c1]
   have key : x.l.length ≤ mo ∧ ∀ r ∈ x.l, r.2.2.1 ≤ 1048576 ∧ r.2.2.2.2.1 ≤ 1048576 ∧ r.2.2.2.2.2.1 ≤ 1048576 ∧ -1048576 ≤ r.2.2.1 ∧ -1048576 ≤ r.2.2.2.2.1 ∧ -1048576 ≤ r.2.2.2.2.2.1 := ⟨by omega, fun r hm => by
    obtain ⟨j, hj, rfl⟩ := mem_getD d8 hm
    exact hr j (by omega) hj⟩
   split
   ·exact ⟨_, rfl, fun _ => key⟩
   ·exact ⟨_, rfl, fun h => by cases h⟩
  ·rw [if_neg c1]; exact ⟨_, rfl, fun h => by cases h⟩


theorem pickW {n k : Nat} {x : Int} (h0 : 1 ≤ k) (hk : k ≤ 1000) : ∃ e : Nat, m_viewportkitPickq1 n x (k : Int) = some (e : Int) ∧ e < k := by
 have hlt := Int.tmod_lt_of_pos x (show (0 : Int) < (k : Int) by omega)
 have hgt : -(k : Int) < Int.tmod x k := by
  rw [← Int.neg_neg (Int.tmod x k), ← Int.neg_tmod]
  have := Int.tmod_lt_of_pos (-x) (show (0 : Int) < (k : Int) by omega)
  omega
 unfold m_viewportkitPickq1
 rw [if_neg (by omega), if_pos (by omega)]
 by_cases h : Int.tmod x k < 0
 ·rw [if_pos h, w64_sm (by omega) (by omega)]
  refine ⟨(Int.tmod x k + k).toNat, ?_, by omega⟩
  rw [Int.toNat_of_nonneg (by omega)]
 ·rw [if_neg h]
  refine ⟨(Int.tmod x k).toNat, ?_, by omega⟩
  rw [Int.toNat_of_nonneg (by omega)]


/-! what Put gives, row by row -/
def PutV (x o y : WL rw_iiiiiiLu) (i e : Nat) : Prop := y.l.map vw = (x.l.take i).map (fun r => mvK (aft e (o.l.length - (e - i))) (vw r)) ++ o.l.map (fun r => mvK (ins i) (vw r)) ++ (x.l.drop e).map (fun r => mvK (aft e (o.l.length - (e - i))) (vw r))
theorem PutV.rows {x o y : WL rw_iiiiiiLu} {i e : Nat} (h : PutV x o y i e) (hi : i < x.l.length) (hie : i < e) (hel : e ≤ x.l.length) : y.l.length = i + o.l.length + (x.l.length - e) ∧ (∀ j, j < i → vw (y.l.getD j d8) = mvK (aft e (o.l.length - (e - i))) (vw (x.l.getD j d8))) ∧ (∀ j, j < o.l.length → vw (y.l.getD (i + j) d8) = mvK (ins i) (vw (o.l.getD j d8))) ∧
  ∀ j, e ≤ j → j < x.l.length → vw (y.l.getD (j + (i + o.l.length) - e) d8) = mvK (aft e (o.l.length - (e - i))) (vw (x.l.getD j d8)) := by
 have hl : y.l.length = i + o.l.length + (x.l.length - e) := by
  have := congrArg List.length h
  simp only [List.length_map, List.length_append, List.length_take, List.length_drop] at this
  omega
 have key : ∀ j, j < y.l.length → some (vw (y.l.getD j d8)) = ((x.l.take i).map (fun r => mvK (aft e (o.l.length - (e - i))) (vw r)) ++ o.l.map (fun r => mvK (ins i) (vw r)) ++ (x.l.drop e).map (fun r => mvK (aft e (o.l.length - (e - i))) (vw r)))[j]? := fun j hj => by
  have h : (y.l.map vw)[j]? = _ := congrArg (fun L : List V8 => L[j]?) h
  rw [← h, List.getElem?_map, List.getElem?_eq_getElem hj]
  simp [List.getD_eq_getElem?_getD, hj]
 refine ⟨hl, fun j hj => ?_, fun j hj => ?_, fun j h1 h2 => ?_⟩
 ·have := key j (by omega)
  rw [List.append_assoc, List.getElem?_append_left (by simp; omega), List.getElem?_map, List.getElem?_take_of_lt hj, List.getElem?_eq_getElem (by omega : j < x.l.length)] at this
  rw [Option.some.inj this, show x.l.getD j d8 = x.l[j]'(by omega) by simp [List.getD_eq_getElem?_getD, show j < x.l.length by omega]]
 ·have := key (i + j) (by omega)
  rw [List.append_assoc, List.getElem?_append_right (by simp; omega), List.length_map, List.length_take, show i + j - min i x.l.length = j by omega, List.getElem?_append_left (by simp; omega), List.getElem?_map, List.getElem?_eq_getElem hj] at this
  rw [Option.some.inj this, show o.l.getD j d8 = o.l[j] by simp [List.getD_eq_getElem?_getD, hj]]
 ·have := key (j + (i + o.l.length) - e) (by omega)
  rw [List.getElem?_append_right (by simp; omega), List.length_append, List.length_map, List.length_map, List.length_take, List.getElem?_map, List.getElem?_drop, show e + (j + (i + o.l.length) - e - (min i x.l.length + o.l.length)) = j by omega, List.getElem?_eq_getElem h2] at this
  rw [Option.some.inj this, show x.l.getD j d8 = x.l[j] by simp [List.getD_eq_getElem?_getD, h2]]
theorem mvK_cong {f g : Int → Int} {v : V8} {n : Nat} (h : ∀ k ∈ v.2.2.2.2.2.2.1, ∃ c : Nat, k = c ∧ c < n) (e : ∀ c : Nat, c < n → f c = g c) : mvK f v = mvK g v := by
 unfold mvK
 rw [kin_map h e]
theorem PutV.gr {x o y : WL rw_iiiiiiLu} {i e : Nat} (h : PutV x o y i e) (hT : TreeOf x) (hO : TreeOf o) (hi : i < x.l.length) (hie : i < e) (hel : e ≤ x.l.length) : Gr x o y i e := by
 have mx : x.l.length ≤ 524288 := @Tree.max _ ⟨x⟩ hT
 have mo : o.l.length ≤ 524288 := @Tree.max _ ⟨o⟩ hO
 obtain ⟨h1, h2, h3, h4⟩ := h.rows hi hie hel
 have ha : ∀ c : Nat, c < x.l.length → aft e (o.l.length - (e - i)) c = if (c : Int) ≥ e then (c : Int) + (i + o.l.length - e : Int) else c := fun c hc => by
  unfold aft
  split
  ·rw [w64_sm (by omega) (by omega)]; omega
  ·rfl
 refine ⟨h1, fun j hj => ?_, fun j hj => ?_, fun j g1 g2 => ?_⟩
 ·rw [h2 j hj]
  exact mvK_cong (n := x.l.length) (Tree.kin hT _ (getD_mem (d := d8) (by omega))) ha
 ·rw [h3 j hj]
  exact mvK_cong (n := o.l.length) (Tree.kin hO _ (getD_mem (d := d8) hj)) fun c hc => by
   unfold ins
   rw [w64_sm (by omega) (by omega)]
 ·rw [h4 j g1 g2]
  exact mvK_cong (n := x.l.length) (Tree.kin hT _ (getD_mem (d := d8) g2)) ha
theorem eq_of_rows {x y : WL rw_iiiiiiLu} (hl : y.l.length = x.l.length) (h : ∀ j, j < x.l.length → vw (y.l.getD j d8) = vw (x.l.getD j d8)) : y.l.map vw = x.l.map vw := by
 apply List.ext_getElem (by simp [hl])
 intro j h1 h2
 have hj : j < x.l.length := by simpa using h2
 have := h j hj
 rw [List.getElem_map, List.getElem_map]
 simpa [List.getD_eq_getElem?_getD, hj, hl] using this
/-! Put of Sub -/
theorem put_back {x o y : WL rw_iiiiiiLu} {i e : Nat} (hT : TreeOf x) (ho : IsSub x o i e) (h : PutV x o y i e) (hi : i < x.l.length) (hie : i < e) (hel : e ≤ x.l.length) : y.l.map vw = x.l.map vw := by
 have mx : x.l.length ≤ 524288 := @Tree.max _ ⟨x⟩ hT
 obtain ⟨h1, h2, h3, h4⟩ := h.rows hi hie hel
 obtain ⟨hl, hv⟩ := ho.view hie hel
 have ha : ∀ j, j < x.l.length → mvK (aft e (o.l.length - (e - i))) (vw (x.l.getD j d8)) = vw (x.l.getD j d8) := fun j hj => mv_id fun k hk => by
  obtain ⟨c, rfl, hc⟩ := Tree.kin hT _ (getD_mem (d := d8) hj) k hk
  unfold aft
  split
  ·rw [w64_sm (by omega) (by omega)]; omega
  ·rfl
 refine eq_of_rows (by omega) fun j hj => ?_
 rcases Nat.lt_or_ge j i with c | c
 ·rw [h2 j c, ha j hj]
 ·rcases Nat.lt_or_ge j e with d | d
  ·have := h3 (j - i) (by omega)
   rw [show i + (j - i) = j by omega, hv j c d] at this
   rw [this]
   have hk := Tree.kin hT _ (getD_mem (d := d8) hj)
   generalize x.l.getD j d8 = r at hk ⊢
   obtain ⟨r1, r2, r3, r4, r5, r6, r7, r8⟩ := r
   show (r1, r2, r3, r4, r5, r6, (r7.l.map (fun v => w64 (v - i))).map (ins i), r8) = (r1, r2, r3, r4, r5, r6, r7.l, r8)
   rw [List.map_map, kin_map (g := id) hk (fun c hc => by
    show ins i (w64 ((c : Int) - i)) = (c : Int)
    unfold ins
    rw [w64_sm (x := (c : Int) - i) (by omega) (by omega), w64_sm (by omega) (by omega)]
    omega), List.map_id]
  ·have := h4 j d hj
   rw [show j + (i + o.l.length) - e = j by omega] at this
   rw [this, ha j hj]
/-! a part alone, and back -/
theorem mvK_mvK {f g : Int → Int} {v : V8} : mvK f (mvK g v) = mvK (fun k => f (g k)) v := by
 unfold mvK
 dsimp only
 rw [List.map_map]; rfl
theorem put_one_back {x o y s z : WL rw_iiiiiiLu} {i e : Nat} (hT : TreeOf x) (hj : KsOf x i 0 (i + 1) (atOf x i) e) (h1 : PutV x o y i e) (ho : o.l.length = 1) (hs : IsSub x s i e) (h2 : PutV y s z i (i + 1)) (hi : i < x.l.length) (hie : i < e) (hel : e ≤ x.l.length) : z.l.map vw = x.l.map vw := by
 have mx : x.l.length ≤ 524288 := @Tree.max _ ⟨x⟩ hT
 obtain ⟨a1, a2, a3, a4⟩ := h1.rows hi hie hel
 obtain ⟨hl, hv⟩ := hs.view hie hel
 obtain ⟨b1, b2, b3, b4⟩ := h2.rows (by omega) (by omega) (by omega)
 have ha : ∀ j, j < i ∨ e ≤ j → j < x.l.length → mvK (aft ((i + 1 : Nat) : Int) (s.l.length - (((i + 1 : Nat) : Int) - i))) (mvK (aft e (o.l.length - (e - i))) (vw (x.l.getD j d8))) = vw (x.l.getD j d8) := fun j hp hx => by
  rw [mvK_mvK]
  refine mv_id fun k hk => ?_
  obtain ⟨c, rfl, hc, hcl⟩ := Tree.outside hT hi hj hp hx k hk
  unfold aft
  by_cases c1 : (c : Int) ≥ e
  ·rw [if_pos c1, w64_sm (x := (c : Int) + _) (by omega) (by omega), if_pos (by omega), w64_sm (by omega) (by omega)]; omega
  ·rw [if_neg c1, if_neg (by omega)]
 refine eq_of_rows (by omega) fun j hjx => ?_
 rcases Nat.lt_or_ge j i with c | c
 ·rw [b2 j c, a2 j c, ha j (.inl c) hjx]
 ·rcases Nat.lt_or_ge j e with d | d
  ·have := b3 (j - i) (by omega)
   rw [show i + (j - i) = j by omega, hv j c d] at this
   rw [this]
   have hk := Tree.kin hT _ (getD_mem (d := d8) hjx)
   generalize x.l.getD j d8 = r at hk ⊢
   obtain ⟨r1, r2, r3, r4, r5, r6, r7, r8⟩ := r
   show (r1, r2, r3, r4, r5, r6, (r7.l.map (fun v => w64 (v - i))).map (ins i), r8) = (r1, r2, r3, r4, r5, r6, r7.l, r8)
   rw [List.map_map, kin_map (g := id) hk (fun c hc => by
    show ins i (w64 ((c : Int) - i)) = (c : Int)
    unfold ins
    rw [w64_sm (x := (c : Int) - i) (by omega) (by omega), w64_sm (by omega) (by omega)]
    omega), List.map_id]
  ·have g1 := a4 j d hjx
   have g2 := b4 (j + (i + o.l.length) - e) (by omega) (by omega)
   rw [show j + (i + o.l.length) - e + (i + s.l.length) - (i + 1) = j by omega, g1, ha j (.inr d) hjx] at g2
   exact g2
/-! OwnParts of a part alone -/
theorem ownInt {n : Nat} {k : NL} (h : k.l.length ≤ 1000000) : ∃ r, m_viewportkitOwnintq1 n k = some r := by
 unfold m_viewportkitOwnintq1
 by_cases c : 0 < k.l.length
 ·rw [if_pos c, if_pos (by omega), if_pos (by omega), dif_pos (by rw [List.nil_append]; omega)]; exact ⟨_, rfl⟩
 ·rw [if_neg c, dif_pos (by decide)]; exact ⟨_, rfl⟩
theorem ownOne {n : Nat} {y : WL rw_iiiiiiLu} {r : P8} (h : y.l = [r]) (hk : r.2.2.2.2.2.2.1.l.length ≤ 1000000) (hn : 10 < n) : ∃ k, m_viewportkitOwnPartsq1 n y = some ([(r.1, r.2.1, r.2.2.1, r.2.2.2.1, r.2.2.2.2.1, r.2.2.2.2.2.1, k, r.2.2.2.2.2.2.2)], 1) := by
 obtain ⟨k, hkk⟩ := ownInt (n := n) hk
 obtain ⟨m, rfl⟩ : ∃ m, n = m + 2 := ⟨n - 2, by omega⟩
 refine ⟨k, ?_⟩
 unfold m_viewportkitOwnPartsq1 m_viewportkitOwnapiPartq1
 have hl : y.l.length = 1 := by rw [h]; rfl
 rw [if_pos (by omega), if_pos (by omega), if_pos (by omega), h]
 show ((m_viewportkitOwnPartsq1_1 (m + 2) 1 ([r], 0)).bind _) = _
 have : m_viewportkitOwnPartsq1_1 (m + 2) 1 ([r], 0) = some ([(r.1, r.2.1, r.2.2.1, r.2.2.2.1, r.2.2.2.2.1, r.2.2.2.2.2.1, k, r.2.2.2.2.2.2.2)], 1) := by
  unfold m_viewportkitOwnPartsq1_1
  rw [show m + 2 = (m + 1) + 1 from rfl, iterM_succ]
  have h1 : B_viewportkitOwnPartsq1_1 (m + 1 + 1) 1 ([r], 0) = some (.inl ([(r.1, r.2.1, r.2.2.1, r.2.2.2.1, r.2.2.2.2.1, r.2.2.2.2.2.1, k, r.2.2.2.2.2.2.2)], 1)) := by
   unfold B_viewportkitOwnPartsq1_1
   dsimp only
   rw [if_pos (by decide), if_pos (by decide), if_pos (show Int.toNat 0 < [r].length from Nat.zero_lt_succ _)]
   show ((m_viewportkitOwnintq1 (m + 2) r.2.2.2.2.2.2.1).bind _) = _
   rw [hkk]
   rfl
  rw [h1, Option.bind_some]
  dsimp only
  rw [iterM_succ]
  have h2 : B_viewportkitOwnPartsq1_1 (m + 1 + 1) 1 ([(r.1, r.2.1, r.2.2.1, r.2.2.2.1, r.2.2.2.2.1, r.2.2.2.2.2.1, k, r.2.2.2.2.2.2.2)], 1) = some (.inr ([(r.1, r.2.1, r.2.2.1, r.2.2.2.1, r.2.2.2.2.1, r.2.2.2.2.2.1, k, r.2.2.2.2.2.2.2)], 1)) := by
   unfold B_viewportkitOwnPartsq1_1
   dsimp only
   rw [if_neg (by decide)]
  rw [h2]
  rfl
 rw [this]
 rfl
/-! the law -/
theorem put_ok' {n i e : Nat} {x o : WL rw_iiiiiiLu} (hT : TreeOf x) (hO : TreeOf o) (hx : x.l.length ≤ 500) (ho : o.l.length ≤ 500) (hn : 2000 < n) (hi : i < x.l.length) (he : KsOf x i 0 (i + 1) (atOf x i) e) (hel : e ≤ x.l.length) (hf : fitR (x.l.getD i d8) (o.l.getD 0 d8) = true) : ∃ M, m_treePutq1 n x (i : Int) o = some (M, 0) ∧ PutV x o M i e := put_ok hT hO hx ho hn hi he hel hf
theorem fit_view {p q : P8} {f : Int → Int} (h : vw q = mvK f (vw p)) : fitR p q = true := by
 simp only [vw, mvK, Prod.mk.injEq] at h
 obtain ⟨e1, e2, e3, e4, e5, -⟩ := h
 simp only [fitR, e1, e2, e3, e5, beq_self_eq_true, Bool.and_self]
theorem t1_ok {n i e : Nat} {m : Int} {x s o : WL rw_iiiiiiLu} (hT : TreeOf x) (hx : x.l.length ≤ 120) (hn : 3000 < n) (hi : i < x.l.length) (he : KsOf x i 0 (i + 1) (atOf x i) e) (hel : e ≤ x.l.length) (hs : IsSub x s i e)
  (ho : o.l = [((x.l.getD i d8).1, (x.l.getD i d8).2.1, (x.l.getD i d8).2.2.1, (x.l.getD i d8).2.2.2.1, (x.l.getD i d8).2.2.2.2.1, (x.l.getD i d8).2.2.2.2.2.1, nl0, m)]) : m_viewportlaw16TreePutst1 n x (i : Int) s o () = some true := by
 have hie : i + 1 ≤ e := @Ks.lt _ ⟨x⟩ _ _ _ _ _ he
 have hO : TreeOf o := one_tree hT hi ho
 have hol : o.l.length = 1 := by rw [ho]; rfl
 have ho0 : o.l.getD 0 d8 = ((x.l.getD i d8).1, (x.l.getD i d8).2.1, (x.l.getD i d8).2.2.1, (x.l.getD i d8).2.2.2.1, (x.l.getD i d8).2.2.2.2.1, (x.l.getD i d8).2.2.2.2.2.1, nl0, m) := by rw [ho]; rfl
 obtain ⟨hsl, hsv⟩ := hs.view (by omega) hel
 have hS : TreeOf s := (hs.shf hT (by omega) hel).tree hT (by omega) hel he
 have hfo : fitR (x.l.getD i d8) (o.l.getD 0 d8) = true := by rw [ho0]; simp only [fitR, beq_self_eq_true, Bool.and_self]
 obtain ⟨y, p1, p2⟩ := put_ok' (n := n) hT hO (by omega) (by omega) (by omega) hi he hel hfo
 have hg := p2.gr hT hO hi (by omega) hel
 have hyl := hg.len
 have hY : TreeOf y := hg.tree hT hO hi he hel (by show (o.l.getD 0 d8).2.2.1 = _; rw [ho0]; rfl) (by show (o.l.getD 0 d8).2.2.2.2.1 = _; rw [ho0]; rfl) (by rw [ho0]) (by omega)
 have hrow := hg.mid 0 (by omega)
 rw [Nat.add_zero, ho0] at hrow
 have hy0 : vw (y.l.getD i d8) = ((x.l.getD i d8).1, (x.l.getD i d8).2.1, (x.l.getD i d8).2.2.1, (x.l.getD i d8).2.2.2.1, (x.l.getD i d8).2.2.2.2.1, (x.l.getD i d8).2.2.2.2.2.1, [], m) := hrow
 have hky : KsOf y i 0 (i + 1) (atOf y i) (i + 1) := by
  have w := hg.inner (@Tree.ks _ ⟨o⟩ hO) (by omega) (Nat.le_refl _)
  have w : KsOf y (i + 0) 0 (i + 1) (atOf o 0) (i + o.l.length) := w
  have e1 : atOf y i = atOf o 0 := by
   show (y.l.getD i d8).2.2.1 = (o.l.getD 0 d8).2.2.1
   rw [ho0]
   exact congrArg (fun v : V8 => v.2.2.1) hy0
  rw [Nat.add_zero, hol, ← e1] at w
  exact w
 unfold m_viewportlaw16TreePutst1
 rw [p1]
 try dsimp only [Option.bind_some]
 rw [if_pos rfl, w64_sm (x := (x.l.length : Int) - _) (by omega) (by omega), w64_sm (by omega) (by omega), if_pos (by omega), chk hY (by omega)]
 try dsimp only [Option.bind_some]
 rw [if_pos rfl]
 obtain ⟨z, s1, s2⟩ := prgSub (n := n) hY (by omega) (by omega) hky (by omega) (by omega)
 rw [s1]
 try dsimp only [Option.bind_some]
 have hz : z.l.map vw = o.l.map vw := by
  rw [s2, ho, show (y.l.drop i).take (i + 1 - i) = [y.l.getD i d8] by
   have hyi : i < y.l.length := by omega
   rw [show i + 1 - i = 1 by omega, List.drop_eq_getElem_cons hyi, List.getD_eq_getElem?_getD, List.getElem?_eq_getElem hyi]
   rfl]
  show [mvK _ (vw (y.l.getD i d8))] = _
  rw [hy0]
  rfl
 have ky := @few_of _ ⟨y⟩ hY n (by show y.l.length < n; omega)
 have hzl : z.l.length = 1 := by have := congrArg List.length hz; simpa [hol] using this
 rw [same_ok hz (by omega) (few_sub ky s2) (by omega)]
 try dsimp only [Option.bind_some]
 rw [if_pos rfl]
 have hfs : fitR (y.l.getD i d8) (s.l.getD 0 d8) = true := by
  have hv := hsv i (Nat.le_refl _) (by omega)
  rw [Nat.sub_self] at hv
  have h1 := fit_view hv
  have e1 := congrArg (fun v : V8 => v.1) hy0
  have e2 := congrArg (fun v : V8 => v.2.1) hy0
  have e3 := congrArg (fun v : V8 => v.2.2.1) hy0
  have e4 := congrArg (fun v : V8 => v.2.2.2.2.1) hy0
  simp only [vw] at e1 e2 e3 e4
  unfold fitR at h1 ⊢
  rw [e1, e2, e3, e4]; exact h1
 obtain ⟨w, w1, w2⟩ := put_ok' (n := n) hY hS (by omega) (by omega) (by omega) (by omega) hky (by omega) hfs
 rw [w1]
 try dsimp only [Option.bind_some]
 rw [if_pos rfl]
 have hw := put_one_back hT he p2 hol hs w2 hi (by omega) hel
 have hwl : w.l.length = x.l.length := by simpa using congrArg List.length hw
 rw [same_ok hw (by omega) (few_eq (@few_of _ ⟨x⟩ hT n (by show x.l.length < n; omega)) hw) (by omega)]
 rfl
theorem lightL {n : Nat} {x : WL rw_iiiiiiLu} (hn : 200 < n) : ∃ b, m_viewportlaw16lightq1 n x 0 0 0 = some b ∧ (b = true → x.l.length ≤ 120) := by
 obtain ⟨b1, h1, g1⟩ := lightP (mo := 120) (x := x) (by omega) (by omega : 120 + 5 < n)
 have h1 : m_viewportkitLightPartsq1 n x 120 = some b1 := h1
 obtain ⟨m, rfl⟩ : ∃ m, n = m + 1 := ⟨n - 1, by omega⟩
 have h2 : m_viewportkitLightPartsq2 (m + 1) 120 = some true := rfl
 have h3 : m_viewportkitLightEditq1 (m + 1) 0 0 0 = some true := rfl
 unfold m_viewportlaw16lightq1
 rw [h1, h2, h3]
 cases b1 with
 | false => exact ⟨false, rfl, fun h => by cases h⟩
 | true => exact ⟨true, rfl, fun _ => (g1 rfl).1⟩
theorem treePuts_true (g1 g2 : Int) : ∃ n, m_viewportlaw16TreePuts n g1 g2 = some true := by
 let n := wA.l.length + 5000
 refine ⟨n, ?_⟩
 have hn : 3000 < n := by show 3000 < wA.l.length + 5000; omega
 unfold m_viewportlaw16TreePuts
 rw [show m_viewportlaw16lives n = some () from rfl]
 try dsimp only [Option.bind_some]
 obtain ⟨b, hb, hl⟩ := lightL (n := n) (x := wA) (by omega)
 rw [hb]
 try dsimp only [Option.bind_some]
 cases b with
 | false => rw [if_neg (by decide)]
 | true =>
 rw [if_pos rfl]
 have hx := hl rfl
 obtain ⟨c, hc, hcT⟩ := @prgCheck _ ⟨wA⟩ n (by show wA.l.length < wA.l.length + 5000; omega) (by show wA.l.length ≤ _; omega)
 have hc : m_treeCheckq1 n wA = some c := hc
 rw [hc]
 try dsimp only [Option.bind_some]
 by_cases c0 : c = 0
 ·rw [if_pos c0]
  have hT : TreeOf wA := hcT c0
  have hp : 0 < wA.l.length := @Tree.pos _ ⟨wA⟩ hT
  obtain ⟨i, hi, hil⟩ := pickW (n := n) (k := wA.l.length) (x := g1) (by omega) (by omega)
  rw [hi]
  try dsimp only [Option.bind_some]
  obtain ⟨e, he, hie, hel⟩ := @Tree.end _ ⟨wA⟩ hT i hil
  have hel : e ≤ wA.l.length := hel
  obtain ⟨s, s1, s2⟩ := prgSub (n := n) hT (by omega) hil he hel (by omega)
  have hs : IsSub wA s i e := s2
  obtain ⟨hsl, hsv⟩ := hs.view hie hel
  have hS : TreeOf s := (hs.shf hT hie hel).tree hT hie hel he
  rw [s1]
  try dsimp only [Option.bind_some]
  have hfs : fitR (wA.l.getD i d8) (s.l.getD 0 d8) = true := by
   have hv := hsv i (Nat.le_refl _) hie
   rw [Nat.sub_self] at hv
   exact fit_view hv
  obtain ⟨y, p1, p2⟩ := put_ok' (n := n) hT hS (by omega) (by omega) (by omega) hil he hel hfs
  rw [p1]
  try dsimp only [Option.bind_some]
  rw [if_neg (by omega), prgEndT hT (by omega) hil he hel (by omega)]
  try dsimp only [Option.bind_some]
  rw [w64_sm (by omega) (by omega), if_pos (by omega), if_pos rfl]
  have hy := put_back hT hs p2 hil hie hel
  have hyl : y.l.length = wA.l.length := by simpa using congrArg List.length hy
  rw [same_ok hy (by omega) (few_eq (@few_of _ ⟨wA⟩ hT n (by show wA.l.length < n; omega)) hy) (by omega)]
  try dsimp only [Option.bind_some]
  rw [if_pos rfl, dif_pos (by omega)]
  obtain ⟨r, hr⟩ : ∃ r, s.l.take 1 = [r] ∧ r = s.l.getD 0 d8 := by
   cases h : s.l with
   | nil => rw [h] at hsl; simp at hsl; omega
   | cons a t => exact ⟨a, rfl, rfl⟩
  have hr0 : vw r = mvK (fun v => w64 (v - i)) (vw (wA.l.getD i d8)) := by
   have hv := hsv i (Nat.le_refl _) hie
   rw [Nat.sub_self, ← hr.2] at hv
   exact hv
  have hsub : (wlSub rwf_iiiiiiLu s 0 1 (by omega)).l = [r] := by
   show (s.l.drop 0).take (1 - 0) = _
   rw [List.drop_zero]; exact hr.1
  have hkr : r.2.2.2.2.2.2.1.l.length ≤ 1000000 := by
   rw [hr.2]
   exact (fewD (@few_of _ ⟨s⟩ hS n (by show s.l.length < n; omega)) (by show 0 < s.l.length; omega)).1
  obtain ⟨k, hk⟩ := ownOne (n := n) hsub hkr (by omega)
  rw [hk]
  try dsimp only [Option.bind_some]
  rw [if_pos (by decide), if_pos (show Int.toNat 0 < [_].length from Nat.zero_lt_succ _)]
  try dsimp only [Option.bind_some]
  rw [if_pos (show 1 = (List.set [_] _ _).length by rw [List.length_set]; rfl), dif_pos (show (List.set [_] _ _).length ≤ 9223372036854775807 by rw [List.length_set]; exact (by decide : 1 ≤ 9223372036854775807))]
  have e1 : r.1 = (wA.l.getD i d8).1 := congrArg (fun v : V8 => v.1) hr0
  have e2 : r.2.1 = (wA.l.getD i d8).2.1 := congrArg (fun v : V8 => v.2.1) hr0
  have e3 : r.2.2.1 = (wA.l.getD i d8).2.2.1 := congrArg (fun v : V8 => v.2.2.1) hr0
  have e4 : r.2.2.2.1 = (wA.l.getD i d8).2.2.2.1 := congrArg (fun v : V8 => v.2.2.2.1) hr0
  have e5 : r.2.2.2.2.1 = (wA.l.getD i d8).2.2.2.2.1 := congrArg (fun v : V8 => v.2.2.2.2.1) hr0
  have e6 : r.2.2.2.2.2.1 = (wA.l.getD i d8).2.2.2.2.2.1 := congrArg (fun v : V8 => v.2.2.2.2.2.1) hr0
  rw [t1_ok (m := g2) hT hx hn hil he hel hs (by
   show [(r.1, r.2.1, r.2.2.1, r.2.2.2.1, r.2.2.2.2.1, r.2.2.2.2.2.1, nl0, g2)] = _
   rw [e1, e2, e3, e4, e5, e6])]
  rfl
 ·rw [if_neg c0]

end Go.Proofs.Ytdoidamfhkbgdaa.tpt16
