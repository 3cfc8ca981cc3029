/-
 Arguments that are slices of structs, with slices of ints inside, opened as windows. Own work, plain lemmas. No condition.
-/
import Derived.Test.YtmjibnlojmdcgaaGreatDoorWinArg
import Derived.ChangeArms
import Derived.DataReads
set_option linter.unusedSimpArgs false
set_option linter.unusedVariables false
set_option linter.unusedSectionVars false
namespace Go.Proofs.YtmjibnlojmdcgaaGreatDoor.Ax
open Go Go.ChangeShapes Go.WideShapes
def pairN (a b : Nat) : Nat := 2 ^ a * (2 * b + 1)
theorem qm9_ : ∀ {a b a' b' : Nat}, pairN a b = pairN a' b' → a = a' ∧ b = b'
 | 0, b, 0, b', h => by simp [pairN] at h; omega
 | 0, b, a' + 1, b', h => by
  exfalso
  simp only [pairN, Nat.pow_zero, Nat.one_mul, Nat.pow_succ] at h
  rw [Nat.mul_comm (2 ^ a') 2, Nat.mul_assoc] at h
  omega
 | a + 1, b, 0, b', h => by
  exfalso
  simp only [pairN, Nat.pow_zero, Nat.one_mul, Nat.pow_succ] at h
  rw [Nat.mul_comm (2 ^ a) 2, Nat.mul_assoc] at h
  omega
 | a + 1, b, a' + 1, b', h => by
  simp only [pairN, Nat.pow_succ] at h
  rw [Nat.mul_comm (2 ^ a) 2, Nat.mul_comm (2 ^ a') 2, Nat.mul_assoc, Nat.mul_assoc] at h
  have h : pairN a b = pairN a' b' := by unfold pairN; omega
  obtain ⟨h1, h2⟩ := qm9_ h
  exact ⟨by rw [h1], h2⟩
def encN (b d n : Nat) : Nat := pairN b (pairN d n)
theorem encN_inj {b d n b' d' n' : Nat} (h : encN b d n = encN b' d' n') : b = b' ∧ d = d' ∧ n = n' := by
 obtain ⟨h1, h2⟩ := qm9_ h
 obtain ⟨h3, h4⟩ := qm9_ h2
 exact ⟨h1, h3, h4⟩
class Nest where
 nest : Nat → Option (Nat × Nat × List Value)
structure NL [Nest] where
 num : Nat
 cap : Nat
 l : List Int
 ok : l = [] ∨ ∃ b d, Nest.nest num = some (b, d, iv l)
 le : l.length ≤ 9223372036854775807
def nl0 [Nest] : NL := ⟨0, 0, [], .inl rfl, by decide⟩
def nlV [Nest] (x : NL) : Value := .slice (some ⟨Nat.add x.num 64, 0, some 1⟩) x.l.length x.cap
def nlQ [Nest] (l : List NL) : Value :=
 match l with
 | [] => .slice none 0 0
 | a :: _ => nlV a
def IntsAtW (w : World) (b d : Nat) (l : List Int) : Prop := ∀ j, j < l.length → w.cell? ⟨b, d + j, none⟩ = some (.int .i64 (l.getD j 0))
open Classical in
@[reducible] noncomputable def nestOf (w : World) : Nest := ⟨fun k =>
 if h : ∃ t : Nat × Nat × List Int, encN t.1 t.2.1 t.2.2.length = k ∧ IntsAtW w t.1 t.2.1 t.2.2 then some (h.choose.1, h.choose.2.1, iv h.choose.2.2) else none⟩
theorem IntsAtW.same {w : World} {b d : Nat} {l m : List Int} (h : IntsAtW w b d l) (k : IntsAtW w b d m) (hl : l.length = m.length) : l = m := by
 refine List.ext_getElem hl fun i h1 h2 => ?_
 have a := h i h1
 have c := k i h2
 rw [a] at c
 have := Option.some.inj c
 injection this with _ this
 simpa [List.getD_eq_getElem?_getD, h1, h2] using this
theorem nestOf_enc {w : World} {b d : Nat} {l : List Int} (h : IntsAtW w b d l) : (nestOf w).nest (encN b d l.length) = some (b, d, iv l) := by
 have hex : ∃ t : Nat × Nat × List Int, encN t.1 t.2.1 t.2.2.length = encN b d l.length ∧ IntsAtW w t.1 t.2.1 t.2.2 := ⟨(b, d, l), rfl, h⟩
 unfold nestOf
 simp only [dif_pos hex]
 obtain ⟨h1, h2⟩ := hex.choose_spec
 obtain ⟨e1, e2, e3⟩ := encN_inj h1
 rw [e1, e2] at h2
 rw [e1, e2, h2.same h e3]
theorem nestOf_win {w : World} {k b d : Nat} {c : List Value} (h : (nestOf w).nest k = some (b, d, c)) : ∃ l, c = iv l ∧ IntsAtW w b d l := by
 unfold nestOf at h
 simp only at h
 split at h
 ·rename_i hex
  have h := Option.some.inj h
  injection h with h1 h2
  injection h2 with h2 h3
  subst h1 h2 h3
  exact ⟨_, rfl, hex.choose_spec.2⟩
 ·cases h
def CR [Nest] (w : World) (v v' : Value) : Prop := (v' = v ∧ flat v = true) ∨ ∃ x : NL, v = nlV x ∧ IntsV w v' x.l ∧ x.cap = capOf v' ∧ (x.l ≠ [] → Nest.nest x.num = some ((winAt v' x.l).1, (winAt v' x.l).2, iv x.l))
inductive CRs [Nest] (w : World) : List Value → List Value → Prop
 | nil : CRs w [] []
 | cons {v v' : Value} {l l' : List Value} (h : CR w v v') (hl : CRs w l l') : CRs w (v :: l) (v' :: l')
theorem CRs.get [Nest] {w : World} {l l' : List Value} (h : CRs w l l') : ∀ (i : Nat) (v : Value), l[i]? = some v → ∃ v', l'[i]? = some v' ∧ CR w v v' := by
 induction h with
 | nil => intro i v hv; simp at hv
 | cons hv _ ih =>
  intro i u hu
  cases i with
  | zero =>
   simp at hu
   subst hu
   exact ⟨_, by simp, hv⟩
  | succ i => simpa using ih i u (by simpa using hu)
theorem CR.ints {w : World} {v' : Value} {xs : List Int} (h : IntsV w v' xs) : ∃ x : @NL (nestOf w), @NL.l (nestOf w) x = xs ∧ @CR (nestOf w) w (@nlV (nestOf w) x) v' := by
 letI := nestOf w
 by_cases hx : xs = []
 ·subst hx
  exact ⟨⟨0, capOf v', [], .inl rfl, by decide⟩, rfl, .inr ⟨_, rfl, h, rfl, fun hn => absurd rfl hn⟩⟩
 ·obtain ⟨a, cap, rfl, hc, hl, h1⟩ := id h
  obtain ⟨b, off, rfl, hcell⟩ := h1.resolve_left hx
  have hn := nestOf_enc (w := w) (b := b) (d := off) (l := xs) hcell
  refine ⟨⟨encN b off xs.length, cap, xs, .inr ⟨b, off, hn⟩, h.len⟩, rfl, .inr ⟨_, rfl, h, rfl, fun _ => ?_⟩⟩
  cases xs with
  | nil => exact absurd rfl hx
  | cons z l => exact hn
theorem CR.vr [Nest] {T : Tabs} (hT : ∀ k y, Nest.nest k = some y → Tabs.win (Nat.add k 64) = some y) {w : World} {v v' : Value} (h : CR w v v') (σ : Ren) : VR σ v v' := by
 rcases h with ⟨rfl, hf⟩ | ⟨x, rfl, hi, hc, hn⟩
 ·exact qd3_ hf σ
 ·obtain ⟨a, cap, rfl, h1, h2, h3⟩ := hi
  have hb : cap < big := Nat.lt_of_le_of_lt h1 (by decide)
  have e : x.cap = cap := hc
  unfold nlV
  rw [e]
  by_cases hx : x.l = []
  ·rw [hx]
   exact .win0 _ 0 cap a hb
  ·obtain ⟨b, off, rfl, _⟩ := h3.resolve_left hx
   have hn := hT _ _ (hn hx)
   have ew : winAt (.slice (some ⟨b, off, none⟩) x.l.length cap) x.l = (b, off) := by
    cases hl : x.l with
    | nil => exact absurd hl hx
    | cons z l => rfl
   rw [ew] at hn
   exact VR.winS 0 x.l.length cap hn hb h2
inductive LK where
 | i
 | b
 | s
 | u
 | y
 | L
def okC (w : World) (k : LK) (v : Value) : Prop :=
 match k with
 | .i => ∃ z, v = .int .i64 z
 | .b => ∃ z, v = .bool z
 | .s => ∃ z, v = .string z
 | .u => ∃ z, v = .int .u64 z
 | .y => ∃ z, v = .int .u8 z
 | .L => ∃ xs, IntsV w v xs
inductive okL (w : World) : List LK → List Value → Prop
 | nil : okL w [] []
 | cons {k : LK} {v : Value} {ks : List LK} {vs : List Value} (h : okC w k v) (hl : okL w ks vs) : okL w (k :: ks) (v :: vs)
theorem okL.append {w : World} {a b : List LK} {x y : List Value} (h : okL w a x) (k : okL w b y) : okL w (a ++ b) (x ++ y) := by
 induction h with
 | nil => exact k
 | cons h _ ih => exact .cons h ih
theorem okL.length {w : World} {a : List LK} {x : List Value} (h : okL w a x) : x.length = a.length := by
 induction h with
 | nil => rfl
 | cons _ _ ih => simp [ih]
def kindsF (P : Program) (K : TypeId → Option (List LK)) : Nat → List Field → Option (List LK)
 | _, [] => some []
 | off, f :: fs => match K f.type with
  | none => none
  | some ks => if f.offset = off ∧ P.cellsOf f.type = ks.length then (match kindsF P K (off + ks.length) fs with
   | none => none
   | some r => some (ks ++ r)) else none
def kindsT (P : Program) : Nat → TypeId → Option (List LK)
 | 0, _ => none
 | d + 1, t => match P.underlying t with
  | some (.int .i64) => some [.i]
  | some (.int .u64) => some [.u]
  | some (.int .u8) => some [.y]
  | some .bool => some [.b]
  | some .string => some [.s]
  | some (.slice e) => (match P.underlying e with
   | some (.int .i64) => if P.cellsOf e = 1 then some [.L] else none
   | _ => none)
  | some (.struct fs) => match kindsF P (kindsT P d) 0 fs.toList with
   | none => none
   | some ks => if P.cellsOf t = ks.length then some ks else none
  | _ => none
variable {H : Type} {enc : TypeId × Value → H} {P : Program} {w : World} {held : Bool}
theorem ql6_ {K : TypeId → Option (List LK)} {n : Nat} {cs : List Value} (hK : ∀ t ks, K t = some ks → ∀ cs x, DataW.trod enc P w 0 (fun _ => true) held n t cs = some x → okL w ks cs) : ∀ (fs : List Field) (off : Nat) (ks : List LK), kindsF P K off fs = some ks →
  (∀ f ∈ fs, ∃ y, DataW.trod enc P w 0 (fun _ => true) held n f.type ((cs.drop f.offset).take (P.cellsOf f.type)) = some y) → okL w ks ((cs.drop off).take ks.length)
 | [], off, ks, h, _ => by
  obtain rfl := Option.some.inj h
  simp
  exact .nil
 | f :: fs, off, ks, h, hf => by
  unfold kindsF at h
  split at h
  ·cases h
  ·rename_i k1 h1
   split at h
   ·rename_i hc
    split at h
    ·cases h
    ·rename_i r hr
     obtain rfl := Option.some.inj h
     obtain ⟨y, hy⟩ := hf f (by simp)
     have a := hK f.type k1 h1 _ _ hy
     rw [hc.1, hc.2] at a
     have b := ql6_ hK fs (off + k1.length) r hr (fun g hg => hf g (by simp [hg]))
     rw [List.length_append, List.take_add, List.drop_drop]
     exact a.append b
   ·cases h
theorem fits_trod : ∀ (d : Nat) (t : TypeId) (ks : List LK), kindsT P d t = some ks → ∀ (m : Nat) (cs : List Value) (x : DataW H × List MemPlace), DataW.trod enc P w 0 (fun _ => true) held m t cs = some x → okL w ks cs
 | 0, t, ks, h => by cases h
 | d + 1, t, ks, h => by
  intro m cs x hx
  unfold kindsT at h
  split at h
  ·rename_i hu
   obtain rfl := Option.some.inj h
   obtain ⟨n, rfl, _⟩ := DataW.trod_int hu hx
   exact .cons ⟨n, rfl⟩ .nil
  ·rename_i hu
   obtain rfl := Option.some.inj h
   obtain ⟨n, rfl, _⟩ := DataW.trod_int hu hx
   exact .cons ⟨n, rfl⟩ .nil
  ·rename_i hu
   obtain rfl := Option.some.inj h
   obtain ⟨n, rfl, _⟩ := DataW.trod_int hu hx
   exact .cons ⟨n, rfl⟩ .nil
  ·rename_i hu
   obtain rfl := Option.some.inj h
   obtain ⟨n, rfl, _⟩ := DataW.trod_bool hu hx
   exact .cons ⟨n, rfl⟩ .nil
  ·rename_i hu
   obtain rfl := Option.some.inj h
   obtain ⟨n, rfl, _⟩ := DataW.trod_string hu hx
   exact .cons ⟨n, rfl⟩ .nil
  ·rename_i e hu
   split at h
   ·rename_i he
    split at h
    ·rename_i hc
     obtain rfl := Option.some.inj h
     have hv : ∃ v, cs = [v] := by
      rcases DataW.trod_slice hu hx with ⟨hcs, -⟩ | ⟨a, len, cap, elems, rest, n, _, hcs, _⟩
      ·exact ⟨_, hcs⟩
      ·exact ⟨_, hcs⟩
     obtain ⟨v, rfl⟩ := hv
     exact .cons (openIntsT hu he hc hx) .nil
    ·cases h
   ·cases h
  ·rename_i fs hu
   split at h
   ·cases h
   ·rename_i kk hk
    split at h
    ·rename_i hc
     obtain rfl := Option.some.inj h
     obtain ⟨xs, n, _, rfl, hl, hlen, hf⟩ := DataW.trod_struct hu hx
     have := ql6_ (n := n) (cs := cs) (fun t ks h cs x hx => fits_trod d t ks h n cs x hx) fs.toList 0 kk hk (fun f hfm => by
      obtain ⟨i, hi, rfl⟩ := List.mem_iff_getElem.1 hfm
      have hi' : i < fs.size := by simpa using hi
      have := hf i fs[i] (by simp [hi'])
      refine ⟨xs[i]'(by omega), ?_⟩
      simp only [Array.getElem_toList]
      rw [this]; simp [hlen, hi'])
     rw [List.drop_zero, ← hc, ← hl, List.take_length] at this
     exact this
    ·cases h
  ·cases h
def RowsV [Nest] {α : Type} (f : α → List Value) (w : World) (v : Value) (L : List α) : Prop :=
 ∃ a cap, v = .slice a L.length cap ∧ cap ≤ maxLen ∧ L.length ≤ cap ∧ (L = [] ∨ ∃ b off, a = some ⟨b, off, none⟩ ∧ ∀ j u, (rows f L)[j]? = some u → ∃ u', w.cell? ⟨b, off + j, none⟩ = some u' ∧ CR w u u')
theorem addr_add (b off n : Nat) : (⟨b, off, none⟩ : Addr).add n = ⟨b, off + n, none⟩ := by
 unfold Addr.add
 split
 ·rename_i h; subst h; rfl
 ·rfl
theorem openRowsN [Nest] {α : Type} [Tabs] {f : α → List Value} {k : Nat} (hf : RowF f k) {ks : List LK} (hdec : ∀ cs, okL w ks cs → ∃ a, CRs w (f a) cs) {t e : TypeId} {m d : Nat} {v : Value} {x : DataW H × List MemPlace} (hk0 : 0 < k) (ht : P.underlying t = some (.slice e)) (he : kindsT P d e = some ks) (hc : P.cellsOf e = k)
  (h : DataW.trod enc P w 0 (fun _ => true) held m t [v] = some x) : ∃ L, RowsV f w v L := by
 rcases DataW.trod_slice ht h with ⟨hcs, -⟩ | ⟨a, len, cap, elems, rest, n, _, hcs, _, _, hl, hm, hlen, hel, _⟩
 ·obtain rfl : v = .slice none 0 0 := by simpa using hcs
  exact ⟨[], none, 0, rfl, Nat.zero_le _, Nat.zero_le _, .inl rfl⟩
 ·obtain rfl : v = .slice (some a) len cap := by simpa using hcs
  rw [hc] at hel
  have each : ∀ i u, (List.range len)[i]? = some u → ∃ r : α, ∃ cs, w.cells? 0 (a.add (i * k)) k = some cs ∧ CRs w (f r) cs := by
   intro i u hu
   have hi : i < len := by
    rcases Nat.lt_or_ge i len with h | h
    ·exact h
    ·rw [List.getElem?_eq_none (by simpa using h)] at hu; cases hu
   have h1 := hel i hi
   rw [List.getElem?_eq_getElem (by omega : i < elems.length)] at h1
   obtain ⟨cs, h2, h3⟩ := Option.bind_eq_some_iff.1 h1
   obtain ⟨r, hr⟩ := hdec cs (fits_trod d e ks he n cs _ h3)
   exact ⟨r, cs, h2, hr⟩
  obtain ⟨L, hL0, hL⟩ := qhp_ (List.range len) (Q := fun i _ (r : α) => ∃ cs, w.cells? 0 (a.add (i * k)) k = some cs ∧ CRs w (f r) cs) each
  have hLl : L.length = len := by simpa using hL0
  have hrow : ∀ i (hi : i < len), ∃ cs, w.cells? 0 (a.add (i * k)) k = some cs ∧ CRs w (f (L[i]'(by omega))) cs := fun i hi => hL i i _ (by simp [hi]) (List.getElem?_eq_getElem (by omega))
  refine ⟨L, some a, cap, by rw [hLl], hm, by rw [hLl]; omega, ?_⟩
  by_cases hz : len = 0
  ·left
   exact List.length_eq_zero_iff.1 (by rw [hLl]; exact hz)
  right
  obtain ⟨b, off, spot⟩ := a
  obtain ⟨cs0, hc0, hr0⟩ := hrow 0 (by omega)
  obtain ⟨_, hln0, hget0⟩ := World.cells?_some hc0
  have h00 := hget0 0 hk0
  have hspot : spot = none := by
   obtain ⟨u, hu⟩ : ∃ u, cs0[0]? = some u := ⟨cs0[0]'(by omega), by simp⟩
   rw [hu] at h00
   simpa [Addr.add] using World.cell?_spot h00
  subst hspot
  refine ⟨b, off, rfl, fun j u hj => ?_⟩
  have hjl : j < len * k := by
   rcases Nat.lt_or_ge j (rows f L).length with h | h
   ·rwa [qeb_ hf, hLl] at h
   ·rw [List.getElem?_eq_none h] at hj; cases hj
  have hi : j / k < len := Nat.div_lt_of_lt_mul (by rwa [Nat.mul_comm] at hjl)
  have hq : j % k < k := Nat.mod_lt _ hk0
  have hjk : j / k * k + j % k = j := by rw [Nat.mul_comm]; exact Nat.div_add_mod j k
  obtain ⟨cs, r1, r2⟩ := hrow (j / k) hi
  obtain ⟨_, hln, hget⟩ := World.cells?_some r1
  have hg := hget (j % k) hq
  rw [addr_add, addr_add] at hg
  have hLg : L.getD (j / k) (L[j / k]'(by omega)) = L[j / k]'(by omega) := by simp [List.getD_eq_getElem?_getD, hLl, hi]
  rw [← hjk, qh3_ hf (L[j / k]'(by omega)) L (j / k) (j % k) (by omega) hq, hLg] at hj
  obtain ⟨u', hu', hcr⟩ := r2.get _ _ hj
  rw [hu'] at hg
  exact ⟨u', by rw [← hjk, ← Nat.add_assoc]; exact hg, hcr⟩
theorem RowsV.len [Nest] {α : Type} {f : α → List Value} {w : World} {v : Value} {L : List α} (h : RowsV f w v L) : L.length ≤ 9223372036854775807 := by
 obtain ⟨a, cap, rfl, hc, hl, -⟩ := h
 exact Nat.le_trans (Nat.le_trans hl hc) (by decide)
theorem RowsV.win [Nest] {α : Type} [Tabs] {f : α → List Value} {v : Value} {L : List α} (h : RowsV f w v L) (w' : World) (hk : (winAt v (L.map fun _ => 0)).1 < w.heap.size → w'.heap[(winAt v (L.map fun _ => 0)).1]? = w.heap[(winAt v (L.map fun _ => 0)).1]?) (i : Nat) (u : Value) (hi : (rows f L)[i]? = some u) :
  ∃ u', w'.cell? ⟨(winAt v (L.map fun _ => 0)).1, (winAt v (L.map fun _ => 0)).2 + i, none⟩ = some u' ∧ CR w u u' := by
 obtain ⟨a, cap, rfl, hc, hl, h⟩ := h
 rcases h with rfl | ⟨b, off, rfl, hx⟩
 ·simp [rows] at hi
 ·cases L with
  | nil => simp [rows] at hi
  | cons z l =>
   obtain ⟨u', hx, hcr⟩ := hx i u hi
   have hb : b < w.heap.size := World.block_lt_of_cell? w _ hx
   have hk : w'.heap[b]? = w.heap[b]? := hk hb
   refine ⟨u', ?_, hcr⟩
   show w'.cell? ⟨b, off + i, none⟩ = _
   rw [← hx]
   simp only [World.cell?, hk]
theorem RowsV.vr [Nest] {T : Tabs} {α : Type} {f : α → List Value} {v : Value} {L : List α} (h : RowsV f w v L) {j : Nat} (hj : Tabs.win j = some ((winAt v (L.map fun _ => 0)).1, (winAt v (L.map fun _ => 0)).2, rows f L)) (σ : Ren) : VR σ (.slice (some ⟨j, 0, some 1⟩) L.length (capOf v)) v := by
 obtain ⟨a, cap, rfl, hc, hl, h⟩ := h
 have hb : cap < big := Nat.lt_of_le_of_lt hc (by decide)
 rcases h with rfl | ⟨b, off, rfl, hx⟩
 ·exact .win0 j 0 cap a hb
 ·cases L with
  | nil => exact .win0 j 0 cap _ hb
  | cons z l =>
   have := VR.winS (σ := σ) 0 (z :: l).length cap hj hb hl
   exact this
theorem nestOf_cells {w w' : World} {k b d : Nat} {c : List Value} (h : (nestOf w).nest k = some (b, d, c)) (hk : b < w.heap.size → w'.heap[b]? = w.heap[b]?) (i : Nat) (u : Value) (hi : c[i]? = some u) : ∃ u', w'.cell? ⟨b, d + i, none⟩ = some u' ∧ (u' = u ∧ flat u = true) := by
 obtain ⟨l, rfl, hl⟩ := nestOf_win h
 have hi' : i < l.length ∧ u = .int .i64 (l.getD i 0) := by
  simp only [iv, List.getElem?_map, Option.map_eq_some_iff] at hi
  obtain ⟨z, hz, rfl⟩ := hi
  have hlt : i < l.length := by
   rcases Nat.lt_or_ge i l.length with h | h
   ·exact h
   ·rw [List.getElem?_eq_none h] at hz; cases hz
  exact ⟨hlt, by rw [List.getD_eq_getElem?_getD, hz]; rfl⟩
 obtain ⟨hlt, rfl⟩ := hi'
 have hx := hl i hlt
 have hb : b < w.heap.size := World.block_lt_of_cell? w _ hx
 have hk := hk hb
 refine ⟨_, ?_, rfl, rfl⟩
 rw [← hx]
 simp only [World.cell?, hk]
end Go.Proofs.YtmjibnlojmdcgaaGreatDoor.Ax
