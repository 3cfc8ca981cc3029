/-
  slices.Sorted(maps.Keys(m)), m's keys strings: in one step, by contracts of these two functions that are premises. Own work, plain lemmas.
-/
import Derived.Test.YthomkiindjhdmaaAxX
import Derived.Sort.KeysCollected
set_option linter.unusedSimpArgs false
set_option linter.unusedVariables false
set_option linter.unnecessarySimpa false
set_option linter.deprecated false
set_option linter.unusedSectionVars false
namespace Go.Proofs.Ythomkiindjhdmaa.Ax
open Go.RowKit
variable [Tabs]
open Go.Proofs (encStr)

/-- numbers: maps.Keys, slices.Sorted, the iterator, the keys' type, the map's type -/
structure SK where
  fk : FuncId
  fs : FuncId
  fi : FuncId
  kt : TypeId
  bt : TypeId
def R0 : Value → Option (DataW Unit × List MemPlace) := fun _ => some (.nil, [])
def KeysOK (P : Program) (s : SK) : Prop :=
  ∀ (mb : Option Nat) (w : World), Calls P s.fk #[.map mb] w fun e w' => e = .returned (.func (.func s.fi) #[] #[.pointer (some ⟨w.heap.size, 0, none⟩)]) ∧ w' = w.alloc (.cells #[.map mb] s.bt)
def SortedOK (P : Program) (s : SK) : Prop :=
  ∀ (pb b nn : Nat) (D0 : DataW Unit) (w : World), pb < w.heap.size → w.cell? ⟨pb, 0, none⟩ = some (.map (some b)) → w.ownsMap P s.kt R0 b nn D0 → Maps.size D0 ≤ maxLen → Maps.size D0 * 16 ≤ 140737488355328 →
    Calls P s.fs #[.func (.func s.fi) #[] #[.pointer (some ⟨pb, 0, none⟩)]] w fun e w' => ∃ (v : Value) (ss : List (List UInt8)), e = .returned v ∧ ss.Perm (strKeys D0) ∧
      w'.ownsRow w.heap.size s.kt 1 v ss.length ((ss.mergeSort leB).map encStr) ∧ (v = .slice none 0 0 ↔ ss = []) ∧ Below w.heap.size w w'
noncomputable def liveF (P : Program) (f : FuncId) : Bool := oc (P.funcs[f]?) false fun fd => !(fd.name == "runtime.NumGoroutine") && !(fd.body.isNone)
structure SKOK (P : Program) (s : SK) : Prop where
  str : P.underlying s.kt = some .string
  keys : KeysOK P s
  sorted : SortedOK P s
  live1 : liveF P s.fk = true
  live2 : liveF P s.fs = true
theorem liveF_go {P : Program} {f : FuncId} (h : liveF P f = true) : ∃ fd, P.funcs[f]? = some fd ∧ (fd.name == "runtime.NumGoroutine") = false ∧ fd.body.isNone = false := by
  unfold liveF at h
  cases hf : P.funcs[f]? with
  | none => rw [hf] at h; cases h
  | some fd =>
    rw [hf] at h
    have h : (!(fd.name == "runtime.NumGoroutine") && !(fd.body.isNone)) = true := h
    simp only [Bool.and_eq_true, Bool.not_eq_true'] at h
    exact ⟨fd, rfl, h⟩

/-! the keys, sorted -/
def kBytes (v : Value) : Option (List UInt8) :=
  match v with
  | .string s => some s.data.toList
  | _ => none
noncomputable def kAll : List MapEntry → Option (List (List UInt8))
  | [] => some []
  | e :: l => oc (kBytes e.key) none fun x => oc (kAll l) none fun k => some (x :: k)
def ltB : List UInt8 → List UInt8 → Bool
  | _, [] => false
  | [], _ :: _ => true
  | a :: l, b :: k => Nat.blt a.toNat b.toNat || (Nat.beq a.toNat b.toNat && ltB l k)
theorem ltB_lt : ∀ {x y : List UInt8}, ltB x y = true → x < y
  | _, [], h => by cases ‹List UInt8› <;> cases h
  | [], _ :: _, _ => List.nil_lt_cons _ _
  | a :: l, b :: k, h => by
    simp only [ltB, Bool.or_eq_true, Bool.and_eq_true] at h
    rw [List.cons_lt_cons_iff]
    rcases h with h | ⟨h1, h2⟩
    · exact .inl (UInt8.lt_iff_toNat_lt.2 (blt_lt h))
    · exact .inr ⟨UInt8.toNat_inj.1 (Nat.eq_of_beq_eq_true h1), ltB_lt h2⟩
def insB (x : List UInt8) : List (List UInt8) → List (List UInt8)
  | [] => [x]
  | y :: l => bif ltB x y then x :: y :: l else y :: insB x l
def sortB : List (List UInt8) → List (List UInt8)
  | [] => []
  | x :: l => insB x (sortB l)
theorem insB_perm (x : List UInt8) : ∀ l, (insB x l).Perm (x :: l)
  | [] => .refl _
  | y :: l => by
    unfold insB
    cases ltB x y
    · exact ((insB_perm x l).cons y).trans (.swap x y l)
    · exact .refl _
theorem sortB_perm : ∀ l, (sortB l).Perm l
  | [] => .refl _
  | x :: l => (insB_perm x _).trans ((sortB_perm l).cons x)
def ascB : List (List UInt8) → Bool
  | x :: y :: l => ltB x y && ascB (y :: l)
  | _ => true
theorem ascB_all : ∀ {l : List (List UInt8)} {x : List UInt8}, ascB (x :: l) = true → ∀ z ∈ l, x < z
  | [], _, _, z, hz => by cases hz
  | y :: l, x, h, z, hz => by
    simp only [ascB, Bool.and_eq_true] at h
    have h1 := ltB_lt h.1
    rcases List.mem_cons.1 hz with rfl | hz
    · exact h1
    · exact List.lt_trans h1 (ascB_all h.2 z hz)
theorem ascB_pairwise : ∀ {l : List (List UInt8)}, ascB l = true → l.Pairwise (fun a b => a < b)
  | [], _ => .nil
  | [x], _ => .cons (fun z hz => by cases hz) .nil
  | x :: y :: l, h => by
    refine .cons (ascB_all h) (ascB_pairwise ?_)
    simp only [ascB, Bool.and_eq_true] at h
    exact h.2
theorem mergeSort_asc {l ss : List (List UInt8)} (h : ascB l = true) (hp : ss.Perm l) : ss.mergeSort leB = l := by
  rw [mergeSort_of_perm hp]
  refine List.mergeSort_of_pairwise ((ascB_pairwise h).imp fun hab => ?_)
  simp only [leB, decide_eq_true_eq]
  exact List.le_of_lt hab
def memN (x : Nat) : List Nat → Bool
  | [] => false
  | y :: l => Nat.beq x y || memN x l
theorem memN_not {x : Nat} : ∀ {l : List Nat}, memN x l = false → x ∉ l
  | [], _ => by simp
  | y :: l, h => by
    simp only [memN, Bool.or_eq_false_iff] at h
    rw [List.mem_cons]
    rintro (rfl | h2)
    · rw [Nat.beq_refl] at h; exact absurd h.1 (by simp)
    · exact memN_not h.2 h2
def nodN : List Nat → Bool
  | [] => true
  | x :: l => !(memN x l) && nodN l
theorem nodN_nodup : ∀ {l : List Nat}, nodN l = true → l.Nodup
  | [], _ => List.nodup_nil
  | x :: l, h => by
    simp only [nodN, Bool.and_eq_true, Bool.not_eq_true'] at h
    exact List.nodup_cons.2 ⟨memN_not h.1, nodN_nodup h.2⟩
def bornL (clock : Nat) : List MapEntry → Bool
  | [] => true
  | e :: l => Nat.blt e.born clock && bornL clock l
def lensL : List (List UInt8) → Bool
  | [] => true
  | x :: l => Nat.ble x.length 9223372036854775807 && lensL l
noncomputable def okSK (ks : List (List UInt8)) : Bool := ascB ks && (lensL ks && fits ks.length 16)
theorem kAll_key : ∀ {es : List MapEntry} {l : List (List UInt8)}, kAll es = some l → es.map (·.key) = l.map encStr
  | [], l, h => by obtain rfl := Option.some.inj h; rfl
  | e :: es, l, h => by
    obtain ⟨x, hx, h⟩ := oc_eq_some h
    obtain ⟨k, hk, h⟩ := oc_eq_some h
    obtain rfl := Option.some.inj h
    rw [List.map_cons, List.map_cons, kAll_key hk]
    congr 1
    unfold kBytes at hx
    split at hx
    · rename_i s e1
      obtain rfl := Option.some.inj hx
      rw [e1]
    · cases hx
theorem MRs.keys {σ : Ren} {es es' : List MapEntry} (h : MRs σ es es') : es'.map (·.key) = es.map (·.key) := by
  induction h with
  | nil => rfl
  | cons hk _ _ ih => simp [hk, ih]
theorem encStr_injective {l k : List (List UInt8)} (h : l.map encStr = k.map encStr) : l = k := by
  induction l generalizing k with
  | nil => cases k with
    | nil => rfl
    | cons _ _ => cases h
  | cons x l ih =>
    cases k with
    | nil => cases h
    | cons y k =>
      simp only [List.map_cons, List.cons.injEq] at h
      rw [encStr_inj h.1, ih h.2]

def decStr (v : Value) : List UInt8 :=
  match v with
  | .string s => s.data.toList
  | _ => []
theorem dec_enc (x : List UInt8) : decStr (encStr x) = x := rfl
theorem owns_of {P : Program} {kt : TypeId} (hk : P.underlying kt = some .string) {σ : Ren} {es : List MapEntry} {ES : List MapEntry} {clock : Nat} {l : List (List UInt8)} (hm : MPs σ es ES clock) (hl : kAll es = some l) (hok : okSK (sortB l) = true) {w : World} {b : Nat} (hb : w.heap[b]? = some (.map ⟨ES⟩ clock)) :
    ∃ D0 : DataW Unit, w.ownsMap P kt R0 b ES.length D0 ∧ l.Perm (strKeys D0) ∧ Maps.size D0 = l.length := by
  simp only [okSK, Bool.and_eq_true] at hok
  obtain ⟨o3, o4, o5⟩ := hok
  obtain ⟨⟨L, hLp, hLr⟩, hnod, hold⟩ := hm
  have hkeyP : (ES.map (·.key)).Perm (l.map encStr) := by
    have e1 := hLr.keys
    rw [kAll_key hl] at e1
    rw [← e1]
    exact (hLp.map _).symm
  obtain ⟨l2, hl2, hkeyE⟩ : ∃ l2 : List (List UInt8), l2.Perm l ∧ ES.map (·.key) = l2.map encStr := by
    have hmem : ∀ x ∈ ES.map (·.key), ∃ y, encStr y = x := fun x hx => by
      obtain ⟨y, _, he⟩ := List.mem_map.1 (hkeyP.mem_iff.1 hx)
      exact ⟨y, he⟩
    generalize ES.map (·.key) = ks at hkeyP hmem
    obtain ⟨l2, h2⟩ : ∃ l2 : List (List UInt8), ks = l2.map encStr := by
      clear hkeyP
      induction ks with
      | nil => exact ⟨[], rfl⟩
      | cons k ks ih =>
        obtain ⟨y, hy⟩ := hmem k (List.mem_cons_self ..)
        obtain ⟨l2, h2⟩ := ih fun x hx => hmem x (List.mem_cons_of_mem _ hx)
        exact ⟨y :: l2, by rw [List.map_cons, hy, h2]⟩
    refine ⟨l2, ?_, h2⟩
    rw [h2] at hkeyP
    have h3 := hkeyP.map decStr
    rw [List.map_map, List.map_map] at h3
    have e : ∀ m : List (List UInt8), m.map (decStr ∘ encStr) = m := fun m => by
      have : (decStr ∘ encStr) = id := by funext x; exact dec_enc x
      rw [this, List.map_id]
    rwa [e, e] at h3
  suffices hres : ∃ D0 : DataW Unit, w.ownsMap P kt R0 b ES.length D0 ∧ l2.Perm (strKeys D0) ∧ Maps.size D0 = l2.length by
    obtain ⟨D0, q1, q2, q3⟩ := hres
    exact ⟨D0, q1, hl2.symm.trans q2, q3.trans hl2.length_eq⟩
  have hsort : (sortB l).Perm l2 := (sortB_perm l).trans hl2.symm
  generalize sortB l = sl at hsort o3 o4 o5
  clear hkeyP hLp hLr hl hl2
  have hlen' : ES.length = l2.length := by have := congrArg List.length hkeyE; simpa using this
  clear l
  revert hkeyE hsort hlen'
  generalize l2 = l
  intro hkeyE hsort hlen'
  have hsz : ∀ x ∈ l, x.length ≤ maxLen := by
    intro x hx
    have hx' := hsort.mem_iff.2 hx
    clear o3 o5 hsort
    induction sl with
    | nil => cases hx'
    | cons y ks ih =>
      simp only [lensL, Bool.and_eq_true] at o4
      rcases List.mem_cons.1 hx' with rfl | h
      · exact Nat.le_of_ble_eq_true o4.1
      · exact ih o4.2 h
  have hrd : ∀ x ∈ ES, ∃ y ∈ l, x.key = encStr y ∧ Go.WideElems.rd (H := Unit) P kt R0 x = some (.string y, .nil) := by
    intro x hx
    have : x.key ∈ ES.map (·.key) := List.mem_map.2 ⟨x, hx, rfl⟩
    rw [hkeyE] at this
    obtain ⟨y, hy, he⟩ := List.mem_map.1 this
    refine ⟨y, hy, he.symm, ?_⟩
    have hz : keyOf P kt x.key = some (.string y) := by
      rw [← he]
      have := Go.WideMaps.keyOf_string_mk (P := P) hk (s := ⟨⟨y⟩⟩) (by simpa [ByteArray.size] using hsz y hy)
      simpa [encStr] using this
    simp [Go.WideElems.rd, hz, R0]
  have hrg : ES.map (Go.WideElems.rg (H := Unit) P kt R0) = l.map fun y => (.string y, .nil) := by
    have : ∀ x ∈ ES, x.key = encStr (strOf (Go.WideElems.rg (H := Unit) P kt R0 x).1) ∧ Go.WideElems.rg (H := Unit) P kt R0 x = (.string (strOf (Go.WideElems.rg (H := Unit) P kt R0 x).1), .nil) := by
      intro x hx
      obtain ⟨y, _, h1, h2⟩ := hrd x hx
      simp [Go.WideElems.rg, h2, strOf, h1]
    have e1 : (ES.map fun x => strOf (Go.WideElems.rg (H := Unit) P kt R0 x).1) = l := by
      refine encStr_injective ?_
      rw [List.map_map, ← hkeyE]
      exact List.map_congr_left fun x hx => (this x hx).1.symm
    rw [← e1, List.map_map]
    exact List.map_congr_left fun x hx => (this x hx).2
  have hperm := Go.WideShapes.sorted_perm (ES.map (Go.WideElems.rg (H := Unit) P kt R0))
  rw [hrg] at hperm
  refine ⟨.map ((ES.map (Go.WideElems.rg P kt R0)).foldr DataW.insert []), ⟨⟨ES⟩, clock, hb, ⟨?_, ⟨?_, ?_, ?_⟩, ?_⟩, by simp, by simp⟩, ?_, ?_⟩
  · show ES.length ≤ maxLen
    rw [hlen']
    simp only [fits, Bool.and_eq_true] at o5
    have := Nat.le_of_ble_eq_true o5.2
    rw [hsort.length_eq] at this
    exact this
  · intro x hx
    exact hold x (by simpa using hx)
  · exact hnod
  · show (ES.map (·.key)).Nodup
    rw [hkeyE]
    have : l.Nodup := (hsort.nodup_iff).1 ((ascB_pairwise o3).imp fun h e => by subst e; exact absurd h (List.lt_irrefl _))
    exact List.pairwise_map.2 (this.imp fun hne e => hne (encStr_inj e))
  · intro x hx
    obtain ⟨y, _, _, h2⟩ := hrd x (by simpa using hx)
    exact ⟨_, h2⟩
  · rw [hrg]
    have h2 := hperm.map fun p => strOf p.1
    rw [List.map_map] at h2
    have e : l.map ((fun p : Lit × DataW Unit => strOf p.1) ∘ fun y => (.string y, .nil)) = l := by simp [Function.comp_def, strOf]
    rw [e] at h2
    exact h2.symm
  · show List.length _ = _
    rw [hrg, hperm.length_eq, List.length_map]

/-! a later world -/
theorem HR.later {n0 : Bs} {σ : Ren} {H : AH} {w w' : World} (hr : HR n0 σ H w) (hb : Below w.heap.size w w') : HR n0 σ H w' ∧ ∀ low, Step n0 σ w low σ w' := by
  refine ⟨⟨base_size hr.base hb.size (fun k hk => hb.block k (Nat.lt_of_lt_of_le hk hr.base.1)), fun b x h => ?_, hr.inj, hr.dom, fun b c d m h => Nat.lt_of_lt_of_le (hr.img b c d m h) hb.size, hr.hol⟩, fun low => ⟨.refl σ, hb.mono hr.base.1, fun c hc _ => ⟨hb.block c hc, fun _ _ _ h => h⟩⟩⟩
  obtain ⟨c, d, m, h1, h2, h3⟩ := hr.blk b x h
  exact ⟨c, d, m, h1, h2, by rw [hb.block c (hr.img b c d m h1)]; exact h3⟩
theorem HR.late {n0 : Bs} {σ : Ren} {H : AH} {w w' : World} (hr : HR n0 σ H w) (hb : Below w.heap.size w w') {g m : Nat} (hg : w.heap.size ≤ g) (hlt : g < w'.heap.size) {x : ABlk} (hx : BR (σ.put H.next (g, 0, m)) 0 m (w'.heap[g]?) x) :
    HR n0 (σ.put H.next (g, 0, m)) (H.push x) w' ∧ Step n0 σ w H.low (σ.put H.next (g, 0, m)) w' := by
  have hext := hr.ext_put (g, 0, m)
  refine ⟨⟨base_size hr.base hb.size (fun k hk => hb.block k (Nat.lt_of_lt_of_le hk hr.base.1)), ?_, ?_, ?_, ?_, fun b hb => ⟨Nat.lt_succ_of_lt (hr.hol b hb).1, by rw [Ren.put_other _ _ (Nat.ne_of_lt (hr.hol b hb).1)]; exact (hr.hol b hb).2⟩⟩, ⟨hext, hb.mono hr.base.1, ?_⟩⟩
  · intro b y hy
    simp only [AH.push, Tr.get_set] at hy
    by_cases h : b = H.next
    · subst h
      rw [if_pos rfl] at hy
      obtain rfl := Option.some.inj hy
      exact ⟨g, 0, m, Ren.put_self _ _ _, ⟨Nat.le_trans hr.base.1 hg, fun h => absurd (hr.base.2.1 g h) (Nat.not_lt.2 hg)⟩, hx⟩
    · rw [if_neg h] at hy
      obtain ⟨c, d, m', hs, hn, hB⟩ := hr.blk b y hy
      refine ⟨c, d, m', hext _ _ hs, hn, ?_⟩
      rw [hb.block c (hr.img b c d m' hs)]
      exact hB.mono hext
  · intro b₁ b₂ x₁ x₂ c d₁ m₁ d₂ m₂ h1 h2 s1 s2
    simp only [AH.push, Tr.get_set] at h1 h2
    by_cases e1 : b₁ = H.next
    · by_cases e2 : b₂ = H.next
      · rw [e1, e2]
      · rw [if_neg e2] at h2
        rw [Ren.put_other _ _ e2] at s2
        subst e1
        rw [Ren.put_self] at s1
        have := hr.img b₂ c d₂ m₂ s2
        injection s1 with s1
        injection s1 with s1 _
        omega
    · rw [if_neg e1] at h1
      rw [Ren.put_other _ _ e1] at s1
      by_cases e2 : b₂ = H.next
      · subst e2
        rw [Ren.put_self] at s2
        have := hr.img b₁ c d₁ m₁ s1
        injection s2 with s2
        injection s2 with s2 _
        omega
      · rw [if_neg e2] at h2
        rw [Ren.put_other _ _ e2] at s2
        exact hr.inj b₁ b₂ x₁ x₂ c d₁ m₁ d₂ m₂ h1 h2 s1 s2
  · intro b t ht
    by_cases e : b = H.next
    · subst e; exact Nat.lt_succ_self _
    · rw [Ren.put_other _ _ e] at ht
      exact Nat.lt_succ_of_lt (hr.dom b t ht)
  · intro b c d m' hs
    by_cases e : b = H.next
    · subst e
      rw [Ren.put_self] at hs
      injection hs with hs
      injection hs with hs _
      omega
    · rw [Ren.put_other _ _ e] at hs
      exact Nat.lt_of_lt_of_le (hr.img b c d m' hs) hb.size
  · intro c hc _
    refine ⟨hb.block c hc, fun b d m' hs => ?_⟩
    by_cases e : b = H.next
    · subst e
      rw [Ren.put_self] at hs
      injection hs with hs
      injection hs with hs _
      omega
    · rwa [Ren.put_other _ _ e] at hs

/-! the two calls -/
def fnNum (f : Fn) : Option Nat :=
  match f with
  | .func g => some g
  | _ => none
theorem fnNum_eq {f : Fn} {g : Nat} (h : fnNum f = some g) : f = .func g := by
  unfold fnNum at h
  split at h
  · injection h with h; rw [h]
  · cases h
def mapArg (l : List Value) : Option Nat :=
  match l with
  | [.map (some b)] => some b
  | _ => none
theorem mapArg_eq {l : List Value} {b : Nat} (h : mapArg l = some b) : l = [.map (some b)] := by
  unfold mapArg at h
  split at h
  · injection h with h; rw [h]
  · cases h
def seqArg (fi : Nat) (l : List Value) : Option Nat :=
  match l with
  | [.func (.func g) x y] => (match x.toList, y.toList with
    | [], [.pointer (some ⟨b, o, none⟩)] => bif Nat.beq g fi && Nat.beq o 0 then some b else none
    | _, _ => none)
  | _ => none
theorem seqArg_eq {fi : Nat} {l : List Value} {b : Nat} (h : seqArg fi l = some b) : l = [.func (.func fi) #[] #[.pointer (some ⟨b, 0, none⟩)]] := by
  unfold seqArg at h
  split at h
  · rename_i g x y
    split at h
    · rename_i b' o e1 e2
      cases hb : (Nat.beq g fi && Nat.beq o 0) with
      | false => rw [hb] at h; cases h
      | true =>
        rw [hb] at h
        simp only [cond_true, Option.some.injEq] at h
        simp only [Bool.and_eq_true] at hb
        obtain rfl := Nat.eq_of_beq_eq_true hb.1
        obtain rfl := Nat.eq_of_beq_eq_true hb.2
        subst h
        have ex : x = #[] := by cases x; simpa using e1
        have ey : y = #[.pointer (some ⟨b', 0, none⟩)] := by cases y; simpa using e2
        rw [ex, ey]
    · cases h
  · cases h
def boxMap (x : ABlk) : Option Nat :=
  match x with
  | .box (.map (some b)) _ => some b
  | _ => none
theorem boxMap_eq {x : ABlk} {b : Nat} (h : boxMap x = some b) : ∃ e, x = .box (.map (some b)) e := by
  unfold boxMap at h
  split at h
  · injection h with h; rw [h]; exact ⟨_, rfl⟩
  · cases h
noncomputable def skKeys (s : SK) (l : List Value) (H : AH) : VRes :=
  oc (mapArg l) none fun b => some (.func (.func s.fi) #[] #[.pointer (some ⟨H.next, 0, none⟩)], H.push (.box (.map (some b)) s.bt))
def valsB : List (List UInt8) → List Value
  | [] => []
  | x :: l => .string ⟨⟨x⟩⟩ :: valsB l
theorem valsB_eq : ∀ l, valsB l = l.map encStr
  | [] => rfl
  | x :: l => by rw [valsB, valsB_eq l]; rfl
def nilL {α : Type} : List α → Bool
  | [] => true
  | _ => false
noncomputable def skEnd (s : SK) (es : List MapEntry) (clock : Nat) (ks : List (List UInt8)) (H : AH) : VRes :=
  sel (okSK ks) (sel (nilL ks) (some (.slice none 0 0, H)) (some (.slice (some ⟨H.next, 0, none⟩) ks.length (Nat.add big 1), H.push (.cells (layT (valsB ks)) s.kt)))) none
noncomputable def skSort (s : SK) (l : List Value) (H : AH) : VRes :=
  oc (seqArg s.fi l) none fun pb => oc (H.blocks.get pb) none fun x => oc (boxMap x) none fun mb => oc (H.blocks.get mb) none fun y => oc (mapOf y) none fun q => oc (kAll q.1) none fun k => skEnd s q.1 q.2 (sortB k) H
noncomputable def skOne (s : SK) (fn : Fn) (l : List Value) (H : AH) : VRes :=
  oc (fnNum fn) none fun g => sel (Nat.beq g s.fk) (skKeys s l H) (sel (Nat.beq g s.fs) (skSort s l H) none)
noncomputable def skAll (L : List SK) : CallT := @List.rec SK (fun _ => CallT) (fun _ _ _ => none) (fun s _ ih fn l H => oc (skOne s fn l H) (ih fn l H) fun r => some r) L

theorem skKeys_ok {P : Program} {s : SK} (hs : SKOK P s) {n0 : Bs} {σ : Ren} {H H' : AH} {w : World} {l : List Value} {args' : Array Value} {v : Value} (h : skKeys s l H = some (v, H')) (hargs : VRs σ l args'.toList) (hr : HR n0 σ H w) : CallGo P n0 σ w v H' args' (.func s.fk) := by
  obtain ⟨b, hb, h⟩ := oc_eq_some h
  obtain ⟨rfl, rfl⟩ := Prod.mk.inj (Option.some.inj h)
  rw [mapArg_eq hb] at hargs
  refine ⟨liveF_go hs.live1, fun n => ?_⟩
  obtain ⟨x', rfl, hx⟩ := arr1 hargs
  cases hx with
  | @map _ c hc =>
    refine CallsIn.mono (callsIn_wide.2 (hs.keys (some c) w)) ?_
    rintro e w' ⟨rfl, rfl⟩
    have hx : BR (σ.put H.next (w.heap.size, 0, 1)) 0 1 (some (.cells #[.map (some c)] s.bt)) (.box (.map (some b)) s.bt) :=
      ⟨_, rfl, .map (hr.ext_put _ _ _ hc), rfl, rfl⟩
    obtain ⟨g1, g2⟩ := hr.alloc hx
    refine ⟨_, _, rfl, ?_, g1, g2⟩
    have hp : VR (σ.put H.next (w.heap.size, 0, 1)) (.pointer (some ⟨H.next, 0, none⟩)) (.pointer (some ⟨w.heap.size, 0 + 0, none⟩)) := .ptr 0 (Ren.put_self _ _ _)
    exact VRs.func (.func s.fi) .nil (.cons hp .nil)
theorem skSort_ok {P : Program} {s : SK} (hs : SKOK P s) {n0 : Bs} {σ : Ren} {H H' : AH} {w : World} {l : List Value} {args' : Array Value} {v : Value} (h : skSort s l H = some (v, H')) (hargs : VRs σ l args'.toList) (hr : HR n0 σ H w) : CallGo P n0 σ w v H' args' (.func s.fs) := by
  obtain ⟨pb, hpb, h1⟩ := oc_eq_some h
  clear h
  obtain ⟨x, hx, h2⟩ := oc_eq_some h1
  clear h1
  obtain ⟨mb, hmb, h3⟩ := oc_eq_some h2
  clear h2
  obtain ⟨y, hy, h4⟩ := oc_eq_some h3
  clear h3
  obtain ⟨q, hq, h5⟩ := oc_eq_some h4
  clear h4
  obtain ⟨k, hk, h6⟩ := oc_eq_some h5
  clear h5
  obtain ⟨hok, h7⟩ := sel_none h6
  clear h6
  obtain ⟨be, rfl⟩ := boxMap_eq hmb
  obtain rfl := mapOf_eq hq
  rw [seqArg_eq hpb] at hargs
  obtain ⟨z, rfl, hz⟩ := arr1 hargs
  refine ⟨liveF_go hs.live2, fun n => ?_⟩
  obtain ⟨c, d, m, hσ, hc0, v', hobj, hv', rfl, rfl⟩ := hr.blk pb _ hx
  obtain ⟨c2, d2, m2, hσ2, _, ES, hES, hMR, rfl, rfl⟩ := hr.blk mb _ hy
  have hz : z = .func (.func s.fi) #[] #[.pointer (some ⟨c, 0, none⟩)] := by
    cases hz with
    | @func _ _ _ x' _ y' hf hx1 hxs hy1 hys =>
      cases hf
      have e1 := VRs.arr hx1 hxs
      have e2 := VRs.arr hy1 hys
      obtain ⟨u, rfl, hu⟩ := arr1 e2
      cases hu with
      | ptr o h1 =>
        rw [hσ] at h1
        injection h1 with h1
        injection h1 with ea h1
        injection h1 with eb _
        subst ea eb
        have : x' = #[] := by
          cases x' with
          | mk xl => cases e1; rfl
        rw [this]
  subst hz
  have hv' : v' = .map (some c2) := by
    cases hv' with
    | map h1 =>
      rw [hσ2] at h1
      injection h1 with h1
      injection h1 with h1 _
      rw [h1]
  subst hv'
  obtain ⟨D0, hown, hperm, hsz⟩ := owns_of hs.str hMR hk hok hES
  have hok' := hok
  simp only [okSK, Bool.and_eq_true] at hok'
  obtain ⟨o3, o4, o5⟩ := hok'
  simp only [fits, Bool.and_eq_true] at o5
  have f1 := Nat.le_of_ble_eq_true o5.1
  have f2 := Nat.le_of_ble_eq_true o5.2
  have hll := (sortB_perm k).length_eq
  have hlt : c < w.heap.size := hr.img pb c 0 1 hσ
  have hcell : w.cell? ⟨c, 0, none⟩ = some (.map (some c2)) := by
    rw [cell_of_block hobj]; rfl
  refine CallsIn.mono (callsIn_wide.2 (hs.sorted c c2 ES.length D0 w hlt hcell hown (by rw [hsz, ← hll]; exact f2) (by rw [hsz, ← hll]; exact f1))) ?_
  rintro e w' ⟨v1, ss, rfl, hp, hrow, hnil, hbel⟩
  have hss : ss.Perm (sortB k) := (hp.trans hperm.symm).trans (sortB_perm k).symm
  have hms := mergeSort_asc o3 hss
  rcases sel_eq_some h7 with ⟨hn, h8⟩ | ⟨hn, h8⟩
  · obtain ⟨rfl, rfl⟩ := Prod.mk.inj (Option.some.inj h8)
    have hks : sortB k = [] := by
      generalize sortB k = ks at hn
      cases ks with
      | nil => rfl
      | cons _ _ => cases hn
    rw [hks] at hss
    have hs0 : ss = [] := List.length_eq_zero_iff.1 (by rw [hss.length_eq]; rfl)
    obtain ⟨g1, g2⟩ := hr.later hbel
    exact ⟨_, σ, rfl, by rw [hnil.2 hs0]; exact .slice0 0 0, g1, g2 _⟩
  · obtain ⟨rfl, rfl⟩ := Prod.mk.inj (Option.some.inj h8)
    have hks : sortB k ≠ [] := fun e => by rw [e] at hn; cases hn
    rcases hrow.2 with ⟨_, hz0⟩ | ⟨g, cap, cur, rfl, hbase, hgb, r1, r2, r3, r4⟩
    · exact absurd (List.length_eq_zero_iff.1 (by rw [← hss.length_eq]; exact hz0)) hks
    · rw [hms] at r4
      have hgl : g < w'.heap.size := (Array.getElem?_eq_some_iff.1 hgb).1
      have hx : BR (σ.put H.next (g, 0, cap)) 0 cap (w'.heap[g]?) (.cells (layT (valsB (sortB k))) s.kt) := by
        refine ⟨cur, hgb, by omega, fun i u hu => ?_⟩
        rw [layT_get, valsB_eq, ← r4] at hu
        have hi : i < (cur.toList.take (ss.length * 1)).length := by
          rcases Nat.lt_or_ge i (cur.toList.take (ss.length * 1)).length with h | h
          · exact h
          · rw [List.getElem?_eq_none h] at hu; cases hu
        have hu' : cur.toList[i]? = some u := by
          rw [List.getElem?_take] at hu
          split at hu
          · exact hu
          · cases hu
        have hflat : flat u = true := by
          have : u ∈ (sortB k).map encStr := by
            rw [← r4]
            exact List.mem_of_getElem? hu
          obtain ⟨y, _, rfl⟩ := List.mem_map.1 this
          rfl
        exact ⟨u, by rw [Nat.zero_add]; simpa using hu', flat_vr hflat _⟩
      obtain ⟨g1, g2⟩ := hr.late hbel hbase hgl hx
      refine ⟨_, _, rfl, ?_, g1, g2⟩
      rw [← hss.length_eq]
      have := VR.sliceU (σ := σ.put H.next (g, 0, cap)) 0 0 ss.length cap 1 (Ren.put_self _ _ _) r1 (.inr rfl) (Nat.le_refl _) (by omega) (by decide)
      simpa using this

def SKsOK (P : Program) : List SK → Prop
  | [] => True
  | s :: l => SKOK P s ∧ SKsOK P l
theorem skAll_ok {P : Program} : ∀ {L : List SK}, SKsOK P L → ∀ n0, CallOK P n0 (skAll L)
  | [], _, n0 => fun Q X fn args H v H' h => by cases h
  | s :: L, hL, n0 => fun Q X fn args H v H' h σ w fn' args' hfn hargs hr => by
    have h : oc (skOne s fn args H) (skAll L fn args H) (fun r => some r) = some (v, H') := h
    cases hone : skOne s fn args H with
    | none =>
      rw [hone] at h
      exact skAll_ok hL.2 n0 Q X fn args H v H' h σ w fn' args' hfn hargs hr
    | some r =>
      rw [hone] at h
      obtain rfl := Option.some.inj h
      obtain ⟨g, hg, h1⟩ := oc_eq_some hone
      obtain rfl := fnNum_eq hg
      cases hfn
      rcases sel_eq_some h1 with ⟨hb, h2⟩ | ⟨_, h2⟩
      · clear h1
        obtain rfl := Nat.eq_of_beq_eq_true hb
        exact skKeys_ok hL.1 h2 hargs hr
      · obtain ⟨hb, h3⟩ := sel_none h2
        clear h1 h2
        obtain rfl := Nat.eq_of_beq_eq_true hb
        exact skSort_ok hL.1 h3 hargs hr

end Go.Proofs.Ythomkiindjhdmaa.Ax
