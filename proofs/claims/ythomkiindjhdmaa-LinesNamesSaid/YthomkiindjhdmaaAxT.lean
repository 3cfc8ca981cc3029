/-
  Maps whose keys are numbers or strings. Own work, plain lemmas.
-/
import Derived.Test.YthomkiindjhdmaaAxZ
set_option linter.unusedSimpArgs false
set_option linter.unusedVariables false
set_option linter.unnecessarySimpa false
set_option linter.deprecated false
set_option linter.unusedSectionVars false
namespace Go.Proofs.Ythomkiindjhdmaa.Ax
open Go.RowKit
variable [Tabs]

noncomputable def AH.setB (H : AH) (b : Nat) (x : ABlk) : AH := ⟨H.blocks.set b x, H.next, Nat.min H.low b⟩
def setObjW (w : World) (c : Nat) (o : Obj) : World := { w with heap := w.heap.setIfInBounds c o }

theorem HR.setObj {n0 : Bs} {σ : Ren} {H : AH} {w : World} (hr : HR n0 σ H w) {b : Nat} {y x : ABlk} (hb : H.blocks.get b = some y) {c d m : Nat} (hs : σ b = some (c, d, m)) {o : Obj} (hx : BR σ d m (some o) x) :
    HR n0 σ (H.setB b x) (setObjW w c o) ∧ Step n0 σ w (Nat.min H.low b) σ (setObjW w c o) := by
  have hlt := hr.img b c d m hs
  have hcn : n0.n.Own c := by
    obtain ⟨c', d', m', hs', hn, _⟩ := hr.blk b y hb
    rw [hs] at hs'
    injection hs' with hs'
    injection hs' with e1 _
    exact e1 ▸ hn
  have self : (setObjW w c o).heap[c]? = some o := by simp [setObjW, hlt]
  have oth : ∀ k, k ≠ c → (setObjW w c o).heap[k]? = w.heap[k]? := fun k hk => by simp [setObjW, Array.getElem?_setIfInBounds_ne (Ne.symm hk)]
  have get : ∀ bb xx, (H.setB b x).blocks.get bb = some xx → (bb = b ∧ xx = x) ∨ (bb ≠ b ∧ H.blocks.get bb = some xx) := fun bb xx h => by
    simp only [AH.setB, Tr.get_set] at h
    by_cases e : bb = b
    · rw [if_pos e] at h; exact .inl ⟨e, (Option.some.inj h).symm⟩
    · rw [if_neg e] at h; exact .inr ⟨e, h⟩
  have old : ∀ bb xx, (H.setB b x).blocks.get bb = some xx → ∃ yy, H.blocks.get bb = some yy := fun bb xx h => by
    rcases get bb xx h with ⟨rfl, _⟩ | ⟨_, h⟩
    · exact ⟨y, hb⟩
    · exact ⟨xx, h⟩
  refine ⟨⟨base_size hr.base (by simp [setObjW]) (fun k hk => oth k (by have := hcn.1; omega)), ?_, ?_, hr.dom, fun bb c' d' m' h => by simpa [setObjW] using hr.img bb c' d' m' h, hr.hol⟩, ⟨.refl σ, ⟨rfl, rfl, rfl, by simp [setObjW], fun k hk => oth k (by have := hcn.1; omega)⟩, ?_⟩⟩
  · intro bb xx h
    rcases get bb xx h with ⟨rfl, rfl⟩ | ⟨hne, h⟩
    · exact ⟨c, d, m, hs, hcn, by rw [self]; exact hx⟩
    · obtain ⟨c₁, d₁, m₁, hs₁, hn₁, hB⟩ := hr.blk bb xx h
      have : c₁ ≠ c := fun ec => hne (hr.inj bb b xx y c d₁ m₁ d m h hb (ec ▸ hs₁) hs)
      exact ⟨c₁, d₁, m₁, hs₁, hn₁, by rw [oth c₁ this]; exact hB⟩
  · intro b₁ b₂ x₁ x₂ c' d₁ m₁ d₂ m₂ h1 h2 s1 s2
    obtain ⟨y₁, h1⟩ := old _ _ h1
    obtain ⟨y₂, h2⟩ := old _ _ h2
    exact hr.inj b₁ b₂ y₁ y₂ c' d₁ m₁ d₂ m₂ h1 h2 s1 s2
  · intro c' hc hlow
    have hne : c' ≠ c := fun ec => by
      subst ec
      rcases hlow with hq | hlow
      · exact hcn.2 hq
      · exact absurd (hlow b d m hs) (Nat.not_lt.2 (Nat.min_le_right _ _))
    exact ⟨oth c' hne, fun _ _ _ h => h⟩


def mapOfD (d : TypeDesc) : Option (TypeId × TypeId) :=
  match d with
  | .map k e => some (k, e)
  | _ => none
def keyKind (d : TypeDesc) : Bool :=
  match d with
  | .int _ => true
  | .string => true
  | _ => false
noncomputable def mapB (P : Program) (t : TypeId) : Option (TypeId × TypeId) := oc (P.underlying t) none mapOfD
theorem mapB_eq {P : Program} {t : TypeId} {q : TypeId × TypeId} (h : mapB P t = some q) : P.underlying t = some (.map q.1 q.2) := by
  obtain ⟨d, hd, h⟩ := oc_eq_some h
  unfold mapOfD at h
  split at h
  · obtain rfl := Option.some.inj h; exact hd
  · cases h
def mapOf (x : ABlk) : Option (List MapEntry × Nat) :=
  match x with
  | .map es c => some (es, c)
  | _ => none
theorem mapOf_eq {x : ABlk} {q : List MapEntry × Nat} (h : mapOf x = some q) : x = .map q.1 q.2 := by
  unfold mapOf at h
  split at h
  · obtain rfl := Option.some.inj h; rfl
  · cases h
def mapAddr (v : Value) : Option Nat :=
  match v with
  | .map (some b) => some b
  | _ => none
theorem mapAddr_vr {σ : Ren} {v v' : Value} {b : Nat} (h : mapAddr v = some b) (hv : VR σ v v') : ∃ c, v' = .map (some c) ∧ σ b = some (c, 0, 0) := by
  unfold mapAddr at h
  split at h
  · obtain rfl := Option.some.inj h
    cases hv with
    | map hs => exact ⟨_, rfl, hs⟩
  · cases h
noncomputable def mapEs (H : AH) (b : Nat) : Option (List MapEntry × Nat) := oc (H.blocks.get b) none mapOf
theorem HR.mapEs {n0 : Bs} {σ : Ren} {H : AH} {w : World} (hr : HR n0 σ H w) {b c : Nat} (hs : σ b = some (c, 0, 0)) {q : List MapEntry × Nat} (h : mapEs H b = some q) : ∃ ES, w.heap[c]? = some (.map ⟨ES⟩ q.2) ∧ MPs σ q.1 ES q.2 ∧ H.blocks.get b = some (.map q.1 q.2) := by
  obtain ⟨x, hx, h⟩ := oc_eq_some h
  obtain rfl := mapOf_eq h
  obtain ⟨c', d', m', hs', _, ES, h1, h2, _, _⟩ := hr.blk b _ hx
  rw [hs] at hs'
  injection hs' with hs'
  injection hs' with e1 hs'
  subst e1
  exact ⟨ES, h1, h2, hx⟩
/-- the entry of a key, where every key tells whether it is that, and one at most is -/
noncomputable def findU (kd : TypeDesc) (k : Value) (l : List MapEntry) : Nat → Option (Option (Nat × Value)) :=
  @List.rec MapEntry (fun _ => Nat → Option (Option (Nat × Value))) (fun _ => some none) (fun e _ ih i => oc (Instr.sameNow kd k e.key) none fun b => oc (ih (Nat.succ i)) none fun r => sel b (oc r (some (some (i, e.val))) fun _ => none) (some r)) l
theorem findU_cons (kd : TypeDesc) (k : Value) (e : MapEntry) (l : List MapEntry) (i : Nat) : findU kd k (e :: l) i = oc (Instr.sameNow kd k e.key) none fun b => oc (findU kd k l (i + 1)) none fun r => sel b (oc r (some (some (i, e.val))) fun _ => none) (some r) := rfl
theorem findU_ok {kd : TypeDesc} {k : Value} : ∀ {l : List MapEntry} {i : Nat} {r : Option (Nat × Value)}, findU kd k l i = some r →
    (r = none ∧ ∀ e ∈ l, Instr.sameNow kd k e.key = some false) ∨ ∃ n e, r = some (i + n, e.val) ∧ l[n]? = some e ∧ Instr.sameNow kd k e.key = some true ∧ ∀ n' e', l[n']? = some e' → n' ≠ n → Instr.sameNow kd k e'.key = some false
  | [], i, r, h => .inl ⟨(Option.some.inj h).symm, fun e he => by cases he⟩
  | a :: l, i, r, h => by
    rw [findU_cons] at h
    obtain ⟨b, hb, h⟩ := oc_eq_some h
    obtain ⟨r', hr', h⟩ := oc_eq_some h
    rcases sel_eq_some h with ⟨rfl, h⟩ | ⟨rfl, h⟩
    · cases r' with
      | some _ => cases h
      | none =>
        obtain rfl := Option.some.inj h
        rcases findU_ok hr' with ⟨_, h2⟩ | ⟨n, e, h2, _⟩
        · refine .inr ⟨0, a, rfl, rfl, hb, fun n' e' he hne => ?_⟩
          cases n' with
          | zero => exact absurd rfl hne
          | succ n' => exact h2 e' (List.mem_of_getElem? (by simpa using he))
        · cases h2
    · obtain rfl := Option.some.inj h
      rcases findU_ok hr' with ⟨rfl, h2⟩ | ⟨n, e, rfl, h3, h4, h5⟩
      · refine .inl ⟨rfl, fun e he => ?_⟩
        rcases List.mem_cons.1 he with rfl | he
        · exact hb
        · exact h2 e he
      · refine .inr ⟨n + 1, e, by rw [show i + (n + 1) = i + 1 + n from by omega], by simpa using h3, h4, fun n' e' he hne => ?_⟩
        cases n' with
        | zero => simp at he; subst he; exact hb
        | succ n' => exact h5 n' e' (by simpa using he) (by omega)
theorem findNow_none {kd : TypeDesc} {k : Value} : ∀ {l : List MapEntry} {i : Nat}, (∀ e ∈ l, Instr.sameNow kd k e.key = some false) → Instr.findNow kd k l i = some none
  | [], i, _ => rfl
  | e :: l, i, h => by
    unfold Instr.findNow
    simp only [h e (List.mem_cons_self ..)]
    exact findNow_none fun x hx => h x (List.mem_cons_of_mem _ hx)
theorem findNow_one {kd : TypeDesc} {k : Value} {E : MapEntry} (hE : Instr.sameNow kd k E.key = some true) : ∀ {l : List MapEntry} {i : Nat}, E ∈ l → (∀ e ∈ l, Instr.sameNow kd k e.key = some false ∨ e = E) → ∃ n, l[n]? = some E ∧ Instr.findNow kd k l i = some (some (i + n, E.val))
  | [], i, h, _ => by cases h
  | e :: l, i, h, hu => by
    unfold Instr.findNow
    rcases hu e (List.mem_cons_self ..) with h1 | rfl
    · have hm : E ∈ l := by
        rcases List.mem_cons.1 h with rfl | h
        · rw [hE] at h1; cases h1
        · exact h
      obtain ⟨n, h2, h3⟩ := findNow_one hE (i := i + 1) hm fun x hx => hu x (List.mem_cons_of_mem _ hx)
      refine ⟨n + 1, by simpa using h2, ?_⟩
      simp only [h1]
      rw [h3, show i + 1 + n = i + (n + 1) from by omega]
    · exact ⟨0, rfl, by simp only [hE]; rfl⟩
theorem MRs.at {σ : Ren} {l l' : List MapEntry} (h : MRs σ l l') : ∀ {i : Nat} {e' : MapEntry}, l'[i]? = some e' → ∃ e, l[i]? = some e ∧ e'.key = e.key ∧ VR σ e.val e'.val := by
  induction h with
  | nil => intro i e' h; simp at h
  | cons hk hv _ ih =>
    intro i e' h
    cases i with
    | zero => simp at h; subst h; exact ⟨_, by simp, hk, hv⟩
    | succ i => simpa using ih (by simpa using h)
theorem MRs.to {σ : Ren} {l l' : List MapEntry} (h : MRs σ l l') : ∀ {i : Nat} {e : MapEntry}, l[i]? = some e → ∃ e', l'[i]? = some e' ∧ e'.key = e.key ∧ VR σ e.val e'.val := by
  induction h with
  | nil => intro i e' h; simp at h
  | cons hk hv _ ih =>
    intro i e' h
    cases i with
    | zero => simp at h; subst h; exact ⟨_, by simp, hk, hv⟩
    | succ i => simpa using ih (by simpa using h)
theorem MRs.len {σ : Ren} {l l' : List MapEntry} (h : MRs σ l l') : l'.length = l.length := by
  induction h with
  | nil => rfl
  | cons _ _ _ ih => simp [ih]
/-- a lookup, in whatever order the entries lie -/
theorem findU_mp {σ : Ren} {kd : TypeDesc} {k : Value} {es ES L : List MapEntry} (hp : L.Perm ES) (hm : MRs σ es L) {r : Option (Nat × Value)} (h : findU kd k es 0 = some r) :
    (r = none ∧ Instr.findNow kd k ES 0 = some none) ∨ ∃ i v E j, r = some (i, v) ∧ L[i]? = some E ∧ VR σ v E.val ∧ ES[j]? = some E ∧ Instr.findNow kd k ES 0 = some (some (j, E.val)) ∧ Instr.sameNow kd k E.key = some true := by
  rcases findU_ok h with ⟨rfl, h1⟩ | ⟨n, e, rfl, h2, h3, h4⟩
  · refine .inl ⟨rfl, findNow_none fun x hx => ?_⟩
    obtain ⟨i, hi⟩ := List.getElem?_of_mem (hp.mem_iff.2 hx)
    obtain ⟨e, he, hk, _⟩ := hm.at hi
    rw [hk]; exact h1 e (List.mem_of_getElem? he)
  · obtain ⟨E, hE, hk, hv⟩ := hm.to h2
    have hs : Instr.sameNow kd k E.key = some true := by rw [hk]; exact h3
    obtain ⟨j, hj, hf⟩ := findNow_one hs (l := ES) (i := 0) (hp.mem_iff.1 (List.mem_of_getElem? hE)) fun x hx => by
      obtain ⟨i, hi⟩ := List.getElem?_of_mem (hp.mem_iff.2 hx)
      by_cases hin : i = n
      · subst hin
        rw [hE] at hi
        exact .inr (Option.some.inj hi).symm
      · obtain ⟨e', he', hk', _⟩ := hm.at hi
        rw [hk']; exact .inl (h4 i e' he' hin)
    rw [Nat.zero_add] at hf ⊢
    exact .inr ⟨n, e.val, E, j, rfl, hE, hv, hj, hf, hs⟩
theorem modify_parts {f : MapEntry → MapEntry} : ∀ {l : List MapEntry} {i : Nat} {E : MapEntry}, l[i]? = some E → ∃ A B, l = A ++ E :: B ∧ l.modify i f = A ++ f E :: B
  | [], i, E, h => by simp at h
  | a :: l, 0, E, h => by
    simp at h
    subst h
    exact ⟨[], l, rfl, rfl⟩
  | a :: l, i + 1, E, h => by
    obtain ⟨A, B, h1, h2⟩ := modify_parts (f := f) (l := l) (i := i) (E := E) (by simpa using h)
    exact ⟨a :: A, B, by rw [h1]; rfl, by rw [List.modify_succ_cons, h2]; rfl⟩
theorem perm_modify {f : MapEntry → MapEntry} {L ES : List MapEntry} (hp : L.Perm ES) {i j : Nat} {E : MapEntry} (hi : L[i]? = some E) (hj : ES[j]? = some E) : (L.modify i f).Perm (ES.modify j f) := by
  obtain ⟨A, B, h1, h2⟩ := modify_parts (f := f) hi
  obtain ⟨C, D, h3, h4⟩ := modify_parts (f := f) hj
  rw [h2, h4]
  rw [h1, h3] at hp
  have h5 : (A ++ B).Perm (C ++ D) := (List.perm_middle.symm.trans (hp.trans List.perm_middle)).cons_inv
  exact List.perm_middle.trans ((h5.cons (f E)).trans List.perm_middle.symm)
theorem modify_borns {f : MapEntry → MapEntry} (hf : ∀ e, (f e).born = e.born) : ∀ (l : List MapEntry) (i : Nat), (l.modify i f).map (·.born) = l.map (·.born)
  | [], i => by cases i <;> rfl
  | a :: l, 0 => by simp [hf]
  | a :: l, i + 1 => by rw [List.modify_succ_cons, List.map_cons, List.map_cons, modify_borns hf l i]
theorem same_bits {kd : TypeDesc} {k k' : Value} (h : Instr.sameNow kd k k' = some true) : Instr.sameBits 10000 k' k = true := by
  unfold Instr.sameNow at h
  split at h
  · split at h
    · rename_i e
      subst e
      have h := eq_of_beq (Option.some.inj h)
      subst h
      simp [Instr.sameBits]
    · cases h
  · rename_i a b
    have h := Option.some.inj h
    have e : a = b := by
      have h' : (a.data == b.data) = true := h
      have := eq_of_beq h'
      cases a; cases b; simp_all
    subst e
    simpa [Instr.sameBits] using h
  · have h := eq_of_beq (Option.some.inj h)
    subst h
    simp [Instr.sameBits]
  · cases h
theorem MRs.modify {σ : Ren} {k v v' : Value} (hv : VR σ v v') {l l' : List MapEntry} (h : MRs σ l l') : ∀ (i : Nat), MRs σ (l.modify i fun e => { e with key := k, val := v }) (l'.modify i fun e => { e with key := k, val := v' }) := by
  induction h with
  | nil => intro i; cases i <;> exact .nil
  | cons hk hv' hl ih =>
    intro i
    cases i with
    | zero => exact .cons rfl hv hl
    | succ i => exact .cons hk hv' (ih i)
theorem MRs.push {σ : Ren} {e e' : MapEntry} (hk : e'.key = e.key) (hv : VR σ e.val e'.val) {l l' : List MapEntry} (h : MRs σ l l') : MRs σ (l ++ [e]) (l' ++ [e']) := by
  induction h with
  | nil => exact .cons hk hv .nil
  | cons hk' hv' _ ih => exact .cons hk' hv' ih
theorem MPs.push {σ : Ren} {e e' : MapEntry} {es ES : List MapEntry} {clock : Nat} (hk : e'.key = e.key) (hv : VR σ e.val e'.val) (hb : e'.born = clock) (h : MPs σ es ES clock) : MPs σ (es ++ [e]) (ES ++ [e']) (clock + 1) := by
  obtain ⟨⟨L, h1, h2⟩, h3, h4⟩ := h
  refine ⟨⟨L ++ [e'], h1.append_right _, h2.push hk hv⟩, ?_, fun x hx => ?_⟩
  · rw [List.map_append, List.nodup_append]
    refine ⟨h3, by simp, fun a ha b hb' => ?_⟩
    obtain ⟨x, hx, rfl⟩ := List.mem_map.1 ha
    have := h4 x hx
    simp at hb'
    omega
  · rcases List.mem_append.1 hx with hx | hx
    · exact Nat.lt_succ_of_lt (h4 x hx)
    · simp at hx
      subst hx
      omega
theorem MPs.nil (σ : Ren) (clock : Nat) : MPs σ [] [] clock := ⟨⟨[], .nil, .nil⟩, by simp, fun x hx => by cases hx⟩
theorem run_checkKey {P : Program} {w : World} {t : TypeId} {d : TypeDesc} (h : P.underlying t = some d) (hk : keyKind d = true) (b : Bool) (v : Value) : (Instr.checkKey b 10000 t v).run P w = .ok () w := by
  unfold Instr.checkKey
  simp only [Sem.run_bind, run_underlying h, Result.andThen_ok]
  cases d <;> first | (cases hk; done) | (cases v <;> simp)
theorem run_findKey {P : Program} {w : World} {t : TypeId} {d : TypeDesc} (h : P.underlying t = some d) {k : Value} {es : List MapEntry} {r : Option (Nat × Value)} (hf : Instr.findNow d k es 0 = some r) : (Instr.findKey t k es).run P w = .ok r w := by
  unfold Instr.findKey
  simp only [Sem.run_bind, run_underlying h, Result.andThen_ok, hf, Sem.run_pure]
theorem run_getMap {P : Program} {w : World} {c : Nat} {es : Array MapEntry} {q : Nat} (h : w.heap[c]? = some (.map es q)) : (getObj c).run P w = .ok (.map es q) w := by
  simp [getObj, Sem.run, h]
theorem run_setMap {P : Program} {w : World} {c : Nat} {es : Array MapEntry} {q : Nat} (h : w.heap[c]? = some (.map es q)) (o : Obj) : (setObj c o).run P w = .ok () (setObjW w c o) := by
  simp [setObj, Sem.run, h, setObjW]

/-- a value that holds no address, or is made of such -/
def plainV (v : Value) : Bool :=
  flat v || (match v with
    | .agg x => flatL x.toList
    | _ => false)
theorem plainV_vr {v : Value} (h : plainV v = true) (σ : Ren) : VR σ v v := by
  unfold plainV at h
  rw [Bool.or_eq_true] at h
  rcases h with h | h
  · exact flat_vr h σ
  · split at h
    · exact VRs.agg (flatL_vr h σ)
    · cases h
noncomputable def zeroV (P : Program) (t : TypeId) : Option Value := oc (P.info? t) none fun i => oc i.zero none fun z => sel (plainV z) (some z) none
theorem run_zeroV {P : Program} {t : TypeId} {z : Value} (h : zeroV P t = some z) (w : World) : (zeroValue t).run P w = .ok z w ∧ plainV z = true := by
  obtain ⟨i, hi, h⟩ := oc_eq_some h
  obtain ⟨z', hz, h⟩ := oc_eq_some h
  obtain ⟨hp, h⟩ := sel_none h
  obtain rfl := Option.some.inj h
  exact ⟨by simp [zeroValue, typeInfo, hi, hz], hp⟩

noncomputable def lookRes (P : Program) (e : TypeId) (ok : Bool) (H : AH) (r : Option (Nat × Value)) : VRes :=
  oc r (oc (zeroV P e) none fun z => some (sel ok (.tuple ⟨[z, .bool false]⟩) z, H)) fun p => some (sel ok (.tuple ⟨[p.2, .bool true]⟩) p.2, H)
noncomputable def opLookup (P : Program) (t : TypeId) (x k : Value) (ok : Bool) (H : AH) : VRes :=
  oc (mapB P t) none fun q => oc (P.underlying q.1) none fun d => sel (keyKind d && flat k) (oc (mapAddr x) none fun b => oc (mapEs H b) none fun es => oc (findU d k es.1 0) none fun r => lookRes P q.2 ok H r) none
theorem lookup_ok {P : Program} {n0 : Bs} {σ : Ren} {H H' : AH} {w : World} (hr : HR n0 σ H w) {t : TypeId} {x x' k k' v : Value} {ok : Bool} (h : opLookup P t x k ok H = some (v, H')) (hx : VR σ x x') (hk : VR σ k k') : GivesP P n0 σ w H (Instr.lookup t x' k' ok) v H' := by
  obtain ⟨q, hq, h⟩ := oc_eq_some h
  obtain ⟨d, hd, h⟩ := oc_eq_some h
  obtain ⟨hb, h⟩ := sel_none h
  obtain ⟨b, hb', h⟩ := oc_eq_some h
  obtain ⟨es, hes, h⟩ := oc_eq_some h
  obtain ⟨r, hf, h⟩ := oc_eq_some h
  simp only [Bool.and_eq_true] at hb
  obtain rfl := flat_same hb.2 hk
  obtain ⟨c, rfl, hs⟩ := mapAddr_vr hb' hx
  obtain ⟨ES, h1, h2, _⟩ := hr.mapEs hs hes
  have hu := mapB_eq hq
  obtain ⟨⟨L, hL, hLr⟩, _, _⟩ := h2
  rcases findU_mp hL hLr hf with ⟨rfl, hf'⟩ | ⟨i0, u, E, j, rfl, _, hv, _, hf', _⟩
  · obtain ⟨z, hz, h⟩ := oc_eq_some h
    obtain ⟨rfl, rfl⟩ := Prod.mk.inj (Option.some.inj h)
    obtain ⟨z1, z2⟩ := run_zeroV hz w
    refine GivesP.pure (v' := sel ok (.tuple ⟨[z, .bool false]⟩) z) hr ?_ ?_
    · unfold Instr.lookup
      simp only [Sem.run_bind, run_underlying hu, Result.andThen_ok, run_getMap h1, run_checkKey hd hb.1, run_findKey hd hf', z1, Sem.run_pure]
      cases ok <;> rfl
    · cases ok
      · exact plainV_vr z2 σ
      · exact VRs.tuple (.cons (plainV_vr z2 σ) (.cons (.bool _) .nil))
  · obtain ⟨rfl, rfl⟩ := Prod.mk.inj (Option.some.inj h)
    refine GivesP.pure (v' := sel ok (.tuple ⟨[E.val, .bool true]⟩) E.val) hr ?_ ?_
    · unfold Instr.lookup
      simp only [Sem.run_bind, run_underlying hu, Result.andThen_ok, run_getMap h1, run_checkKey hd hb.1, run_findKey hd hf', Sem.run_pure]
      cases ok <;> rfl
    · cases ok
      · exact hv
      · exact VRs.tuple (.cons hv (.cons (.bool _) .nil))

noncomputable def updEs (es : List MapEntry × Nat) (k v : Value) (r : Option (Nat × Value)) : ABlk :=
  oc r (.map (es.1 ++ [⟨k, v, es.2⟩]) (Nat.succ es.2)) fun p => .map (es.1.modify p.1 fun e => { e with key := k, val := v }) es.2
noncomputable def opUpdate (P : Program) (t : TypeId) (x k v : Value) (H : AH) : VRes :=
  oc (mapB P t) none fun q => oc (P.underlying q.1) none fun d => sel (keyKind d && flat k) (oc (mapAddr x) none fun b => oc (mapEs H b) none fun es => oc (findU d k es.1 0) none fun r => some (undef, H.setB b (updEs es k v r))) none
theorem update_ok {P : Program} {n0 : Bs} {σ : Ren} {H H' : AH} {w : World} (hr : HR n0 σ H w) {t : TypeId} {x x' k k' v v' u : Value} (h : opUpdate P t x k v H = some (u, H')) (hx : VR σ x x') (hk : VR σ k k') (hv : VR σ v v') : u = undef ∧ GivesU P n0 σ w (Instr.mapUpdate t x' k' v') H' := by
  obtain ⟨q, hq, h⟩ := oc_eq_some h
  obtain ⟨d, hd, h⟩ := oc_eq_some h
  obtain ⟨hb, h⟩ := sel_none h
  obtain ⟨b, hb', h⟩ := oc_eq_some h
  obtain ⟨es, hes, h⟩ := oc_eq_some h
  obtain ⟨r, hf, h⟩ := oc_eq_some h
  obtain ⟨rfl, rfl⟩ := Prod.mk.inj (Option.some.inj h)
  simp only [Bool.and_eq_true] at hb
  obtain rfl := flat_same hb.2 hk
  obtain ⟨c, rfl, hs⟩ := mapAddr_vr hb' hx
  obtain ⟨ES, h1, h2, h3⟩ := hr.mapEs hs hes
  have hu := mapB_eq hq
  refine ⟨rfl, ?_⟩
  have h2' := h2
  obtain ⟨⟨L, hL, hLr⟩, hnd, hbn⟩ := h2
  rcases findU_mp hL hLr hf with ⟨rfl, hf'⟩ | ⟨i0, y, E, j, rfl, hi0, _, hj, hf', e3⟩
  · obtain ⟨g1, g2⟩ := hr.setObj h3 hs (x := updEs es k' v none) (o := .map ⟨ES ++ [⟨k', v', es.2⟩]⟩ (es.2 + 1)) ⟨_, rfl, MPs.push (e := ⟨k', v, es.2⟩) (e' := ⟨k', v', es.2⟩) rfl hv rfl h2', rfl, rfl⟩
    refine ⟨σ, _, ?_, g1, g2⟩
    unfold Instr.mapUpdate
    simp only [Sem.run_bind, run_underlying hu, Result.andThen_ok, run_getMap h1, run_checkKey hd hb.1, run_findKey hd hf', run_setMap h1]
    simp
  · have hM : MPs σ (es.1.modify i0 fun e => { e with key := k', val := v }) (ES.modify j fun e => { e with key := k', val := v' }) es.2 := by
      refine ⟨⟨_, perm_modify hL hi0 hj, hLr.modify hv i0⟩, ?_, fun x hx => ?_⟩
      · rw [modify_borns (f := fun e => { e with key := k', val := v' }) (fun _ => rfl)]; exact hnd
      · have hx' : x.born ∈ (ES.modify j fun e => { e with key := k', val := v' }).map (·.born) := List.mem_map.2 ⟨x, hx, rfl⟩
        rw [modify_borns (f := fun e => { e with key := k', val := v' }) (fun _ => rfl)] at hx'
        obtain ⟨z, hz, hzb⟩ := List.mem_map.1 hx'
        rw [← hzb]; exact hbn z hz
    obtain ⟨g1, g2⟩ := hr.setObj h3 hs (x := updEs es k' v (some (i0, y))) (o := .map ⟨ES.modify j fun e => { e with key := k', val := v' }⟩ es.2) ⟨_, rfl, hM, rfl, rfl⟩
    refine ⟨σ, _, ?_, g1, g2⟩
    have hb2 := same_bits e3
    have hkey : (((⟨ES⟩ : Array MapEntry)[j]?).map (·.key)).getD k' = E.key := by simp [hj]
    unfold Instr.mapUpdate
    simp only [Sem.run_bind, run_underlying hu, Result.andThen_ok, run_getMap h1, run_checkKey hd hb.1, run_findKey hd hf', Instr.keyThatStays, hkey, hb2, if_true, Sem.run_pure, run_setMap h1]
    simp

noncomputable def opMakeMap (P : Program) (t : TypeId) (hint : Option Value) (H : AH) : VRes := oc hint (some (.map (some H.next), H.push (.map [] 0))) fun _ => none
theorem makeMap_ok {P : Program} {n0 : Bs} {σ : Ren} {H H' : AH} {w : World} (hr : HR n0 σ H w) {t : TypeId} {hint hint' : Option Value} {v : Value} (hh : hint = none → hint' = none) (h : opMakeMap P t hint H = some (v, H')) : Gives P n0 σ w (Instr.makeMap t hint') v H' := by
  cases hint with
  | some x => cases h
  | none =>
    rw [hh rfl]
    obtain ⟨rfl, rfl⟩ := Prod.mk.inj (Option.some.inj h)
    obtain ⟨h1, h2⟩ := hr.alloc (o := .map #[] 0) (x := .map [] 0) (m := 0) ⟨[], rfl, .nil _ _, rfl, rfl⟩
    exact ⟨.map (some w.heap.size), _, _, by simp [Instr.makeMap, newObj, Sem.run_bind, Sem.run, World.alloc_eq], .map (Ren.put_self _ _ _), h1, h2⟩

/-! a loop over a map: its iterator -/
def isMapD (d : TypeDesc) : Bool :=
  match d with
  | .map _ _ => true
  | _ => false
noncomputable def opRange (P : Program) (t : TypeId) (x : Value) (H : AH) : VRes :=
  oc (mapAddr x) none fun b => oc (mapEs H b) none fun q => oc (P.underlying t) none fun d => sel (isMapD d) (some (.pointer (some ⟨H.next, 0, none⟩), H.push (.iter b q.2))) none
theorem range_ok {P : Program} {n0 : Bs} {σ : Ren} {H H' : AH} {w : World} (hr : HR n0 σ H w) {t : TypeId} {x x' v : Value} (h : opRange P t x H = some (v, H')) (hx : VR σ x x') : Gives P n0 σ w (Instr.range t x') v H' := by
  obtain ⟨b, hb, h⟩ := oc_eq_some h
  obtain ⟨q, hq, h⟩ := oc_eq_some h
  obtain ⟨d, hd, h⟩ := oc_eq_some h
  obtain ⟨hm, h⟩ := sel_none h
  obtain ⟨rfl, rfl⟩ := Prod.mk.inj (Option.some.inj h)
  obtain ⟨c, rfl, hs⟩ := mapAddr_vr hb hx
  obtain ⟨ES, h1, _, _⟩ := hr.mapEs hs hq
  obtain ⟨g1, g2⟩ := hr.alloc (o := .mapIter (some c) q.2 #[] q.2) (x := .iter b q.2) (m := 0) ⟨c, rfl, hr.ext_put _ _ _ hs, rfl, rfl⟩
  refine ⟨.pointer (some ⟨w.heap.size, 0, none⟩), _, _, ?_, by simpa using VR.ptr 0 (Ren.put_self _ _ _), g1, g2⟩
  cases d <;> first | cases hm | skip
  simp [Instr.range, Sem.run_bind, run_underlying hd, getObj, Sem.run, h1, newObj, World.alloc_eq]

end Go.Proofs.Ythomkiindjhdmaa.Ax
