/-
  Maps whose keys are numbers or strings. Own work, plain lemmas.
-/
import Derived.Test.YthomkiindjhdmaaAxZ
set_option linter.unusedSimpArgs false
set_option linter.unusedVariables false
set_option linter.unnecessarySimpa false
set_option linter.deprecated false
set_option linter.unusedSectionVars false
namespace Go.Proofs.Ythomkiindjhdmaa.Ax
open Go.RowKit
variable [Tabs]

noncomputable def AH.setB (H : AH) (b : Nat) (x : ABlk) : AH := ⟨H.blocks.set b x, H.next, Nat.min H.low b⟩
def setObjW (w : World) (c : Nat) (o : Obj) : World := { w with heap := w.heap.setIfInBounds c o }

theorem HR.setObj {n0 : Bs} {σ : Ren} {H : AH} {w : World} (hr : HR n0 σ H w) {b : Nat} {y x : ABlk} (hb : H.blocks.get b = some y) {c d m : Nat} (hs : σ b = some (c, d, m)) {o : Obj} (hx : BR σ d m (some o) x) :
    HR n0 σ (H.setB b x) (setObjW w c o) ∧ Step n0 σ w (Nat.min H.low b) σ (setObjW w c o) := by
  have hlt := hr.img b c d m hs
  have hcn : n0.n.Own c := by
    obtain ⟨c', d', m', hs', hn, _⟩ := hr.blk b y hb
    rw [hs] at hs'
    injection hs' with hs'
    injection hs' with e1 _
    exact e1 ▸ hn
  have self : (setObjW w c o).heap[c]? = some o := by simp [setObjW, hlt]
  have oth : ∀ k, k ≠ c → (setObjW w c o).heap[k]? = w.heap[k]? := fun k hk => by simp [setObjW, Array.getElem?_setIfInBounds_ne (Ne.symm hk)]
  have get : ∀ bb xx, (H.setB b x).blocks.get bb = some xx → (bb = b ∧ xx = x) ∨ (bb ≠ b ∧ H.blocks.get bb = some xx) := fun bb xx h => by
    simp only [AH.setB, Tr.get_set] at h
    by_cases e : bb = b
    · rw [if_pos e] at h; exact .inl ⟨e, (Option.some.inj h).symm⟩
    · rw [if_neg e] at h; exact .inr ⟨e, h⟩
  have old : ∀ bb xx, (H.setB b x).blocks.get bb = some xx → ∃ yy, H.blocks.get bb = some yy := fun bb xx h => by
    rcases get bb xx h with ⟨rfl, _⟩ | ⟨_, h⟩
    · exact ⟨y, hb⟩
    · exact ⟨xx, h⟩
  refine ⟨⟨base_size hr.base (by simp [setObjW]) (fun k hk => oth k (by have := hcn.1; omega)), ?_, ?_, hr.dom, fun bb c' d' m' h => by simpa [setObjW] using hr.img bb c' d' m' h, hr.hol⟩, ⟨.refl σ, ⟨rfl, rfl, rfl, by simp [setObjW], fun k hk => oth k (by have := hcn.1; omega)⟩, ?_⟩⟩
  · intro bb xx h
    rcases get bb xx h with ⟨rfl, rfl⟩ | ⟨hne, h⟩
    · exact ⟨c, d, m, hs, hcn, by rw [self]; exact hx⟩
    · obtain ⟨c₁, d₁, m₁, hs₁, hn₁, hB⟩ := hr.blk bb xx h
      have : c₁ ≠ c := fun ec => hne (hr.inj bb b xx y c d₁ m₁ d m h hb (ec ▸ hs₁) hs)
      exact ⟨c₁, d₁, m₁, hs₁, hn₁, by rw [oth c₁ this]; exact hB⟩
  · intro b₁ b₂ x₁ x₂ c' d₁ m₁ d₂ m₂ h1 h2 s1 s2
    obtain ⟨y₁, h1⟩ := old _ _ h1
    obtain ⟨y₂, h2⟩ := old _ _ h2
    exact hr.inj b₁ b₂ y₁ y₂ c' d₁ m₁ d₂ m₂ h1 h2 s1 s2
  · intro c' hc hlow
    have hne : c' ≠ c := fun ec => by
      subst ec
      rcases hlow with hq | hlow
      · exact hcn.2 hq
      · exact absurd (hlow b d m hs) (Nat.not_lt.2 (Nat.min_le_right _ _))
    exact ⟨oth c' hne, fun _ _ _ h => h⟩


def mapOfD (d : TypeDesc) : Option (TypeId × TypeId) :=
  match d with
  | .map k e => some (k, e)
  | _ => none
def keyKind (d : TypeDesc) : Bool :=
  match d with
  | .int _ => true
  | .string => true
  | _ => false
noncomputable def mapB (P : Program) (t : TypeId) : Option (TypeId × TypeId) := oc (P.underlying t) none mapOfD
theorem mapB_eq {P : Program} {t : TypeId} {q : TypeId × TypeId} (h : mapB P t = some q) : P.underlying t = some (.map q.1 q.2) := by
  obtain ⟨d, hd, h⟩ := oc_eq_some h
  unfold mapOfD at h
  split at h
  · obtain rfl := Option.some.inj h; exact hd
  · cases h
def mapOf (x : ABlk) : Option (List MapEntry × Nat) :=
  match x with
  | .map es c => some (es, c)
  | _ => none
theorem mapOf_eq {x : ABlk} {q : List MapEntry × Nat} (h : mapOf x = some q) : x = .map q.1 q.2 := by
  unfold mapOf at h
  split at h
  · obtain rfl := Option.some.inj h; rfl
  · cases h
def mapAddr (v : Value) : Option Nat :=
  match v with
  | .map (some b) => some b
  | _ => none
theorem mapAddr_vr {σ : Ren} {v v' : Value} {b : Nat} (h : mapAddr v = some b) (hv : VR σ v v') : ∃ c, v' = .map (some c) ∧ σ b = some (c, 0, 0) := by
  unfold mapAddr at h
  split at h
  · obtain rfl := Option.some.inj h
    cases hv with
    | map hs => exact ⟨_, rfl, hs⟩
  · cases h
noncomputable def mapEs (H : AH) (b : Nat) : Option (List MapEntry × Nat) := oc (H.blocks.get b) none mapOf
theorem HR.mapEs {n0 : Bs} {σ : Ren} {H : AH} {w : World} (hr : HR n0 σ H w) {b c : Nat} (hs : σ b = some (c, 0, 0)) {q : List MapEntry × Nat} (h : mapEs H b = some q) : ∃ ES, w.heap[c]? = some (.map ⟨ES⟩ q.2) ∧ MRs σ q.1 ES ∧ H.blocks.get b = some (.map q.1 q.2) := by
  obtain ⟨x, hx, h⟩ := oc_eq_some h
  obtain rfl := mapOf_eq h
  obtain ⟨c', d', m', hs', _, ES, h1, h2, _, _⟩ := hr.blk b _ hx
  rw [hs] at hs'
  injection hs' with hs'
  injection hs' with e1 hs'
  subst e1
  exact ⟨ES, h1, h2, hx⟩
theorem findNow_mr {σ : Ren} {kd : TypeDesc} {k : Value} {l l' : List MapEntry} (h : MRs σ l l') : ∀ {i : Nat} {r : Option (Nat × Value)}, Instr.findNow kd k l i = some r →
    (r = none ∧ Instr.findNow kd k l' i = some none) ∨ ∃ j v v', r = some (j, v) ∧ Instr.findNow kd k l' i = some (some (j, v')) ∧ VR σ v v' := by
  induction h with
  | nil => intro i r h; exact .inl ⟨(Option.some.inj h).symm, rfl⟩
  | @cons e e' l l' hk hb hv _ ih =>
    intro i r h
    unfold Instr.findNow at h ⊢
    rw [hk]
    split at h
    · rename_i hs
      obtain rfl := Option.some.inj h
      exact .inr ⟨i, _, _, rfl, by simp [hs], hv⟩
    · rename_i hs
      have := ih h
      simpa [hs] using this
    · cases h
theorem findNow_at {kd : TypeDesc} {k : Value} : ∀ {l : List MapEntry} {i j : Nat} {v : Value}, Instr.findNow kd k l i = some (some (j, v)) → ∃ n e, j = i + n ∧ l[n]? = some e ∧ Instr.sameNow kd k e.key = some true
  | [], i, j, v, h => by cases h
  | e :: l, i, j, v, h => by
    unfold Instr.findNow at h
    split at h
    · rename_i hs
      obtain ⟨rfl, rfl⟩ := Prod.mk.inj (Option.some.inj (Option.some.inj h))
      exact ⟨0, e, rfl, rfl, hs⟩
    · obtain ⟨n, e', h1, h2, h3⟩ := findNow_at h
      exact ⟨n + 1, e', by omega, by simpa using h2, h3⟩
    · cases h
theorem same_bits {kd : TypeDesc} {k k' : Value} (h : Instr.sameNow kd k k' = some true) : Instr.sameBits 10000 k' k = true := by
  unfold Instr.sameNow at h
  split at h
  · split at h
    · rename_i e
      subst e
      have h := eq_of_beq (Option.some.inj h)
      subst h
      simp [Instr.sameBits]
    · cases h
  · rename_i a b
    have h := Option.some.inj h
    have e : a = b := by
      have h' : (a.data == b.data) = true := h
      have := eq_of_beq h'
      cases a; cases b; simp_all
    subst e
    simpa [Instr.sameBits] using h
  · have h := eq_of_beq (Option.some.inj h)
    subst h
    simp [Instr.sameBits]
  · cases h
theorem MRs.get {σ : Ren} {l l' : List MapEntry} (h : MRs σ l l') : ∀ {n : Nat} {e : MapEntry}, l'[n]? = some e → ∃ e₀, l[n]? = some e₀ ∧ e.key = e₀.key := by
  induction h with
  | nil => intro n e h; simp at h
  | cons hk _ _ _ ih =>
    intro n e h
    cases n with
    | zero =>
      obtain rfl : _ = e := by simpa using h
      exact ⟨_, by simp, hk⟩
    | succ n => simpa using ih (by simpa using h)
theorem MRs.modify {σ : Ren} {k v v' : Value} (hv : VR σ v v') {l l' : List MapEntry} (h : MRs σ l l') : ∀ (i : Nat), MRs σ (l.modify i fun e => { e with key := k, val := v }) (l'.modify i fun e => { e with key := k, val := v' }) := by
  induction h with
  | nil => intro i; cases i <;> exact .nil
  | cons hk hb hv' hl ih =>
    intro i
    cases i with
    | zero => exact .cons rfl hb hv hl
    | succ i => exact .cons hk hb hv' (ih i)
theorem MRs.push {σ : Ren} {e e' : MapEntry} (hk : e'.key = e.key) (hb : e'.born = e.born) (hv : VR σ e.val e'.val) {l l' : List MapEntry} (h : MRs σ l l') : MRs σ (l ++ [e]) (l' ++ [e']) := by
  induction h with
  | nil => exact .cons hk hb hv .nil
  | cons hk' hb' hv' _ ih => exact .cons hk' hb' hv' ih
theorem run_checkKey {P : Program} {w : World} {t : TypeId} {d : TypeDesc} (h : P.underlying t = some d) (hk : keyKind d = true) (b : Bool) (v : Value) : (Instr.checkKey b 10000 t v).run P w = .ok () w := by
  unfold Instr.checkKey
  simp only [Sem.run_bind, run_underlying h, Result.andThen_ok]
  cases d <;> first | (cases hk; done) | (cases v <;> simp)
theorem run_findKey {P : Program} {w : World} {t : TypeId} {d : TypeDesc} (h : P.underlying t = some d) {k : Value} {es : List MapEntry} {r : Option (Nat × Value)} (hf : Instr.findNow d k es 0 = some r) : (Instr.findKey t k es).run P w = .ok r w := by
  unfold Instr.findKey
  simp only [Sem.run_bind, run_underlying h, Result.andThen_ok, hf, Sem.run_pure]
theorem run_getMap {P : Program} {w : World} {c : Nat} {es : Array MapEntry} {q : Nat} (h : w.heap[c]? = some (.map es q)) : (getObj c).run P w = .ok (.map es q) w := by
  simp [getObj, Sem.run, h]
theorem run_setMap {P : Program} {w : World} {c : Nat} {es : Array MapEntry} {q : Nat} (h : w.heap[c]? = some (.map es q)) (o : Obj) : (setObj c o).run P w = .ok () (setObjW w c o) := by
  simp [setObj, Sem.run, h, setObjW]

/-- a value that holds no address, or is made of such -/
def plainV (v : Value) : Bool :=
  flat v || (match v with
    | .agg x => flatL x.toList
    | _ => false)
theorem plainV_vr {v : Value} (h : plainV v = true) (σ : Ren) : VR σ v v := by
  unfold plainV at h
  rw [Bool.or_eq_true] at h
  rcases h with h | h
  · exact flat_vr h σ
  · split at h
    · exact VRs.agg (flatL_vr h σ)
    · cases h
noncomputable def zeroV (P : Program) (t : TypeId) : Option Value := oc (P.info? t) none fun i => oc i.zero none fun z => sel (plainV z) (some z) none
theorem run_zeroV {P : Program} {t : TypeId} {z : Value} (h : zeroV P t = some z) (w : World) : (zeroValue t).run P w = .ok z w ∧ plainV z = true := by
  obtain ⟨i, hi, h⟩ := oc_eq_some h
  obtain ⟨z', hz, h⟩ := oc_eq_some h
  obtain ⟨hp, h⟩ := sel_none h
  obtain rfl := Option.some.inj h
  exact ⟨by simp [zeroValue, typeInfo, hi, hz], hp⟩

noncomputable def lookRes (P : Program) (e : TypeId) (ok : Bool) (H : AH) (r : Option (Nat × Value)) : VRes :=
  oc r (oc (zeroV P e) none fun z => some (sel ok (.tuple ⟨[z, .bool false]⟩) z, H)) fun p => some (sel ok (.tuple ⟨[p.2, .bool true]⟩) p.2, H)
noncomputable def opLookup (P : Program) (t : TypeId) (x k : Value) (ok : Bool) (H : AH) : VRes :=
  oc (mapB P t) none fun q => oc (P.underlying q.1) none fun d => sel (keyKind d && flat k) (oc (mapAddr x) none fun b => oc (mapEs H b) none fun es => oc (Instr.findNow d k es.1 0) none fun r => lookRes P q.2 ok H r) none
theorem lookup_ok {P : Program} {n0 : Bs} {σ : Ren} {H H' : AH} {w : World} (hr : HR n0 σ H w) {t : TypeId} {x x' k k' v : Value} {ok : Bool} (h : opLookup P t x k ok H = some (v, H')) (hx : VR σ x x') (hk : VR σ k k') : GivesP P n0 σ w H (Instr.lookup t x' k' ok) v H' := by
  obtain ⟨q, hq, h⟩ := oc_eq_some h
  obtain ⟨d, hd, h⟩ := oc_eq_some h
  obtain ⟨hb, h⟩ := sel_none h
  obtain ⟨b, hb', h⟩ := oc_eq_some h
  obtain ⟨es, hes, h⟩ := oc_eq_some h
  obtain ⟨r, hf, h⟩ := oc_eq_some h
  simp only [Bool.and_eq_true] at hb
  obtain rfl := flat_same hb.2 hk
  obtain ⟨c, rfl, hs⟩ := mapAddr_vr hb' hx
  obtain ⟨ES, h1, h2, _⟩ := hr.mapEs hs hes
  have hu := mapB_eq hq
  rcases findNow_mr h2 hf with ⟨rfl, hf'⟩ | ⟨j, u, u', rfl, hf', hv⟩
  · obtain ⟨z, hz, h⟩ := oc_eq_some h
    obtain ⟨rfl, rfl⟩ := Prod.mk.inj (Option.some.inj h)
    obtain ⟨z1, z2⟩ := run_zeroV hz w
    refine GivesP.pure (v' := sel ok (.tuple ⟨[z, .bool false]⟩) z) hr ?_ ?_
    · unfold Instr.lookup
      simp only [Sem.run_bind, run_underlying hu, Result.andThen_ok, run_getMap h1, run_checkKey hd hb.1, run_findKey hd hf', z1, Sem.run_pure]
      cases ok <;> rfl
    · cases ok
      · exact plainV_vr z2 σ
      · exact VRs.tuple (.cons (plainV_vr z2 σ) (.cons (.bool _) .nil))
  · obtain ⟨rfl, rfl⟩ := Prod.mk.inj (Option.some.inj h)
    refine GivesP.pure (v' := sel ok (.tuple ⟨[u', .bool true]⟩) u') hr ?_ ?_
    · unfold Instr.lookup
      simp only [Sem.run_bind, run_underlying hu, Result.andThen_ok, run_getMap h1, run_checkKey hd hb.1, run_findKey hd hf', Sem.run_pure]
      cases ok <;> rfl
    · cases ok
      · exact hv
      · exact VRs.tuple (.cons hv (.cons (.bool _) .nil))

noncomputable def updEs (es : List MapEntry × Nat) (k v : Value) (r : Option (Nat × Value)) : ABlk :=
  oc r (.map (es.1 ++ [⟨k, v, es.2⟩]) (Nat.succ es.2)) fun p => .map (es.1.modify p.1 fun e => { e with key := k, val := v }) es.2
noncomputable def opUpdate (P : Program) (t : TypeId) (x k v : Value) (H : AH) : VRes :=
  oc (mapB P t) none fun q => oc (P.underlying q.1) none fun d => sel (keyKind d && flat k) (oc (mapAddr x) none fun b => oc (mapEs H b) none fun es => oc (Instr.findNow d k es.1 0) none fun r => some (undef, H.setB b (updEs es k v r))) none
theorem update_ok {P : Program} {n0 : Bs} {σ : Ren} {H H' : AH} {w : World} (hr : HR n0 σ H w) {t : TypeId} {x x' k k' v v' u : Value} (h : opUpdate P t x k v H = some (u, H')) (hx : VR σ x x') (hk : VR σ k k') (hv : VR σ v v') : u = undef ∧ GivesU P n0 σ w (Instr.mapUpdate t x' k' v') H' := by
  obtain ⟨q, hq, h⟩ := oc_eq_some h
  obtain ⟨d, hd, h⟩ := oc_eq_some h
  obtain ⟨hb, h⟩ := sel_none h
  obtain ⟨b, hb', h⟩ := oc_eq_some h
  obtain ⟨es, hes, h⟩ := oc_eq_some h
  obtain ⟨r, hf, h⟩ := oc_eq_some h
  obtain ⟨rfl, rfl⟩ := Prod.mk.inj (Option.some.inj h)
  simp only [Bool.and_eq_true] at hb
  obtain rfl := flat_same hb.2 hk
  obtain ⟨c, rfl, hs⟩ := mapAddr_vr hb' hx
  obtain ⟨ES, h1, h2, h3⟩ := hr.mapEs hs hes
  have hu := mapB_eq hq
  refine ⟨rfl, ?_⟩
  rcases findNow_mr h2 hf with ⟨rfl, hf'⟩ | ⟨j, y, y', rfl, hf', _⟩
  · obtain ⟨g1, g2⟩ := hr.setObj h3 hs (x := updEs es k' v none) (o := .map ⟨ES ++ [⟨k', v', es.2⟩]⟩ (es.2 + 1)) ⟨_, rfl, MRs.push (e := ⟨k', v, es.2⟩) (e' := ⟨k', v', es.2⟩) rfl rfl hv h2, rfl, rfl⟩
    refine ⟨σ, _, ?_, g1, g2⟩
    unfold Instr.mapUpdate
    simp only [Sem.run_bind, run_underlying hu, Result.andThen_ok, run_getMap h1, run_checkKey hd hb.1, run_findKey hd hf', run_setMap h1]
    simp
  · obtain ⟨n, e, e1, e2, e3⟩ := findNow_at hf'
    have e1 : j = n := by omega
    subst e1
    obtain ⟨g1, g2⟩ := hr.setObj h3 hs (x := updEs es k' v (some (j, y))) (o := .map ⟨ES.modify j fun e => { e with key := k', val := v' }⟩ es.2) ⟨_, rfl, h2.modify hv j, rfl, rfl⟩
    refine ⟨σ, _, ?_, g1, g2⟩
    have hb2 := same_bits e3
    have hkey : (((⟨ES⟩ : Array MapEntry)[j]?).map (·.key)).getD k' = e.key := by simp [e2]
    unfold Instr.mapUpdate
    simp only [Sem.run_bind, run_underlying hu, Result.andThen_ok, run_getMap h1, run_checkKey hd hb.1, run_findKey hd hf', Instr.keyThatStays, hkey, hb2, if_true, Sem.run_pure, run_setMap h1]
    simp

noncomputable def opMakeMap (P : Program) (t : TypeId) (hint : Option Value) (H : AH) : VRes := oc hint (some (.map (some H.next), H.push (.map [] 0))) fun _ => none
theorem makeMap_ok {P : Program} {n0 : Bs} {σ : Ren} {H H' : AH} {w : World} (hr : HR n0 σ H w) {t : TypeId} {hint hint' : Option Value} {v : Value} (hh : hint = none → hint' = none) (h : opMakeMap P t hint H = some (v, H')) : Gives P n0 σ w (Instr.makeMap t hint') v H' := by
  cases hint with
  | some x => cases h
  | none =>
    rw [hh rfl]
    obtain ⟨rfl, rfl⟩ := Prod.mk.inj (Option.some.inj h)
    obtain ⟨h1, h2⟩ := hr.alloc (o := .map #[] 0) (x := .map [] 0) (m := 0) ⟨[], rfl, .nil, rfl, rfl⟩
    exact ⟨.map (some w.heap.size), _, _, by simp [Instr.makeMap, newObj, Sem.run_bind, Sem.run, World.alloc_eq], .map (Ren.put_self _ _ _), h1, h2⟩

/-! a loop over a map: its iterator -/
def isMapD (d : TypeDesc) : Bool :=
  match d with
  | .map _ _ => true
  | _ => false
noncomputable def opRange (P : Program) (t : TypeId) (x : Value) (H : AH) : VRes :=
  oc (mapAddr x) none fun b => oc (mapEs H b) none fun q => oc (P.underlying t) none fun d => sel (isMapD d) (some (.pointer (some ⟨H.next, 0, none⟩), H.push (.iter b q.2))) none
theorem range_ok {P : Program} {n0 : Bs} {σ : Ren} {H H' : AH} {w : World} (hr : HR n0 σ H w) {t : TypeId} {x x' v : Value} (h : opRange P t x H = some (v, H')) (hx : VR σ x x') : Gives P n0 σ w (Instr.range t x') v H' := by
  obtain ⟨b, hb, h⟩ := oc_eq_some h
  obtain ⟨q, hq, h⟩ := oc_eq_some h
  obtain ⟨d, hd, h⟩ := oc_eq_some h
  obtain ⟨hm, h⟩ := sel_none h
  obtain ⟨rfl, rfl⟩ := Prod.mk.inj (Option.some.inj h)
  obtain ⟨c, rfl, hs⟩ := mapAddr_vr hb hx
  obtain ⟨ES, h1, _, _⟩ := hr.mapEs hs hq
  obtain ⟨g1, g2⟩ := hr.alloc (o := .mapIter (some c) q.2 #[] q.2) (x := .iter b q.2) (m := 0) ⟨c, rfl, hr.ext_put _ _ _ hs, rfl, rfl⟩
  refine ⟨.pointer (some ⟨w.heap.size, 0, none⟩), _, _, ?_, by simpa using VR.ptr 0 (Ren.put_self _ _ _), g1, g2⟩
  cases d <;> first | cases hm | skip
  simp [Instr.range, Sem.run_bind, run_underlying hd, getObj, Sem.run, h1, newObj, World.alloc_eq]
def iterOf (x : ABlk) : Option (Nat × Nat × Nat) :=
  match x with
  | .iterAt m c b => some (m, c, b)
  | _ => none
theorem iterOf_eq {x : ABlk} {r : Nat × Nat × Nat} (h : iterOf x = some r) : x = .iterAt r.1 r.2.1 r.2.2 := by
  unfold iterOf at h
  split at h
  · obtain rfl := Option.some.inj h; rfl
  · cases h
noncomputable def findBorn (b : Nat) (l : List MapEntry) : Option MapEntry := @List.rec MapEntry (fun _ => Option MapEntry) none (fun e _ ih => sel (Nat.beq e.born b) (some e) ih) l
theorem findBorn_ok {σ : Ren} {b : Nat} {l l' : List MapEntry} (hl : MRs σ l l') : ∀ {e : MapEntry}, findBorn b l = some e → ∃ e', l'.find? (·.born == b) = some e' ∧ e'.key = e.key ∧ VR σ e.val e'.val := by
  induction hl with
  | nil => intro e h; cases h
  | @cons a a' l l' hk hb hv _ ih =>
    intro e h
    rcases sel_eq_some (show sel (Nat.beq a.born b) (some a) (findBorn b l) = some e from h) with ⟨h1, h⟩ | ⟨h1, h⟩
    · obtain rfl := Option.some.inj h
      have : a'.born = b := hb.trans (Nat.eq_of_beq_eq_true h1)
      exact ⟨a', by simp [List.find?, this], hk, hv⟩
    · obtain ⟨e', q1, q2⟩ := ih h
      have : ¬ a'.born = b := fun e => by rw [hb] at e; rw [e, Nat.beq_refl] at h1; cases h1
      have this : (a'.born == b) = false := by simpa using this
      exact ⟨e', by simp [List.find?, this, q1], q2⟩
noncomputable def opEntry (x : Value) (H : AH) : VRes :=
  oc (addrOf x) none fun a => sel (Nat.beq a.2 0) (oc (H.blocks.get a.1) none fun y => oc (iterOf y) none fun r => oc (mapEs H r.1) none fun q => sel (Nat.beq r.2.1 q.2) (oc (findBorn r.2.2 q.1) none fun e => sel (flat e.key) (some (.tuple ⟨[e.key, e.val]⟩, H)) none) none) none
theorem entry_ok {P : Program} {n0 : Bs} {σ : Ren} {H H' : AH} {w : World} (hr : HR n0 σ H w) {x x' v : Value} (h : opEntry x H = some (v, H')) (hx : VR σ x x') : GivesP P n0 σ w H (Instr.entry x') v H' := by
  obtain ⟨a, ha, h⟩ := oc_eq_some h
  obtain ⟨h0, h⟩ := sel_none h
  obtain ⟨y, hy, h⟩ := oc_eq_some h
  obtain ⟨r, hi, h⟩ := oc_eq_some h
  obtain ⟨q, hq, h⟩ := oc_eq_some h
  obtain ⟨hck, h⟩ := sel_none h
  obtain ⟨e, he, h⟩ := oc_eq_some h
  obtain ⟨hf, h⟩ := sel_none h
  obtain ⟨rfl, rfl⟩ := Prod.mk.inj (Option.some.inj h)
  obtain rfl := iterOf_eq hi
  obtain ⟨c, d, m, hs, rfl⟩ := addrOf_vr ha hx
  obtain ⟨c', d', m', hs', _, cm, seen, hobj, hm, rfl, rfl⟩ := hr.blk _ _ hy
  rw [hs] at hs'
  injection hs' with hs'
  injection hs' with e1 hs'
  injection hs' with e2 e3
  subst e1 e2 e3
  obtain ⟨ES, h1, h2, _⟩ := hr.mapEs hm hq
  obtain ⟨e', q1, q2, q3⟩ := findBorn_ok h2 he
  have h0 := Nat.eq_of_beq_eq_true h0
  have hck := Nat.eq_of_beq_eq_true hck
  refine GivesP.pure (v' := .tuple ⟨[e'.key, e'.val]⟩) hr ?_ (VRs.tuple (.cons (by rw [q2]; exact flat_vr hf σ) (.cons q3 .nil)))
  rw [h0]
  have q1 : (⟨ES⟩ : Array MapEntry).find? (·.born == r.2.2) = some e' := by rw [← Array.find?_toList]; exact q1
  simp [Instr.entry, getObj, Sem.run_bind, Sem.run, hobj, h1, hck, Array.back?_push, q1]

end Go.Proofs.Ythomkiindjhdmaa.Ax
