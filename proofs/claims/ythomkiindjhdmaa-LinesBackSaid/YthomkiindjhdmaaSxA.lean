/-
  Values and blocks under other numbers. Own work, plain lemmas.
-/
import Derived.Test.YthomkiindjhdmaaAx5
set_option linter.unusedSimpArgs false
set_option linter.unusedVariables false
set_option linter.unnecessarySimpa false
set_option linter.deprecated false
set_option linter.unusedSectionVars false
namespace Go.Proofs.Ythomkiindjhdmaa.Ax
open Go.RowKit
variable [Tabs]

noncomputable def mapO {α β : Type} (f : α → Option β) (l : List α) : Option (List β) :=
  @List.rec α (fun _ => Option (List β)) (some []) (fun a _ ih => oc (f a) none fun x => oc ih none fun r => some (x :: r)) l
theorem mapO_cons {α β : Type} (f : α → Option β) (a : α) (l : List α) : mapO f (a :: l) = oc (f a) none fun x => oc (mapO f l) none fun r => some (x :: r) := rfl
/-- how numbers are told anew -/
def RenOK (κ : Nat → Option Nat) (σ σ' : Ren) : Prop := ∀ b b', κ b = some b' → ∀ t, σ b = some t → σ' b' = some t

noncomputable def renA (κ : Nat → Option Nat) (a : Addr) : Option Addr := oc a.spot (oc (κ a.block) none fun b => some ⟨b, a.off, none⟩) fun _ => some a
noncomputable def renFn (κ : Nat → Option Nat) (f : Fn) : Option Fn :=
  match f with
  | .func g => some (.func g)
  | .method s => some (.method s)
  | .yield l => oc (κ l) none fun b => some (.yield b)
  | _ => none
noncomputable def renN (κ : Nat → Option Nat) (f : Value → Option Value) (v : Value) : Option Value :=
  match v with
  | .bool b => some (.bool b)
  | .int k n => some (.int k n)
  | .string s => some (.string s)
  | .pointer a => oc a (some (.pointer none)) fun a => oc (renA κ a) none fun a => some (.pointer (some a))
  | .slice a n k => oc a (some (.slice none n k)) fun a => oc (renA κ a) none fun a => some (.slice (some a) n k)
  | .map r => oc r (some (.map none)) fun b => oc (κ b) none fun b => some (.map (some b))
  | .chan r => oc r (some (.chan none)) fun _ => none
  | .float k n => some (.float k n)
  | .nilFunc => some .nilFunc
  | .nilIface => some .nilIface
  | .iface t v => oc (f v) none fun u => some (.iface t u)
  | .agg x => oc (mapO f x.toList) none fun l => some (.agg ⟨l⟩)
  | .tuple x => oc (mapO f x.toList) none fun l => some (.tuple ⟨l⟩)
  | .func g x y => oc (renFn κ g) none fun g => oc (mapO f x.toList) none fun l => oc (mapO f y.toList) none fun k => some (.func g ⟨l⟩ ⟨k⟩)
  | _ => none
noncomputable def renV (κ : Nat → Option Nat) (n : Nat) : Value → Option Value := @Nat.rec (fun _ => Value → Option Value) (fun _ => none) (fun _ ih => renN κ ih) n

theorem mapO_vr {σ σ' : Ren} {f : Value → Option Value} (hf : ∀ v u v', f v = some u → VR σ v v' → VR σ' u v') : ∀ {l k l' : List Value}, mapO f l = some k → VRs σ l l' → VRs σ' k l'
  | [], k, l', h, hl => by obtain rfl := Option.some.inj h; cases hl; exact .nil
  | v :: l, k, l', h, hl => by
    rw [mapO_cons] at h
    obtain ⟨x, hx, h⟩ := oc_eq_some h
    obtain ⟨r, hr, h⟩ := oc_eq_some h
    obtain rfl := Option.some.inj h
    cases hl with
    | cons h1 h2 => exact .cons (hf _ _ _ hx h1) (mapO_vr hf hr h2)
theorem renFn_r {κ : Nat → Option Nat} {σ σ' : Ren} (hκ : RenOK κ σ σ') {f g f' : Fn} (h : renFn κ f = some g) (hf : FnR σ f f') : FnR σ' g f' := by
  cases hf with
  | func f => obtain rfl := Option.some.inj h; exact .func f
  | method s => obtain rfl := Option.some.inj h; exact .method s
  | yield hl =>
    obtain ⟨b, hb, h⟩ := oc_eq_some h
    obtain rfl := Option.some.inj h
    exact .yield (hκ _ _ hb _ hl)
theorem renV_vr {κ : Nat → Option Nat} {σ σ' : Ren} (hκ : RenOK κ σ σ') : ∀ (n : Nat) (v u v' : Value), renV κ n v = some u → VR σ v v' → VR σ' u v' := by
  intro n
  induction n with
  | zero => intro v u v' h; cases h
  | succ n ih =>
    intro v u v' h hv
    have h : renN κ (renV κ n) v = some u := h
    cases hv with
    | bool b => obtain rfl := Option.some.inj h; exact .bool b
    | int k m => obtain rfl := Option.some.inj h; exact .int k m
    | float k m => obtain rfl := Option.some.inj h; exact .float k m
    | string s => obtain rfl := Option.some.inj h; exact .string s
    | ptr0 => obtain rfl := Option.some.inj h; exact .ptr0
    | any w => obtain rfl := Option.some.inj h; exact .any _
    | glob g o => obtain rfl := Option.some.inj h; exact .glob g o
    | ptr o hb =>
      obtain ⟨a, ha, h⟩ := oc_eq_some h
      obtain rfl := Option.some.inj h
      obtain ⟨b', hb', ha⟩ := oc_eq_some ha
      obtain rfl := Option.some.inj ha
      exact .ptr o (hκ _ _ hb' _ hb)
    | slice0 m k => obtain rfl := Option.some.inj h; exact .slice0 m k
    | slice o m k hb hk =>
      obtain ⟨a, ha, h⟩ := oc_eq_some h
      obtain rfl := Option.some.inj h
      obtain ⟨b', hb', ha⟩ := oc_eq_some ha
      obtain rfl := Option.some.inj ha
      exact .slice o m k (hκ _ _ hb' _ hb) hk
    | sliceU o o' m k' es hb hk ho hd hm he =>
      obtain ⟨a, ha, h⟩ := oc_eq_some h
      obtain rfl := Option.some.inj h
      obtain ⟨b', hb', ha⟩ := oc_eq_some ha
      obtain rfl := Option.some.inj ha
      exact .sliceU o o' m k' es (hκ _ _ hb' _ hb) hk ho hd hm he
    | sliceL o m k' es lb hb hk hl hm he =>
      obtain ⟨a, ha, h⟩ := oc_eq_some h
      obtain rfl := Option.some.inj h
      obtain ⟨b', hb', ha⟩ := oc_eq_some ha
      obtain rfl := Option.some.inj ha
      exact .sliceL o m k' es lb (hκ _ _ hb' _ hb) hk hl hm he
    | map0 => obtain rfl := Option.some.inj h; exact .map0
    | map hb =>
      obtain ⟨b', hb', h⟩ := oc_eq_some h
      obtain rfl := Option.some.inj h
      exact .map (hκ _ _ hb' _ hb)
    | func hf hx hxs hy hys =>
      obtain ⟨g, hg, h⟩ := oc_eq_some h
      obtain ⟨l, hl, h⟩ := oc_eq_some h
      obtain ⟨k, hk, h⟩ := oc_eq_some h
      obtain rfl := Option.some.inj h
      exact VRs.func (renFn_r hκ hg hf) (mapO_vr ih hl (VRs.arr hx hxs)) (mapO_vr ih hk (VRs.arr hy hys))
    | nilFunc => obtain rfl := Option.some.inj h; exact .nilFunc
    | iface t hv =>
      obtain ⟨x, hx, h⟩ := oc_eq_some h
      obtain rfl := Option.some.inj h
      exact .iface t (ih _ _ _ hx hv)
    | nilIface => obtain rfl := Option.some.inj h; exact .nilIface
    | agg hx hxs =>
      obtain ⟨l, hl, h⟩ := oc_eq_some h
      obtain rfl := Option.some.inj h
      exact VRs.agg (mapO_vr ih hl (VRs.arr hx hxs))
    | tuple hx hxs =>
      obtain ⟨l, hl, h⟩ := oc_eq_some h
      obtain rfl := Option.some.inj h
      exact VRs.tuple (mapO_vr ih hl (VRs.arr hx hxs))

/-! tries, blocks -/
noncomputable def mapT (f : Value → Option Value) (t : Tr Value) : Option (Tr Value) :=
  @Tr.rec Value (fun _ => Option (Tr Value)) (some .nil) (fun _ v _ ihl ihr => oc ihl none fun l => oc ihr none fun r => oc v (some (.node l none r)) fun x => oc (f x) none fun y => some (.node l (some y) r)) t
theorem mapT_node (f : Value → Option Value) (l : Tr Value) (v : Option Value) (r : Tr Value) : mapT f (.node l v r) = oc (mapT f l) none fun l => oc (mapT f r) none fun r => oc v (some (.node l none r)) fun x => oc (f x) none fun y => some (.node l (some y) r) := rfl
theorem mapT_get {f : Value → Option Value} : ∀ {t t' : Tr Value}, mapT f t = some t' → ∀ n, (t.get n = none ∧ t'.get n = none) ∨ ∃ x y, t.get n = some x ∧ t'.get n = some y ∧ f x = some y
  | .nil, t', h, n => by obtain rfl := Option.some.inj h; exact .inl ⟨rfl, rfl⟩
  | .node l v r, t', h, n => by
    rw [mapT_node] at h
    obtain ⟨l', hl, h⟩ := oc_eq_some h
    obtain ⟨r', hr, h⟩ := oc_eq_some h
    have hl' := mapT_get hl (n / 2)
    have hr' := mapT_get hr (n / 2 - 1)
    cases v with
    | none =>
      obtain rfl := Option.some.inj h
      rw [Tr.get_node, Tr.get_node]
      by_cases h0 : n = 0
      · rw [if_pos h0, if_pos h0]; exact .inl ⟨rfl, rfl⟩
      · rw [if_neg h0, if_neg h0]
        by_cases h1 : n % 2 = 1
        · rw [if_pos h1, if_pos h1]; exact hl'
        · rw [if_neg h1, if_neg h1]; exact hr'
    | some x =>
      obtain ⟨y, hy, h⟩ := oc_eq_some h
      obtain rfl := Option.some.inj h
      rw [Tr.get_node, Tr.get_node]
      by_cases h0 : n = 0
      · rw [if_pos h0, if_pos h0]; exact .inr ⟨x, y, rfl, rfl, hy⟩
      · rw [if_neg h0, if_neg h0]
        by_cases h1 : n % 2 = 1
        · rw [if_pos h1, if_pos h1]; exact hl'
        · rw [if_neg h1, if_neg h1]; exact hr'
/-- nothing in it leads elsewhere -/
def FlatC (c : Tr Value) : Prop := ∀ i v, c.get i = some v → flat v = true
def FlatB (x : ABlk) : Prop :=
  match x with
  | .cells c _ => FlatC c
  | _ => False
noncomputable def renE (κ : Nat → Option Nat) (e : MapEntry) : Option MapEntry := oc (renV κ 9 e.val) none fun v => some { e with val := v }
noncomputable def renB (κ : Nat → Option Nat) (fl : Bool) (x : ABlk) : Option ABlk :=
  match x with
  | .cells c e => sel fl (some (.cells c e)) (oc (mapT (renV κ 9) c) none fun c => some (.cells c e))
  | .loop r => oc (mapT (renV κ 9) r.T) none fun T => oc (κ r.defers) none fun d => some (.loop { r with T := T, defers := d })
  | .marks b => some (.marks b)
  | .map es k => oc (mapO (renE κ) es) none fun es => some (.map es k)
  | .box v e => oc (renV κ 9 v) none fun v => some (.box v e)
  | .pair _ _ => none
  | .iter b k => oc (κ b) none fun b => some (.iter b k)
  | .iterAt b k n => oc (κ b) none fun b => some (.iterAt b k n)
theorem mapT_TR {κ : Nat → Option Nat} {σ σ' : Ren} (hκ : RenOK κ σ σ') {n N : Nat} {T T' : Tr Value} {ts : Array Value} (h : mapT (renV κ n) T = some T') (hT : TR σ N T ts) : TR σ' N T' ts := by
  refine ⟨hT.size, fun i => ?_⟩
  have hs := hT.slot i
  unfold tget at hs ⊢
  rcases mapT_get h i with ⟨h1, h2⟩ | ⟨x, y, h1, h2, h3⟩
  · rw [h2, oc_none]
    rw [h1, oc_none] at hs
    generalize ts.getD i undef = v at hs
    cases hs with
    | tuple hx hxs => exact .tuple hx fun i h => absurd h (Nat.not_lt_zero _)
  · rw [h2, oc_some]
    rw [h1, oc_some] at hs
    exact renV_vr hκ _ _ _ _ h3 hs
theorem mapO_MRs {κ : Nat → Option Nat} {σ σ' : Ren} (hκ : RenOK κ σ σ') : ∀ {l k l' : List MapEntry}, mapO (renE κ) l = some k → MRs σ l l' → MRs σ' k l'
  | [], k, l', h, hl => by obtain rfl := Option.some.inj h; cases hl; exact .nil
  | v :: l, k, l', h, hl => by
    rw [mapO_cons] at h
    obtain ⟨x, hx, h⟩ := oc_eq_some h
    obtain ⟨r, hr, h⟩ := oc_eq_some h
    obtain rfl := Option.some.inj h
    obtain ⟨u, hu, hx⟩ := oc_eq_some hx
    obtain rfl := Option.some.inj hx
    cases hl with
    | cons h1 h2 h3 h4 => exact .cons h1 h2 (renV_vr hκ _ _ _ _ hu h3) (mapO_MRs hκ hr h4)
theorem renB_br {κ : Nat → Option Nat} {σ σ' : Ren} (hκ : RenOK κ σ σ') {fl : Bool} {x y : ABlk} (h : renB κ fl x = some y) (hfl : fl = true → FlatB x) {d m : Nat} {o : Option Obj} (hx : BR σ d m o x) : BR σ' d m o y := by
  cases x with
  | cells c e =>
    obtain ⟨C, h1, h2, h3⟩ := hx
    rcases sel_eq_some h with ⟨hf, h⟩ | ⟨hf, h⟩
    · obtain rfl := Option.some.inj h
      have hF : FlatC c := hfl hf
      refine ⟨C, h1, h2, fun i v hv => ?_⟩
      obtain ⟨v', a, b⟩ := h3 i v hv
      have := flat_same (hF i v hv) b
      subst this
      exact ⟨_, a, flat_vr (hF i _ hv) _⟩
    · obtain ⟨c', hc, h⟩ := oc_eq_some h
      obtain rfl := Option.some.inj h
      refine ⟨C, h1, h2, fun i v hv => ?_⟩
      rcases mapT_get hc i with ⟨_, g2⟩ | ⟨u, w, g1, g2, g3⟩
      · rw [g2] at hv; cases hv
      · rw [g2] at hv
        obtain rfl := Option.some.inj hv
        obtain ⟨v', a, b⟩ := h3 i u g1
        exact ⟨v', a, renV_vr hκ _ _ _ _ g3 b⟩
  | loop r =>
    obtain ⟨T, hT, h⟩ := oc_eq_some h
    obtain ⟨dd, hd, h⟩ := oc_eq_some h
    obtain rfl := Option.some.inj h
    obtain ⟨fn, ts, dc, h1, h2, h3, h4⟩ := hx
    exact ⟨fn, ts, dc, h1, mapT_TR hκ hT h2, hκ _ _ hd _ h3, h4⟩
  | marks b => obtain rfl := Option.some.inj h; exact hx
  | map es k =>
    obtain ⟨es', he, h⟩ := oc_eq_some h
    obtain rfl := Option.some.inj h
    obtain ⟨ES, h1, h2, h3, h4⟩ := hx
    exact ⟨ES, h1, mapO_MRs hκ he h2, h3, h4⟩
  | pair c e => cases h
  | box v e =>
    obtain ⟨u, hu, h⟩ := oc_eq_some h
    obtain rfl := Option.some.inj h
    obtain ⟨v', h1, h2, h3⟩ := hx
    exact ⟨v', h1, renV_vr hκ _ _ _ _ hu h2, h3⟩
  | iter b k =>
    obtain ⟨b', hb, h⟩ := oc_eq_some h
    obtain rfl := Option.some.inj h
    obtain ⟨c, h1, h2, h3⟩ := hx
    exact ⟨c, h1, hκ _ _ hb _ h2, h3⟩
  | iterAt b k n =>
    obtain ⟨b', hb, h⟩ := oc_eq_some h
    obtain rfl := Option.some.inj h
    obtain ⟨c, seen, h1, h2, h3⟩ := hx
    exact ⟨c, seen, h1, hκ _ _ hb _ h2, h3⟩
noncomputable def renD (κ : Nat → Option Nat) (d : DItem) : Option DItem :=
  match d with
  | .mark b => oc (κ b) none fun b => some (.mark b)
  | .call g cap => oc (mapO (renV κ 9) cap) none fun c => some (.call g c)
theorem mapO_DR {κ : Nat → Option Nat} {σ σ' : Ren} (hκ : RenOK κ σ σ') : ∀ {l k : List DItem} {ds : List Deferred}, mapO (renD κ) l = some k → DR σ l ds → DR σ' k ds
  | [], k, ds, h, hl => by obtain rfl := Option.some.inj h; cases hl; exact .nil
  | v :: l, k, ds, h, hl => by
    rw [mapO_cons] at h
    obtain ⟨x, hx, h⟩ := oc_eq_some h
    obtain ⟨r, hr, h⟩ := oc_eq_some h
    obtain rfl := Option.some.inj h
    cases hl with
    | cons h1 h2 =>
      obtain ⟨b, hb, hx⟩ := oc_eq_some hx
      obtain rfl := Option.some.inj hx
      exact .cons (hκ _ _ hb _ h1) (mapO_DR hκ hr h2)
    | call h1 h2 =>
      obtain ⟨c, hc, hx⟩ := oc_eq_some hx
      obtain rfl := Option.some.inj hx
      exact .call (mapO_vr (fun v u v' a b => renV_vr hκ _ _ _ _ a b) hc h1) (mapO_DR hκ hr h2)

end Go.Proofs.Ythomkiindjhdmaa.Ax
