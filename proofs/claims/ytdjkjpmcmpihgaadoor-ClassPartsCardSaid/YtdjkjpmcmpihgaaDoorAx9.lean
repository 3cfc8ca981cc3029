/-
 Values and blocks under other numbers. Own work, plain lemmas.
-/
import Derived.Test.YtdjkjpmcmpihgaaDoorAx5
set_option linter.unusedSimpArgs false
set_option linter.unusedVariables false
set_option linter.unnecessarySimpa false
set_option linter.deprecated false
set_option linter.unusedSectionVars false
/-! Values and blocks under other numbers. Own work, plain lemmas. -/
namespace Go.Proofs.YtdjkjpmcmpihgaaDoor.Ax
open Go.RowKit
variable [Tabs]
noncomputable def mapO {α β : Type} (f : α → Option β) (l : List α) : Option (List β) :=
 @List.rec α (fun _ => Option (List β)) (some []) (fun a _ ih => oc (f a) none fun x => oc ih none fun r => some (x :: r)) l
theorem qxi_ {α β : Type} (f : α → Option β) (a : α) (l : List α) : mapO f (a :: l) = oc (f a) none fun x => oc (mapO f l) none fun r => some (x :: r) := rfl
structure Kap where
 f : Nat → Option Nat
 φ : Nat → Option Nat
 ν : Bool
 μ : Nat → Bool
instance : CoeFun Kap (fun _ => Nat → Option Nat) := ⟨Kap.f⟩
instance : Coe (Nat → Option Nat) Kap := ⟨fun f => ⟨f, fun _ => none, false, fun _ => false⟩⟩
structure RenOK (κ : Kap) (σ σ' : Ren) : Prop where
 f : ∀ b b', κ b = some b' → ∀ t, σ b = some t → σ' b' = some t
 z : ∀ j c d, σ.z j c d → σ'.z j c d
 φ : ∀ b j, κ.φ b = some j → Tabs.frz j = true ∧ ∀ c d m, σ b = some (c, d, m) → σ'.z j c d
theorem RenOK.plain {f : Nat → Option Nat} {σ σ' : Ren} (h : ∀ b b', f b = some b' → ∀ t, σ b = some t → σ' b' = some t) (hz : ∀ j c d, σ.z j c d → σ'.z j c d) : RenOK f σ σ' := ⟨h, hz, fun b j hj => by cases hj⟩
instance {κ : Kap} {σ σ' : Ren} : CoeFun (RenOK κ σ σ') (fun _ => ∀ b b', κ b = some b' → ∀ t, σ b = some t → σ' b' = some t) := ⟨RenOK.f⟩
theorem WinAt.zmono {σ σ' : Ren} (h : ∀ j c d, σ.z j c d → σ'.z j c d) {j b d : Nat} (hw : WinAt σ j b d) : WinAt σ' j b d := by
 cases hw with
 | arg h1 hz => exact .arg h1 hz
 | frz hz h1 => exact .frz hz (h _ _ _ h1)
noncomputable def renA (κ : Kap) (a : Addr) : Option Addr := oc a.spot (oc (κ a.block) none fun b => some ⟨b, a.off, none⟩) fun _ => some a
noncomputable def frzA (κ : Kap) (a : Addr) : Option Nat := oc a.spot (κ.φ a.block) fun _ => none
noncomputable def frzS (j o n : Nat) : Option Value := some (.slice (some ⟨j, o, some 1⟩) n (Nat.add big n))
noncomputable def renFn (κ : Kap) (f : Fn) : Option Fn :=
 match f with
 | .func g => some (.func g)
 | .method s => some (.method s)
 | .yield l => oc (κ l) none fun b => some (.yield b)
 | _ => none
def nil0 : Value := .slice (some ⟨64, 0, some 1⟩) 0 0
noncomputable def nilE (f : Value → Option Value) (v : Value) : Option Value :=
 match v with
 | .slice none 0 0 => some nil0
 | v => f v
noncomputable def renN (κ : Kap) (f : Value → Option Value) (v : Value) : Option Value :=
 match v with
 | .bool b => some (.bool b)
 | .int k n => some (.int k n)
 | .string s => some (.string s)
 | .pointer a => oc a (some (.pointer none)) fun a => oc (renA κ a) none fun a => some (.pointer (some a))
 | .slice a n k => oc a (some (.slice none n k)) fun a => oc (frzA κ a) (oc (renA κ a) none fun a => some (.slice (some a) n k)) fun j => frzS j a.off n
 | .map r => oc r (some (.map none)) fun b => oc (κ b) none fun b => some (.map (some b))
 | .chan r => oc r (some (.chan none)) fun _ => none
 | .float k n => some (.float k n)
 | .nilFunc => some .nilFunc
 | .nilIface => some .nilIface
 | .iface t v => oc (f v) none fun u => some (.iface t u)
 | .agg x => oc (mapO (@Bool.rec (fun _ => Value → Option Value) f (nilE f) κ.ν) x.toList) none fun l => some (.agg ⟨l⟩)
 | .tuple x => oc (mapO f x.toList) none fun l => some (.tuple ⟨l⟩)
 | .func g x y => oc (renFn κ g) none fun g => oc (mapO f x.toList) none fun l => oc (mapO f y.toList) none fun k => some (.func g ⟨l⟩ ⟨k⟩)
 | _ => none
noncomputable def renV (κ : Kap) (n : Nat) : Value → Option Value := @Nat.rec (fun _ => Value → Option Value) (fun _ => none) (fun _ ih => renN κ ih) n
theorem qs8_ {σ σ' : Ren} {f : Value → Option Value} (hf : ∀ v u v', f v = some u → VR σ v v' → VR σ' u v') : ∀ {l k l' : List Value}, mapO f l = some k → VRs σ l l' → VRs σ' k l'
 | [], k, l', h, hl => by obtain rfl := oI h; cases hl; exact .nil
 | v :: l, k, l', h, hl => by
  rw [qxi_] at h
  obtain ⟨x, hx, h⟩ := oS h
  obtain ⟨r, hr, h⟩ := oS h
  obtain rfl := oI h
  cases hl with
  | cons h1 h2 => exact .cons (hf _ _ _ hx h1) (qs8_ hf hr h2)
theorem renFn_r {κ : Kap} {σ σ' : Ren} (hκ : RenOK κ σ σ') {f g f' : Fn} (h : renFn κ f = some g) (hf : FnR σ f f') : FnR σ' g f' := by
 cases hf with
 | func f => obtain rfl := oI h; exact .func f
 | method s => obtain rfl := oI h; exact .method s
 | yield hl =>
  obtain ⟨b, hb, h⟩ := oS h
  obtain rfl := oI h
  exact .yield (hκ _ _ hb _ hl)
theorem qow_ {κ : Kap} {σ σ' : Ren} (hκ : RenOK κ σ σ') : ∀ (n : Nat) (v u v' : Value), renV κ n v = some u → VR σ v v' → VR σ' u v' := by
 intro n
 induction n with
 | zero => intro v u v' h; cases h
 | succ n ih =>
  intro v u v' h hv
  have h : renN κ (renV κ n) v = some u := h
  cases hv with
  | bool b => obtain rfl := oI h; exact .bool b
  | int k m => obtain rfl := oI h; exact .int k m
  | float k m => obtain rfl := oI h; exact .float k m
  | string s => obtain rfl := oI h; exact .string s
  | ptr0 => obtain rfl := oI h; exact .ptr0
  | any w => obtain rfl := oI h; exact .any _
  | zeros n => cases h
  | glob g o => obtain rfl := oI h; exact .glob g o
  | win o hj => obtain rfl := oI h; exact .win o (hj.zmono hκ.z)
  | winS o m k hj hk hn => obtain rfl := oI h; exact .winS o m k (hj.zmono hκ.z) hk hn
  | winU o m k kk hj hn hk => obtain rfl := oI h; exact .winU o m k kk (hj.zmono hκ.z) hn hk
  | winU0 j o k kk a hk => obtain rfl := oI h; exact .winU0 j o k kk a hk
  | win0 j o k a hk => obtain rfl := oI h; exact .win0 j o k a hk
  | ptr o hb =>
   obtain ⟨a, ha, h⟩ := oS h
   obtain rfl := oI h
   obtain ⟨b', hb', ha⟩ := oS ha
   obtain rfl := oI ha
   exact .ptr o (hκ _ _ hb' _ hb)
  | slice0 m k => obtain rfl := oI h; exact .slice0 m k
  | @slice b c d mm o m k hb hk hn9 =>
   have h : oc (frzA κ ⟨b, o, none⟩) (oc (renA κ ⟨b, o, none⟩) none fun a => some (.slice (some a) m k)) (fun j => frzS j o m) = some u := h
   cases hφ : κ.φ b with
   | none =>
    rw [show frzA κ ⟨b, o, none⟩ = none from hφ, oc_none] at h
    obtain ⟨a, ha, h⟩ := oS h
    obtain rfl := oI h
    obtain ⟨b', hb', ha⟩ := oS ha
    obtain rfl := oI ha
    exact .slice o m k (hκ _ _ hb' _ hb) hk hn9
   | some j =>
    rw [show frzA κ ⟨b, o, none⟩ = some j from hφ, oc_some] at h
    obtain ⟨hz, hc⟩ := hκ.φ b j hφ
    obtain rfl := oI h
    exact .winU o m k _ (.frz hz (hc _ _ _ hb)) hn9 (Nat.le_refl _)
  | @sliceU b c d mm o o' m k' es hb hk ho hd hm he =>
   have h : oc (frzA κ ⟨b, o, none⟩) (oc (renA κ ⟨b, o, none⟩) none fun a => some (.slice (some a) m (big + es))) (fun j => frzS j o m) = some u := h
   cases hφ : κ.φ b with
   | none =>
    rw [show frzA κ ⟨b, o, none⟩ = none from hφ, oc_none] at h
    obtain ⟨a, ha, h⟩ := oS h
    obtain rfl := oI h
    obtain ⟨b', hb', ha⟩ := oS ha
    obtain rfl := oI ha
    exact .sliceU o o' m k' es (hκ _ _ hb' _ hb) hk ho hd hm he
   | some j =>
    rw [show frzA κ ⟨b, o, none⟩ = some j from hφ, oc_some] at h
    obtain ⟨hz, hc⟩ := hκ.φ b j hφ
    obtain rfl := oI h
    rcases ho with rfl | rfl
    ·exact .winU0 _ _ _ _ _ (Nat.le_add_right _ _)
    ·exact .winU o m k' _ (.frz hz (hc _ _ _ hb)) hk (Nat.le_refl _)
  | @sliceL b c d mm o m k' es lb hb hk hl hm he =>
   have h : oc (frzA κ ⟨b, o, none⟩) (oc (renA κ ⟨b, o, none⟩) none fun a => some (.slice (some a) m (bigL es lb))) (fun j => frzS j o m) = some u := h
   cases hφ : κ.φ b with
   | none =>
    rw [show frzA κ ⟨b, o, none⟩ = none from hφ, oc_none] at h
    obtain ⟨a, ha, h⟩ := oS h
    obtain rfl := oI h
    obtain ⟨b', hb', ha⟩ := oS ha
    obtain rfl := oI ha
    exact .sliceL o m k' es lb (hκ _ _ hb' _ hb) hk hl hm he
   | some j =>
    rw [show frzA κ ⟨b, o, none⟩ = some j from hφ, oc_some] at h
    obtain ⟨hz, hc⟩ := hκ.φ b j hφ
    obtain rfl := oI h
    exact .winU o m k' _ (.frz hz (hc _ _ _ hb)) hk (Nat.le_refl _)
  | map0 => obtain rfl := oI h; exact .map0
  | map hb =>
   obtain ⟨b', hb', h⟩ := oS h
   obtain rfl := oI h
   exact .map (hκ _ _ hb' _ hb)
  | func hf hx hxs hy hys =>
   obtain ⟨g, hg, h⟩ := oS h
   obtain ⟨l, hl, h⟩ := oS h
   obtain ⟨k, hk, h⟩ := oS h
   obtain rfl := oI h
   exact VRs.func (renFn_r hκ hg hf) (qs8_ ih hl (VRs.arr hx hxs)) (qs8_ ih hk (VRs.arr hy hys))
  | nilFunc => obtain rfl := oI h; exact .nilFunc
  | iface t hv =>
   obtain ⟨x, hx, h⟩ := oS h
   obtain rfl := oI h
   exact .iface t (ih _ _ _ hx hv)
  | nilIface => obtain rfl := oI h; exact .nilIface
  | agg hx hxs =>
   obtain ⟨l, hl, h⟩ := oS h
   obtain rfl := oI h
   cases hν : κ.ν with
   | false =>
    rw [hν] at hl
    exact VRs.agg (qs8_ ih hl (VRs.arr hx hxs))
   | true =>
    rw [hν] at hl
    refine VRs.agg (qs8_ (f := nilE (renV κ n)) (fun v u v' h1 h2 => ?_) hl (VRs.arr hx hxs))
    unfold nilE at h1
    split at h1
    ·obtain rfl := oI h1
     cases h2
     exact .win0 64 0 0 none (by decide)
    ·exact ih v u v' h1 h2
  | tuple hx hxs =>
   obtain ⟨l, hl, h⟩ := oS h
   obtain rfl := oI h
   exact VRs.tuple (qs8_ ih hl (VRs.arr hx hxs))
theorem nilE_vr {σ σ' : Ren} {f : Value → Option Value} (hf : ∀ v u v', f v = some u → VR σ v v' → VR σ' u v') (b : Bool) : ∀ v u v', (@Bool.rec (fun _ => Value → Option Value) f (nilE f) b) v = some u → VR σ v v' → VR σ' u v' := by
 cases b with
 | false => exact hf
 | true =>
  intro v u v' h1 h2
  have h1 : nilE f v = some u := h1
  unfold nilE at h1
  split at h1
  ·obtain rfl := oI h1
   cases h2
   exact .win0 64 0 0 none (by decide)
  ·exact hf v u v' h1 h2
noncomputable def mapT (f : Value → Option Value) (t : Tr Value) : Option (Tr Value) :=
 @Tr.rec Value (fun _ => Option (Tr Value)) (some .nil) (fun _ v _ ihl ihr => oc ihl none fun l => oc ihr none fun r => oc v (some (.node l none r)) fun x => oc (f x) none fun y => some (.node l (some y) r)) t
theorem mapT_node (f : Value → Option Value) (l : Tr Value) (v : Option Value) (r : Tr Value) : mapT f (.node l v r) = oc (mapT f l) none fun l => oc (mapT f r) none fun r => oc v (some (.node l none r)) fun x => oc (f x) none fun y => some (.node l (some y) r) := rfl
theorem qu7_ {f : Value → Option Value} : ∀ {t t' : Tr Value}, mapT f t = some t' → ∀ n, (t.get n = none ∧ t'.get n = none) ∨ ∃ x y, t.get n = some x ∧ t'.get n = some y ∧ f x = some y
 | .nil, t', h, n => by obtain rfl := oI h; exact .inl ⟨rfl, rfl⟩
 | .node l v r, t', h, n => by
  rw [mapT_node] at h
  obtain ⟨l', hl, h⟩ := oS h
  obtain ⟨r', hr, h⟩ := oS h
  have hl' := qu7_ hl (n / 2)
  have hr' := qu7_ hr (n / 2 - 1)
  cases v with
  | none =>
   obtain rfl := oI h
   rw [Tr.get_node, Tr.get_node]
   by_cases h0 : n = 0
   ·rw [if_pos h0, if_pos h0]; exact .inl ⟨rfl, rfl⟩
   ·rw [if_neg h0, if_neg h0]
    by_cases h1 : n % 2 = 1
    ·rw [if_pos h1, if_pos h1]; exact hl'
    ·rw [if_neg h1, if_neg h1]; exact hr'
  | some x =>
   obtain ⟨y, hy, h⟩ := oS h
   obtain rfl := oI h
   rw [Tr.get_node, Tr.get_node]
   by_cases h0 : n = 0
   ·rw [if_pos h0, if_pos h0]; exact .inr ⟨x, y, rfl, rfl, hy⟩
   ·rw [if_neg h0, if_neg h0]
    by_cases h1 : n % 2 = 1
    ·rw [if_pos h1, if_pos h1]; exact hl'
    ·rw [if_neg h1, if_neg h1]; exact hr'
def stayV (v : Value) : Bool :=
 match v with
 | .slice (some ⟨_, _, some 1⟩) _ _ => true
 | v => flat v
theorem stay_vr {v v' : Value} (h : stayV v = true) {σ σ' : Ren} (hz : ∀ j c d, σ.z j c d → σ'.z j c d) (hv : VR σ v v') : VR σ' v v' := by
 unfold stayV at h
 split at h
 ·rename_i b o n k
  cases hv with
  | winS _ _ _ hj hk hn => exact .winS _ _ _ (hj.zmono hz) hk hn
  | win0 _ _ _ a hk => exact .win0 _ _ _ a hk
  | winU _ _ _ _ hj hn hk => exact .winU _ _ _ _ (hj.zmono hz) hn hk
  | winU0 _ _ _ _ a hk => exact .winU0 _ _ _ _ a hk
 ·have := qj4_ h hv
  subst this
  exact qrf_ h σ'
def FlatC (c : Tr Value) : Prop := ∀ i v, c.get i = some v → stayV v = true
def FlatB (x : ABlk) : Prop :=
 match x with
 | .cells c _ => FlatC c
 | .map es _ => ∀ e ∈ es, plain e.val = true
 | _ => False
theorem plain_stay {v v' : Value} (h : plain v = true) {σ σ' : Ren} (hv : VR σ v v') : VR σ' v v' := by
 have e := qo7_ h hv
 subst e
 unfold plain at h
 split at h
 ·exact VRs.agg (qlh_ h σ')
 ·exact qrf_ h σ'
theorem MRs.stay {σ σ' : Ren} {l l' : List MapEntry} (h : MRs σ l l') : (∀ e ∈ l, plain e.val = true) → MRs σ' l l' := by
 induction h with
 | nil => exact fun _ => .nil
 | cons hk hv _ ih => exact fun hp => .cons hk (plain_stay (hp _ (List.mem_cons_self ..)) hv) (ih fun e he => hp e (List.mem_cons_of_mem _ he))
noncomputable def renE (κ : Kap) (e : MapEntry) : Option MapEntry := oc (renV κ 9 e.val) none fun v => some { e with val := v }
noncomputable def renB (κ : Kap) (fl : Bool) (x : ABlk) : Option ABlk :=
 match x with
 | .cells c e => sel fl (some (.cells c e)) (oc (mapT (@Bool.rec (fun _ => Value → Option Value) (renV κ 9) (nilE (renV κ 9)) (κ.μ e)) c) none fun c => some (.cells c e))
 | .loop r => oc (mapT (renV κ 9) r.T) none fun T => oc (κ r.defers) none fun d => some (.loop { r with T := T, defers := d })
 | .marks b => some (.marks b)
 | .map es k => sel fl (some (.map es k)) (oc (mapO (renE κ) es) none fun es => some (.map es k))
 | .box v e => oc (renV κ 9 v) none fun v => some (.box v e)
 | .pair c e => oc (mapT (renV κ 9) c) none fun c => some (.pair c e)
 | .zeros _ _ => none
 | .iter b k => oc (κ b) none fun b => some (.iter b k)
 | .iterAt b k n => oc (κ b) none fun b => some (.iterAt b k n)
theorem mapT_TR {κ : Kap} {σ σ' : Ren} (hκ : RenOK κ σ σ') {n N : Nat} {T T' : Tr Value} {ts : Array Value} (h : mapT (renV κ n) T = some T') (hT : TR σ N T ts) : TR σ' N T' ts := by
 refine ⟨hT.size, fun i => ?_⟩
 have hs := hT.slot i
 unfold tget at hs ⊢
 rcases qu7_ h i with ⟨h1, h2⟩ | ⟨x, y, h1, h2, h3⟩
 ·rw [h2, oc_none]
  rw [h1, oc_none] at hs
  generalize ts.getD i undef = v at hs
  cases hs with
  | tuple hx hxs => exact .tuple hx fun i h => absurd h (Nat.not_lt_zero _)
 ·rw [h2, oc_some]
  rw [h1, oc_some] at hs
  exact qow_ hκ _ _ _ _ h3 hs
theorem mapO_MRs {κ : Kap} {σ σ' : Ren} (hκ : RenOK κ σ σ') : ∀ {l k l' : List MapEntry}, mapO (renE κ) l = some k → MRs σ l l' → MRs σ' k l'
 | [], k, l', h, hl => by obtain rfl := oI h; cases hl; exact .nil
 | v :: l, k, l', h, hl => by
  rw [qxi_] at h
  obtain ⟨x, hx, h⟩ := oS h
  obtain ⟨r, hr, h⟩ := oS h
  obtain rfl := oI h
  obtain ⟨u, hu, hx⟩ := oS hx
  obtain rfl := oI hx
  cases hl with
  | cons h1 h3 h4 => exact .cons h1 (qow_ hκ _ _ _ _ hu h3) (mapO_MRs hκ hr h4)
theorem qwm_ {κ : Kap} {σ σ' : Ren} (hκ : RenOK κ σ σ') {fl : Bool} {x y : ABlk} (h : renB κ fl x = some y) (hfl : fl = true → FlatB x) {d m : Nat} {o : Option Obj} (hx : BR σ d m o x) : BR σ' d m o y := by
 cases x with
 | cells c e =>
  obtain ⟨C, h1, h2, h3⟩ := hx
  rcases qb_ h with ⟨hf, h⟩ | ⟨hf, h⟩
  ·obtain rfl := oI h
   have hF : FlatC c := hfl hf
   refine ⟨C, h1, h2, fun i v hv => ?_⟩
   obtain ⟨v', a, b⟩ := h3 i v hv
   exact ⟨_, a, stay_vr (hF i _ hv) hκ.z b⟩
  ·obtain ⟨c', hc, h⟩ := oS h
   obtain rfl := oI h
   refine ⟨C, h1, h2, fun i v hv => ?_⟩
   rcases qu7_ hc i with ⟨_, g2⟩ | ⟨u, w, g1, g2, g3⟩
   ·rw [g2] at hv; cases hv
   ·rw [g2] at hv
    obtain rfl := oI hv
    obtain ⟨v', a, b⟩ := h3 i u g1
    exact ⟨v', a, nilE_vr (qow_ hκ 9) _ _ _ _ g3 b⟩
 | loop r =>
  obtain ⟨T, hT, h⟩ := oS h
  obtain ⟨dd, hd, h⟩ := oS h
  obtain rfl := oI h
  obtain ⟨fn, ts, dc, h1, h2, h3, h4⟩ := hx
  exact ⟨fn, ts, dc, h1, mapT_TR hκ hT h2, hκ _ _ hd _ h3, h4⟩
 | marks b => obtain rfl := oI h; exact hx
 | map es k =>
  obtain ⟨ES, h1, h2, h3, h4⟩ := hx
  obtain ⟨⟨L, p1, p2⟩, p3⟩ := h2
  rcases qb_ h with ⟨hf, h⟩ | ⟨hf, h⟩
  ·obtain rfl := oI h
   exact ⟨ES, h1, ⟨⟨L, p1, p2.stay (hfl hf)⟩, p3⟩, h3, h4⟩
  obtain ⟨es', he, h⟩ := oS h
  obtain rfl := oI h
  exact ⟨ES, h1, ⟨⟨L, p1, mapO_MRs hκ he p2⟩, p3⟩, h3, h4⟩
 | pair c e =>
  obtain ⟨c', hc, h⟩ := oS h
  obtain rfl := oI h
  obtain ⟨C, h1, h2, h3, h4⟩ := hx
  refine ⟨C, h1, h2, fun i v hv => ?_, h4⟩
  rcases qu7_ hc i with ⟨_, g2⟩ | ⟨u, w, g1, g2, g3⟩
  ·rw [g2] at hv; cases hv
  ·rw [g2] at hv
   obtain rfl := oI hv
   obtain ⟨v', a, b⟩ := h3 i u g1
   exact ⟨v', a, qow_ hκ _ _ _ _ g3 b⟩
 | zeros n e => cases h
 | box v e =>
  obtain ⟨u, hu, h⟩ := oS h
  obtain rfl := oI h
  obtain ⟨v', h1, h2, h3⟩ := hx
  exact ⟨v', h1, qow_ hκ _ _ _ _ hu h2, h3⟩
 | iter b k =>
  obtain ⟨b', hb, h⟩ := oS h
  obtain rfl := oI h
  obtain ⟨c, h1, h2, h3⟩ := hx
  exact ⟨c, h1, hκ _ _ hb _ h2, h3⟩
 | iterAt b k n =>
  obtain ⟨b', hb, h⟩ := oS h
  obtain rfl := oI h
  obtain ⟨c, seen, h1, h2, h3⟩ := hx
  exact ⟨c, seen, h1, hκ _ _ hb _ h2, h3⟩
noncomputable def renD (κ : Kap) (d : DItem) : Option DItem :=
 match d with
 | .mark b => oc (κ b) none fun b => some (.mark b)
 | .call g cap => oc (mapO (renV κ 9) cap) none fun c => some (.call g c)
theorem mapO_DR {κ : Kap} {σ σ' : Ren} (hκ : RenOK κ σ σ') : ∀ {l k : List DItem} {ds : List Deferred}, mapO (renD κ) l = some k → DR σ l ds → DR σ' k ds
 | [], k, ds, h, hl => by obtain rfl := oI h; cases hl; exact .nil
 | v :: l, k, ds, h, hl => by
  rw [qxi_] at h
  obtain ⟨x, hx, h⟩ := oS h
  obtain ⟨r, hr, h⟩ := oS h
  obtain rfl := oI h
  cases hl with
  | cons h1 h2 =>
   obtain ⟨b, hb, hx⟩ := oS hx
   obtain rfl := oI hx
   exact .cons (hκ _ _ hb _ h1) (mapO_DR hκ hr h2)
  | call h1 h2 =>
   obtain ⟨c, hc, hx⟩ := oS hx
   obtain rfl := oI hx
   exact .call (qs8_ (fun v u v' a b => qow_ hκ _ _ _ _ a b) hc h1) (mapO_DR hκ hr h2)
end Go.Proofs.YtdjkjpmcmpihgaaDoor.Ax
namespace Go.Proofs.YtdjkjpmcmpihgaaDoor.Ax
open Go.RowKit
variable [Tabs]
noncomputable def upK (d b : Nat) : Option Nat := some (Nat.add b d)
noncomputable def dnK (d b : Nat) : Option Nat := sel (Nat.ble d b) (some (Nat.sub b d)) none
noncomputable def upV (d : Nat) (v : Value) : Value := oc (renV (upK d) 9 v) v fun u => u
noncomputable def upL (d : Nat) (l : List Value) : List Value := @List.rec Value (fun _ => List Value) [] (fun v _ ih => upV d v :: ih) l
noncomputable def upM (d : Nat) (l : List MapEntry) : List MapEntry := @List.rec MapEntry (fun _ => List MapEntry) [] (fun e _ ih => ⟨e.key, upV d e.val, e.born⟩ :: ih) l
noncomputable def upLB (d : Nat) (b : LB) : LB :=
 match b with
 | .cells e l => .cells e (upL d l)
 | .map l c => .map (upM d l) c
 | .iter m c => .iter (Nat.add m d) c
 | .pair e l => .pair e (upL d l)
noncomputable def upB (d : Nat) (b : LBlk) : LBlk := ⟨Nat.add b.num d, upLB d b.blk⟩
noncomputable def upBs (d : Nat) (l : List LBlk) : List LBlk := @List.rec LBlk (fun _ => List LBlk) [] (fun b _ ih => upB d b :: ih) l
theorem mem_upBs {d : Nat} {l : List LBlk} {x : LBlk} : x ∈ upBs d l ↔ ∃ b ∈ l, x = upB d b := by
 induction l with
 | nil => exact ⟨fun h => (List.not_mem_nil h).elim, fun ⟨_, h, _⟩ => (List.not_mem_nil h).elim⟩
 | cons b l ih =>
  show x ∈ upB d b :: upBs d l ↔ _
  simp [ih]
noncomputable def Entry.up (e : Entry) (d : Nat) : Entry := ⟨e.f, upL d e.args, upBs d e.ins, Nat.add e.num d, upV d e.val, upBs d e.outs, Nat.add e.next d⟩
noncomputable def backL (d : Nat) (l : List Value) : Bool := @List.rec Value (fun _ => Bool) true (fun v _ ih => oc (renV (dnK d) 9 (upV d v)) false (fun u => veq u v) && ih) l
noncomputable def backB (d : Nat) (l : List LBlk) : Bool := @List.rec LBlk (fun _ => Bool) true (fun b _ ih => oc (renB (dnK d) false (upLB d b.blk).lay) false (fun y => b.blk.sub y) && ih) l
noncomputable def forB (d : Nat) (l : List LBlk) : Bool := @List.rec LBlk (fun _ => Bool) true (fun b _ ih => oc (renB (upK d) false b.blk.lay) false (fun y => (upLB d b.blk).sub y) && ih) l
noncomputable def upOk (e : Entry) (d : Nat) : Bool :=
 backL d e.args && (backB d e.ins && (insOk (layO .nil e.ins) e.ins && (oc (renV (upK d) 9 e.val) false (fun _ => true) && (insOk (layO (layO .nil e.ins) e.outs) e.outs && (forB d e.outs && (allGe e.num e.outs && Nat.ble e.num e.next))))))
theorem backL_ok {d : Nat} {σ σ0 : Ren} (hκ : RenOK (dnK d) σ σ0) : ∀ {l l' : List Value}, backL d l = true → VRs σ (upL d l) l' → VRs σ0 l l'
 | [], l', _, hl => by cases hl; exact .nil
 | v :: l, l', h, hl => by
  have h : (oc (renV (dnK d) 9 (upV d v)) false (fun u => veq u v) && backL d l) = true := h
  simp only [bA] at h
  have hl : VRs σ (upV d v :: upL d l) l' := hl
  cases hl with
  | cons h1 h2 =>
   refine .cons ?_ (backL_ok hκ h.2 h2)
   cases hr : renV (dnK d) 9 (upV d v) with
   | none => rw [hr] at h; exact absurd h.1 Bool.false_ne_true
   | some u =>
    rw [hr] at h
    have e : u = v := quv_ h.1
    exact qow_ hκ _ _ _ _ (e ▸ hr) h1
theorem backB_ok {d : Nat} : ∀ {l : List LBlk}, backB d l = true → ∀ b ∈ l, ∃ y, renB (dnK d) false (upLB d b.blk).lay = some y ∧ b.blk.sub y = true
 | [], _, b, hb => by cases hb
 | a :: l, h, b, hb => by
  have h : (oc (renB (dnK d) false (upLB d a.blk).lay) false (fun y => a.blk.sub y) && backB d l) = true := h
  simp only [bA] at h
  rcases List.mem_cons.1 hb with rfl | hb
  ·cases hr : renB (dnK d) false (upLB d b.blk).lay with
   | none => rw [hr] at h; exact absurd h.1 Bool.false_ne_true
   | some y => rw [hr] at h; exact ⟨y, rfl, h.1⟩
  ·exact backB_ok h.2 b hb
theorem forB_ok {d : Nat} : ∀ {l : List LBlk}, forB d l = true → ∀ b ∈ l, ∃ y, renB (upK d) false b.blk.lay = some y ∧ (upLB d b.blk).sub y = true
 | [], _, b, hb => by cases hb
 | a :: l, h, b, hb => by
  have h : (oc (renB (upK d) false a.blk.lay) false (fun y => (upLB d a.blk).sub y) && forB d l) = true := h
  simp only [bA] at h
  rcases List.mem_cons.1 hb with rfl | hb
  ·cases hr : renB (upK d) false b.blk.lay with
   | none => rw [hr] at h; exact absurd h.1 Bool.false_ne_true
   | some y => rw [hr] at h; exact ⟨y, rfl, h.1⟩
  ·exact forB_ok h.2 b hb
theorem EntryOK.up {P : Program} {e : Entry} (he : EntryOK P e) {d : Nat} (hc : upOk e d = true) : EntryOK P (e.up d) := by
 unfold upOk at hc
 simp only [bA] at hc
 obtain ⟨c1, c2, c3, c4, c5, c6, c7, c8⟩ := hc
 have c8 := Nat.le_of_ble_eq_true c8
 intro n X H σ w args' hins hnum hargs hr
 have hnum : H.next = e.num + d := hnum
 let σ0 : Ren := ⟨fun b => σ (b + d), σ.z⟩
 have hdn : RenOK (dnK d) σ σ0 := .plain (fun b b' h t ht => by
  obtain ⟨h1, h2⟩ := sel_none h
  have h1 := Nat.le_of_ble_eq_true h1
  obtain rfl := oI h2
  show σ (b - d + d) = some t
  rw [Nat.sub_add_cancel h1]; exact ht) fun _ _ _ h => h
 have hr0 : HR ⟨n, fun b => X (b + d)⟩ σ0 ⟨layO .nil e.ins, e.num, e.num⟩ w := by
  have old : ∀ {b x}, (layO .nil e.ins).get b = some x → ∃ y, H.blocks.get (b + d) = some y ∧ ∀ {c m o}, BR σ c m o y → BR σ0 c m o x := by
   intro b x hx
   rcases qu5_ hx with ⟨c, hc, rfl, rfl⟩ | h0
   ·obtain ⟨y, h1, h2⟩ := qru_ hins (upB d c) (mem_upBs.2 ⟨c, hc, rfl⟩)
    obtain ⟨z, h3, h4⟩ := backB_ok c2 c hc
    exact ⟨y, h1, fun q => LB.sub_br h4 (qwm_ hdn h3 (fun h => by cases h) (LB.sub_br h2 q))⟩
   ·rw [Tr.get_nil] at h0; cases h0
  refine ⟨hr.base, ?_, ?_, fun b t ht => ?_, fun b c d m hb => hr.img _ c d m hb, fun b hb => ?_, hr.frz.mono (fun _ _ _ h => h) (Nat.le_refl _) fun c hc hn => ⟨rfl, fun b t h => hn (b + d) t h⟩⟩
  ·intro b x hx
   obtain ⟨y, h1, h2⟩ := old hx
   obtain ⟨c, d', m, q1, q2, q3⟩ := hr.blk _ y h1
   exact ⟨c, d', m, q1, q2, h2 q3⟩
  ·intro b₁ b₂ x₁ x₂ c d₁ m₁ d₂ m₂ h1 h2 s1 s2
   obtain ⟨y₁, h1, _⟩ := old h1
   obtain ⟨y₂, h2, _⟩ := old h2
   have := hr.inj _ _ y₁ y₂ c d₁ m₁ d₂ m₂ h1 h2 s1 s2
   omega
  ·have := hr.dom _ _ ht
   show b < e.num
   omega
  ·obtain ⟨h1, h2⟩ := hr.hol _ hb
   exact ⟨by show b < e.num; omega, h2⟩
 obtain ⟨g1, g2⟩ := he n (fun b => X (b + d)) ⟨layO .nil e.ins, e.num, e.num⟩ σ0 w args' c3 rfl (backL_ok hdn c1 hargs) hr0
 refine ⟨g1, fun k => CallsIn.mono (g2 k) ?_⟩
 rintro en w' ⟨v', σ1, rfl, q1, q2, q3⟩
 let σ' : Ren := ⟨fun b => if b < d then σ b else σ1 (b - d), σ1.z⟩
 have hlo : ∀ b, b < d → σ' b = σ b := fun b h => if_pos h
 have hhi : ∀ b, σ' (b + d) = σ1 b := fun b => by
  show (if b + d < d then _ else σ1 (b + d - d)) = _
  rw [if_neg (by omega), Nat.add_sub_cancel]
 have hsp : ∀ b, b < d ∨ ∃ c, b = c + d := fun b => by
  rcases Nat.lt_or_ge b d with h | h
  ·exact .inl h
  ·exact .inr ⟨b - d, by omega⟩
 have hup : RenOK (upK d) σ1 σ' := .plain (fun b b' h t ht => by
  obtain rfl := oI h
  show σ' (b + d) = some t
  rw [hhi]; exact ht) fun _ _ _ h => h
 have hext : σ.Ext σ' := ⟨fun b t hb => by
  rcases hsp b with h | ⟨c, rfl⟩
  ·rw [hlo b h]; exact hb
  ·rw [hhi]; exact q3.ext c t hb, fun j c d h => q3.ext.z j c d h⟩
 have cond : ∀ c b d' m, σ0 b = some (c, d', m) → b < Nat.min e.num e.num := fun c b d' m hs => by
  have e1 : Nat.min e.num e.num = e.num := Nat.min_self _
  rw [e1]
  exact hr0.dom _ _ hs
 have keep : ∀ c, c < w.heap.size → w'.heap[c]? = w.heap[c]? ∧ ∀ b d' m, σ' b = some (c, d', m) → σ b = some (c, d', m) := fun c hc => by
  obtain ⟨k1, k2⟩ := q3.keep c hc (.inr (cond c))
  refine ⟨k1, fun b d' m hs => ?_⟩
  rcases hsp b with h | ⟨x, rfl⟩
  ·rw [hlo b h] at hs; exact hs
  ·rw [hhi] at hs; exact k2 _ _ _ hs
 have hv : VR σ' (upV d e.val) v' := by
  unfold upV
  cases hr : renV (upK d) 9 e.val with
  | none => rw [hr] at c4; cases c4
  | some u => exact qow_ hup _ _ _ _ hr q1
 have cases2 : ∀ {b x}, (layO H.blocks (upBs d e.outs)).get b = some x → (∃ i y, b = i + d ∧ e.num ≤ i ∧ (layO (layO .nil e.ins) e.outs).get i = some y ∧ ∀ {c m o}, BR σ1 c m o y → BR σ' c m o x) ∨ H.blocks.get b = some x := by
  intro b x hx
  rcases qu5_ hx with ⟨c', hc', rfl, rfl⟩ | h0
  ·obtain ⟨c, hc, rfl⟩ := mem_upBs.1 hc'
   obtain ⟨y, h1, h2⟩ := qru_ c5 c hc
   obtain ⟨z, h3, h4⟩ := forB_ok c6 c hc
   exact .inl ⟨c.num, y, rfl, qxg_ c7 c hc, h1, fun q => LB.sub_br h4 (qwm_ hup h3 (fun h => by cases h) (LB.sub_br h2 q))⟩
  ·exact .inr h0
 refine ⟨v', σ', rfl, hv, ⟨q2.base, ?_, ?_, ?_, ?_, ?_, ?_⟩, ⟨hext, q3.below, fun c hc _ => keep c hc, fun c hc _ j dd hj => q3.kz c hc (.inr (cond c)) j dd hj⟩⟩
 ·intro b x hx
  rcases cases2 hx with ⟨i, y, rfl, _, h1, h2⟩ | h1
  ·obtain ⟨c, d', m, r1, r2, r3⟩ := q2.blk i y h1
   exact ⟨c, d', m, by rw [hhi]; exact r1, r2, h2 r3⟩
  ·obtain ⟨c, d', m, r1, r2, r3⟩ := hr.blk b x h1
   exact ⟨c, d', m, hext _ _ r1, r2, by rw [(keep c (hr.img _ _ _ _ r1)).1]; exact r3.mono hext⟩
 ·have on : ∀ {b₁ i x c d₁ m₁ d₂ m₂}, H.blocks.get b₁ = some x → e.num ≤ i → σ' b₁ = some (c, d₁, m₁) → σ' (i + d) = some (c, d₂, m₂) → False := by
   intro b₁ i x c d₁ m₁ d₂ m₂ h1 h2 s1 s2
   obtain ⟨c', d', m, r1, _, _⟩ := hr.blk b₁ x h1
   have e' := hext _ _ r1
   rw [s1] at e'
   injection e' with e'
   injection e' with e' _
   subst e'
   have := hr.dom _ _ ((keep c (hr.img _ _ _ _ r1)).2 _ _ _ s2)
   omega
  intro b₁ b₂ x₁ x₂ c d₁ m₁ d₂ m₂ h1 h2 s1 s2
  rcases cases2 h1 with ⟨i₁, y₁, rfl, g1, h1, _⟩ | h1
  ·rcases cases2 h2 with ⟨i₂, y₂, rfl, g2, h2, _⟩ | h2
   ·rw [hhi] at s1 s2
    rw [q2.inj _ _ y₁ y₂ c d₁ m₁ d₂ m₂ h1 h2 s1 s2]
   ·exact (on h2 g1 s2 s1).elim
  ·rcases cases2 h2 with ⟨i₂, y₂, rfl, g2, h2, _⟩ | h2
   ·exact (on h1 g2 s1 s2).elim
   ·obtain ⟨c₁, e₁, k₁, r1, _, _⟩ := hr.blk b₁ x₁ h1
    obtain ⟨c₂, e₂, k₂, r2, _, _⟩ := hr.blk b₂ x₂ h2
    have f1 := hext _ _ r1
    have f2 := hext _ _ r2
    rw [s1] at f1
    rw [s2] at f2
    injection f1 with f1
    injection f1 with f1 _
    injection f2 with f2
    injection f2 with f2 _
    exact hr.inj b₁ b₂ x₁ x₂ c e₁ k₁ e₂ k₂ h1 h2 (f1 ▸ r1) (f2 ▸ r2)
 ·intro b t hb
  show b < e.next + d
  rcases hsp b with h | ⟨c, rfl⟩
  ·omega
  ·rw [hhi] at hb
   have : c < e.next := q2.dom _ _ hb
   omega
 ·intro b c d' m hb
  rcases hsp b with h | ⟨x, rfl⟩
  ·rw [hlo b h] at hb
   exact Nat.lt_of_lt_of_le (hr.img _ _ _ _ hb) q3.below.size
  ·rw [hhi] at hb
   exact q2.img _ _ _ _ hb
 ·intro b hb
  obtain ⟨h1, h2⟩ := hr.hol _ hb
  refine ⟨by show b < e.next + d; omega, ?_⟩
  rcases hsp b with h | ⟨c, rfl⟩
  ·rw [hlo b h]; exact h2
  ·rw [hhi]; exact (q2.hol c hb).2
 ·intro j c dd hj
  obtain ⟨h1, h2, h3, h4⟩ := q2.frz j c dd hj
  refine ⟨h1, h2, fun b t hb e' => ?_, h4⟩
  rcases hsp b with h | ⟨x, rfl⟩
  ·rw [hlo b h] at hb
   obtain ⟨c', d', m'⟩ := t
   obtain rfl : c' = c := e'
   exact (hr.frz j c' dd (q3.kz c' (hr.img _ _ _ _ hb) (.inr (cond c')) j dd hj)).2.2.1 b _ hb rfl
  ·rw [hhi] at hb
   exact h3 _ _ hb e'
end Go.Proofs.YtdjkjpmcmpihgaaDoor.Ax
