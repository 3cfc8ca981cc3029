/-
  How values and memory of a run in order stand for those of a run in whatever order. Own work, plain lemmas.
-/
import Derived.Test.YthomkiindjhdmaaAxA
set_option linter.unusedSimpArgs false
set_option linter.unusedVariables false
set_option linter.unnecessarySimpa false
set_option linter.deprecated false
set_option linter.unusedSectionVars false
namespace Go.Proofs.Ythomkiindjhdmaa.Ax
open Go.RowKit

/-- what the tables hold that lie there from the start: the cells, by the number of the variable -/
class Tabs where
  tab : Nat → Option (List Value)
variable [Tabs]

/-- a length that no slice has: above it the capacity is not known -/
def big : Nat := 1180591620717411303424
/-- such a slice's capacity is not known, but is lb at least -/
def bigL (es lb : Nat) : Nat := Nat.add (Nat.mul big (Nat.add lb 2)) es
theorem bigL_ge (es lb : Nat) : big ≤ bigL es lb := Nat.le_trans (Nat.le_mul_of_pos_right big (Nat.succ_pos _)) (Nat.le_add_right _ _)

/-- a block of the run in order: where its first cell lies (block, place), and how many cells that block has -/
abbrev Ren := Nat → Option (Nat × Nat × Nat)
def Ren.put (σ : Ren) (b : Nat) (t : Nat × Nat × Nat) : Ren := fun x => if x = b then some t else σ x
def Ren.Ext (σ σ' : Ren) : Prop := ∀ b t, σ b = some t → σ' b = some t

inductive FnR (σ : Ren) : Fn → Fn → Prop
  | func (f : FuncId) : FnR σ (.func f) (.func f)
  | method (s : String) : FnR σ (.method s) (.method s)
  | yield {l c : Nat} (h : σ l = some (c, 0, 0)) : FnR σ (.yield l) (.yield c)

/-- so many bytes, all 0 -/
def zstr (n : Nat) : ByteArray := ⟨⟨List.replicate n 0⟩⟩
theorem zstr_size (n : Nat) : (zstr n).size = n := by simp [zstr, ByteArray.size]

inductive VR (σ : Ren) : Value → Value → Prop
  | bool (b : Bool) : VR σ (.bool b) (.bool b)
  | int (k : IntKind) (n : Int) : VR σ (.int k n) (.int k n)
  | float (k : FloatKind) (n : Nat) : VR σ (.float k n) (.float k n)
  | string (s : ByteArray) : VR σ (.string s) (.string s)
  | ptr0 : VR σ (.pointer none) (.pointer none)
  | any (v : Value) : VR σ (.chan none) v
  | zeros (n : Nat) : VR σ (.chan (some n)) (.string (zstr n))
  | glob (g o : Nat) : VR σ (.pointer (some ⟨g, o, some 0⟩)) (.pointer (some ⟨g, o, none⟩))
  | ptr {b c d m : Nat} (o : Nat) (h : σ b = some (c, d, m)) : VR σ (.pointer (some ⟨b, o, none⟩)) (.pointer (some ⟨c, d + o, none⟩))
  | slice0 (n k : Nat) : VR σ (.slice none n k) (.slice none n k)
  | slice {b c d m : Nat} (o n k : Nat) (h : σ b = some (c, d, m)) (hk : k < big) : VR σ (.slice (some ⟨b, o, none⟩) n k) (.slice (some ⟨c, d + o, none⟩) n k)
  | sliceU {b c d m : Nat} (o o' n k' es : Nat) (h : σ b = some (c, d, m)) (hk : n ≤ k') (ho : n = 0 ∨ o' = d + o) (hd : d ≤ o') (hm : o' + k' * es ≤ m) (he : es < big) :
      VR σ (.slice (some ⟨b, o, none⟩) n (big + es)) (.slice (some ⟨c, o', none⟩) n k')
  | sliceL {b c d m : Nat} (o n k' es lb : Nat) (h : σ b = some (c, d, m)) (hk : n ≤ k') (hl : lb ≤ k') (hm : d + o + k' * es ≤ m) (he : es < big) : VR σ (.slice (some ⟨b, o, none⟩) n (bigL es lb)) (.slice (some ⟨c, d + o, none⟩) n k')
  | map0 : VR σ (.map none) (.map none)
  | map {b c : Nat} (h : σ b = some (c, 0, 0)) : VR σ (.map (some b)) (.map (some c))
  | func {fn fn' : Fn} {x x' y y' : Array Value} (h : FnR σ fn fn') (hx : x.size = x'.size) (hxs : ∀ (i : Nat) (h : i < x.size) (h' : i < x'.size), VR σ x[i] x'[i])
      (hy : y.size = y'.size) (hys : ∀ (i : Nat) (h : i < y.size) (h' : i < y'.size), VR σ y[i] y'[i]) : VR σ (.func fn x y) (.func fn' x' y')
  | nilFunc : VR σ .nilFunc .nilFunc
  | iface (t : TypeId) {v v' : Value} (h : VR σ v v') : VR σ (.iface t v) (.iface t v')
  | nilIface : VR σ .nilIface .nilIface
  | agg {x x' : Array Value} (hx : x.size = x'.size) (hxs : ∀ (i : Nat) (h : i < x.size) (h' : i < x'.size), VR σ x[i] x'[i]) : VR σ (.agg x) (.agg x')
  | tuple {x x' : Array Value} (hx : x.size = x'.size) (hxs : ∀ (i : Nat) (h : i < x.size) (h' : i < x'.size), VR σ x[i] x'[i]) : VR σ (.tuple x) (.tuple x')

/-- lists of such values -/
inductive VRs (σ : Ren) : List Value → List Value → Prop
  | nil : VRs σ [] []
  | cons {v v' : Value} {l l' : List Value} (h : VR σ v v') (hl : VRs σ l l') : VRs σ (v :: l) (v' :: l')

theorem FnR.mono {σ σ' : Ren} (h : σ.Ext σ') {f f' : Fn} (hf : FnR σ f f') : FnR σ' f f' := by
  cases hf with
  | func f => exact .func f
  | method s => exact .method s
  | yield hl => exact .yield (h _ _ hl)
theorem VR.mono {σ σ' : Ren} (h : σ.Ext σ') {v v' : Value} (hv : VR σ v v') : VR σ' v v' := by
  induction hv with
  | bool b => exact .bool b
  | int k n => exact .int k n
  | float k n => exact .float k n
  | string s => exact .string s
  | ptr0 => exact .ptr0
  | any v => exact .any v
  | zeros n => exact .zeros n
  | glob g o => exact .glob g o
  | ptr o hb => exact .ptr o (h _ _ hb)
  | slice0 n k => exact .slice0 n k
  | slice o n k hb hk => exact .slice o n k (h _ _ hb) hk
  | sliceU o o' n k' es hb hk ho hd hm he => exact .sliceU o o' n k' es (h _ _ hb) hk ho hd hm he
  | sliceL o n k' es lb hb hk hl hm he => exact .sliceL o n k' es lb (h _ _ hb) hk hl hm he
  | map0 => exact .map0
  | map hb => exact .map (h _ _ hb)
  | func hf hx _ hy _ ih1 ih2 => exact .func (hf.mono h) hx ih1 hy ih2
  | nilFunc => exact .nilFunc
  | iface t _ ih => exact .iface t ih
  | nilIface => exact .nilIface
  | agg hx _ ih => exact .agg hx ih
  | tuple hx _ ih => exact .tuple hx ih
theorem VRs.mono {σ σ' : Ren} (h : σ.Ext σ') {l l' : List Value} (hl : VRs σ l l') : VRs σ' l l' := by
  induction hl with
  | nil => exact .nil
  | cons hv _ ih => exact .cons (hv.mono h) ih
theorem VRs.length {σ : Ren} {l l' : List Value} (h : VRs σ l l') : l.length = l'.length := by
  induction h with
  | nil => rfl
  | cons _ _ ih => simp [ih]
theorem VRs.get {σ : Ren} {l l' : List Value} (h : VRs σ l l') : ∀ (i : Nat) (v : Value), l[i]? = some v → ∃ v', l'[i]? = some v' ∧ VR σ v v' := by
  induction h with
  | nil => intro i v hv; simp at hv
  | cons hv _ ih =>
    intro i u hu
    cases i with
    | zero =>
      simp at hu
      subst hu
      exact ⟨_, by simp, hv⟩
    | succ i => simpa using ih i u (by simpa using hu)
theorem VRs.append {σ : Ren} {l l' k k' : List Value} (h : VRs σ l l') (hk : VRs σ k k') : VRs σ (l ++ k) (l' ++ k') := by
  induction h with
  | nil => exact hk
  | cons hv _ ih => exact .cons hv ih
theorem VRs.of_get {σ : Ren} : ∀ {l l' : List Value}, l.length = l'.length → (∀ (i : Nat) (h : i < l.length) (h' : i < l'.length), VR σ l[i] l'[i]) → VRs σ l l'
  | [], [], _, _ => .nil
  | [], _ :: _, h, _ => by simp at h
  | _ :: _, [], h, _ => by simp at h
  | v :: l, v' :: l', h, hi => .cons (hi 0 (by simp) (by simp)) (VRs.of_get (by simpa using h) fun i h1 h2 => hi (i + 1) (by simpa using h1) (by simpa using h2))
theorem VRs.arr {σ : Ren} {x x' : Array Value} (hx : x.size = x'.size) (hxs : ∀ (i : Nat) (h : i < x.size) (h' : i < x'.size), VR σ x[i] x'[i]) : VRs σ x.toList x'.toList :=
  VRs.of_get (by simpa using hx) fun i h1 h2 => by simpa using hxs i (by simpa using h1) (by simpa using h2)
theorem VRs.size {σ : Ren} {x x' : Array Value} (h : VRs σ x.toList x'.toList) : x.size = x'.size := by simpa using h.length
theorem VRs.elem {σ : Ren} {x x' : Array Value} (h : VRs σ x.toList x'.toList) (i : Nat) (h1 : i < x.size) (h2 : i < x'.size) : VR σ x[i] x'[i] := by
  obtain ⟨v', hv', hr⟩ := h.get i x[i] (by simp [h1])
  have : v' = x'[i] := by simpa [h2] using hv'.symm
  exact this ▸ hr
theorem VRs.agg {σ : Ren} {l l' : List Value} (h : VRs σ l l') : VR σ (.agg ⟨l⟩) (.agg ⟨l'⟩) := .agg (VRs.size h) (VRs.elem h)
theorem VRs.tuple {σ : Ren} {l l' : List Value} (h : VRs σ l l') : VR σ (.tuple ⟨l⟩) (.tuple ⟨l'⟩) := .tuple (VRs.size h) (VRs.elem h)
theorem VRs.func {σ : Ren} {f f' : Fn} {x x' y y' : Array Value} (hf : FnR σ f f') (hx : VRs σ x.toList x'.toList) (hy : VRs σ y.toList y'.toList) : VR σ (.func f x y) (.func f' x' y') :=
  .func hf (VRs.size hx) (VRs.elem hx) (VRs.size hy) (VRs.elem hy)
theorem vr_undef (σ : Ren) : VR σ undef undef := VRs.tuple (l := []) (l' := []) .nil

/-- the frame's temporaries -/
noncomputable def tget (T : Tr Value) (i : Nat) : Value := oc (T.get i) undef (fun v => v)
theorem tget_set (T : Tr Value) (d i : Nat) (v : Value) : tget (T.set d v) i = if i = d then v else tget T i := by
  unfold tget
  rw [Tr.get_set]
  by_cases h : i = d
  · rw [if_pos h, if_pos h]; rfl
  · rw [if_neg h, if_neg h]
structure TR (σ : Ren) (N : Nat) (T : Tr Value) (ts : Array Value) : Prop where
  size : ts.size = N
  slot : ∀ i, VR σ (tget T i) (ts.getD i undef)
theorem TR.mono {σ σ' : Ren} (h : σ.Ext σ') {N : Nat} {T : Tr Value} {ts : Array Value} (ht : TR σ N T ts) : TR σ' N T ts := ⟨ht.size, fun i => (ht.slot i).mono h⟩
theorem TR.set {σ : Ren} {N : Nat} {T : Tr Value} {ts : Array Value} (ht : TR σ N T ts) {d : Nat} {v v' : Value} (hv : VR σ v v') (hd : d < N) : TR σ N (T.set d v) (ts.setIfInBounds d v') := by
  refine ⟨by simp [ht.size], fun i => ?_⟩
  rw [tget_set]
  by_cases h : i = d
  · subst h
    have : i < ts.size := by rw [ht.size]; exact hd
    simpa [this] using hv
  · rw [if_neg h]
    have := ht.slot i
    simpa [Array.getElem?_setIfInBounds_ne (Ne.symm h)] using this

/-- the record of a range over a function -/
structure ALoop where
  st : LoopState
  pend : Option Code
  T : Tr Value
  N : Nat
  params : Array Tmp
  assign : Code
  body : Code
  defers : Nat

/-- a block of the run in order -/
inductive ABlk where
  | cells (c : Tr Value) (elem : TypeId)
  | loop (x : ALoop)
  | marks (isOpen : Bool)
  | map (es : List MapEntry) (clock : Nat)
  | box (v : Value) (elem : TypeId)
  | iter (m clock : Nat)
  | iterAt (m clock born : Nat)
  | pair (c : Tr Value) (elem : TypeId)
  | zeros (n : Nat) (elem : TypeId)

structure AH where
  blocks : Tr ABlk
  next : Nat
  low : Nat

/-- entries of maps: the keys are the same -/
inductive MRs (σ : Ren) : List MapEntry → List MapEntry → Prop
  | nil : MRs σ [] []
  | cons {e e' : MapEntry} {l l' : List MapEntry} (hk : e'.key = e.key) (hv : VR σ e.val e'.val) (hl : MRs σ l l') : MRs σ (e :: l) (e' :: l')
theorem MRs.mono {σ σ' : Ren} (h : σ.Ext σ') {l l' : List MapEntry} (hl : MRs σ l l') : MRs σ' l l' := by
  induction hl with
  | nil => exact .nil
  | cons hk hv _ ih => exact .cons hk (hv.mono h) ih
/-- a map's entries, in whatever order they came -/
def MPs (σ : Ren) (es ES : List MapEntry) (clock : Nat) : Prop := (∃ L, L.Perm ES ∧ MRs σ es L) ∧ (ES.map (·.born)).Nodup ∧ ∀ x ∈ ES, x.born < clock
theorem MPs.mono {σ σ' : Ren} (h : σ.Ext σ') {es ES : List MapEntry} {clock : Nat} (hl : MPs σ es ES clock) : MPs σ' es ES clock := by
  obtain ⟨⟨L, h1, h2⟩, h3⟩ := hl
  exact ⟨⟨L, h1, h2.mono h⟩, h3⟩

def BR (σ : Ren) (d m : Nat) (o : Option Obj) : ABlk → Prop
  | .cells c e => ∃ C, o = some (.cells C e (0, 0)) ∧ C.size = m ∧ ∀ i v, c.get i = some v → ∃ v', C[d + i]? = some v' ∧ VR σ v v'
  | .loop x => ∃ fn ts dc, o = some (.loop { state := x.st, pending := x.pend, fn := fn, tmps := ts, params := x.params, assign := x.assign, body := x.body, defers := dc }) ∧ TR σ x.N x.T ts ∧ σ x.defers = some (dc, 0, 0) ∧ d = 0 ∧ m = 0
  | .marks b => o = some (.deferred (if b then some [] else none)) ∧ d = 0 ∧ m = 0
  | .map es clock => ∃ ES : List MapEntry, o = some (.map ⟨ES⟩ clock) ∧ MPs σ es ES clock ∧ d = 0 ∧ m = 0
  | .box v e => ∃ v', o = some (.cells #[v'] e (0, 0)) ∧ VR σ v v' ∧ d = 0 ∧ m = 1
  | .iter b clock => ∃ c, o = some (.mapIter (some c) clock #[] clock) ∧ σ b = some (c, 0, 0) ∧ d = 0 ∧ m = 0
  | .pair c e => ∃ C, o = some (.cells C e (0, 0)) ∧ C.size = m ∧ (∀ i v, c.get i = some v → ∃ v', C[d + i]? = some v' ∧ VR σ v v') ∧ d = 0 ∧ m = 2
  | .zeros n e => ∃ C, o = some (.cells C e (0, 0)) ∧ C.size = m ∧ d = 0 ∧ m = n ∧ ∀ i, i < n → C[i]? = some (.int .u8 0)
  | .iterAt b clock born => ∃ (c : Nat) (seen : Array Nat), o = some (.mapIter (some c) clock (seen.push born) clock) ∧ σ b = some (c, 0, 0) ∧ d = 0 ∧ m = 0
theorem BR.mono {σ σ' : Ren} (h : σ.Ext σ') {d m : Nat} {o : Option Obj} {x : ABlk} (hx : BR σ d m o x) : BR σ' d m o x := by
  cases x with
  | cells c e =>
    obtain ⟨C, h1, h2, h3⟩ := hx
    exact ⟨C, h1, h2, fun i v hv => let ⟨v', a, b⟩ := h3 i v hv; ⟨v', a, b.mono h⟩⟩
  | loop x =>
    obtain ⟨fn, ts, dc, h1, h2, h3, h4⟩ := hx
    exact ⟨fn, ts, dc, h1, h2.mono h, h _ _ h3, h4⟩
  | marks b => exact hx
  | map es clock =>
    obtain ⟨ES, h1, h2, h3, h4⟩ := hx
    exact ⟨ES, h1, h2.mono h, h3, h4⟩
  | box v e =>
    obtain ⟨v', h1, h2, h3⟩ := hx
    exact ⟨v', h1, h2.mono h, h3⟩
  | iter b clock =>
    obtain ⟨c, h1, h2, h3⟩ := hx
    exact ⟨c, h1, h _ _ h2, h3⟩
  | iterAt b clock born =>
    obtain ⟨c, seen, h1, h2, h3⟩ := hx
    exact ⟨c, seen, h1, h _ _ h2, h3⟩
  | zeros n e => exact hx
  | pair c e =>
    obtain ⟨C, h1, h2, h3, h4⟩ := hx
    exact ⟨C, h1, h2, fun i v hv => let ⟨v', a, b⟩ := h3 i v hv; ⟨v', a, b.mono h⟩, h4⟩

/-- blocks from n on are the run's own, but for those that Q tells: nobody touches these -/
structure Base where
  n : Nat
  Q : Nat → Prop
def Base.Own (s : Base) (c : Nat) : Prop := s.n ≤ c ∧ ¬ s.Q c
/-- numbers that X tells are not given yet -/
structure Bs where
  n : Base
  X : Nat → Prop

/-- the tables are there -/
def TabsOK (n : Nat) (w : World) : Prop := ∀ g l, Tabs.tab g = some l → g < n ∧ ∀ w' : World, w'.heap[g]? = w.heap[g]? → ∀ i v, l[i]? = some v → w'.cell? ⟨g, i, none⟩ = some v
theorem TabsOK.calm {n : Nat} {w w' : World} (h : TabsOK n w) (hk : ∀ k, k < n → w'.heap[k]? = w.heap[k]?) : TabsOK n w' := fun g l hg =>
  ⟨(h g l hg).1, fun w'' e => (h g l hg).2 w'' (e.trans (hk g (h g l hg).1))⟩
structure HR (n0 : Bs) (σ : Ren) (H : AH) (w : World) : Prop where
  base : n0.n.n ≤ w.heap.size ∧ (∀ c, n0.n.Q c → c < w.heap.size) ∧ TabsOK n0.n.n w
  blk : ∀ b x, H.blocks.get b = some x → ∃ c d m, σ b = some (c, d, m) ∧ n0.n.Own c ∧ BR σ d m (w.heap[c]?) x
  inj : ∀ b₁ b₂ x₁ x₂ c d₁ m₁ d₂ m₂, H.blocks.get b₁ = some x₁ → H.blocks.get b₂ = some x₂ → σ b₁ = some (c, d₁, m₁) → σ b₂ = some (c, d₂, m₂) → b₁ = b₂
  dom : ∀ b t, σ b = some t → b < H.next
  img : ∀ b c d m, σ b = some (c, d, m) → c < w.heap.size
  hol : ∀ b, n0.X b → b < H.next ∧ σ b = none

/-- from one world to a later one; what is not of a block from low on is as it was -/
structure Step (n0 : Bs) (σ : Ren) (w : World) (low : Nat) (σ' : Ren) (w' : World) : Prop where
  ext : σ.Ext σ'
  below : Below n0.n.n w w'
  keep : ∀ c, c < w.heap.size → (n0.n.Q c ∨ ∀ b d m, σ b = some (c, d, m) → b < low) → w'.heap[c]? = w.heap[c]? ∧ ∀ b d m, σ' b = some (c, d, m) → σ b = some (c, d, m)

theorem Ren.Ext.refl (σ : Ren) : σ.Ext σ := fun _ _ h => h
theorem Ren.Ext.trans {σ₁ σ₂ σ₃ : Ren} (h : σ₁.Ext σ₂) (k : σ₂.Ext σ₃) : σ₁.Ext σ₃ := fun b t hb => k b t (h b t hb)
theorem Step.refl (n0 : Bs) (σ : Ren) (w : World) (low : Nat) : Step n0 σ w low σ w := ⟨.refl σ, .refl _ _, fun _ _ _ => ⟨rfl, fun _ _ _ h => h⟩⟩
theorem Step.lower {n0 : Bs} {σ σ' : Ren} {w w' : World} {low low' : Nat} (h : Step n0 σ w low σ' w') (hl : low' ≤ low) : Step n0 σ w low' σ' w' :=
  ⟨h.ext, h.below, fun c hc hb => h.keep c hc (hb.imp id fun hb b d m hs => Nat.lt_of_lt_of_le (hb b d m hs) hl)⟩
theorem Step.trans {n0 : Bs} {σ₁ σ₂ σ₃ : Ren} {w₁ w₂ w₃ : World} {low low' : Nat} (h : Step n0 σ₁ w₁ low σ₂ w₂) (k : Step n0 σ₂ w₂ low' σ₃ w₃) (hl : low' ≤ low) : Step n0 σ₁ w₁ low' σ₃ w₃ := by
  refine ⟨h.ext.trans k.ext, h.below.trans k.below, fun c hc hb => ?_⟩
  obtain ⟨h1, h2⟩ := h.keep c hc (hb.imp id fun hb b d m hs => Nat.lt_of_lt_of_le (hb b d m hs) hl)
  obtain ⟨k1, k2⟩ := k.keep c (Nat.lt_of_lt_of_le hc h.below.size) (hb.imp id fun hb b d m hs => hb b d m (h2 b d m hs))
  exact ⟨k1.trans h1, fun b d m hs => h2 b d m (k2 b d m hs)⟩

/-- no write below 'next': everything that was there is as it was -/
theorem Step.calm {n0 : Bs} {σ σ' : Ren} {w w' : World} {low : Nat} {H : AH} (h : Step n0 σ w low σ' w') (hr : HR n0 σ H w) (hl : H.next ≤ low) (c : Nat) (hc : c < w.heap.size) :
    w'.heap[c]? = w.heap[c]? ∧ ∀ b d m, σ' b = some (c, d, m) → σ b = some (c, d, m) :=
  h.keep c hc (.inr fun b d m hs => Nat.lt_of_lt_of_le (hr.dom b _ hs) hl)

theorem base_size {s : Base} {w w' : World} (h : s.n ≤ w.heap.size ∧ (∀ c, s.Q c → c < w.heap.size) ∧ TabsOK s.n w) (hz : w.heap.size ≤ w'.heap.size) (hk : ∀ k, k < s.n → w'.heap[k]? = w.heap[k]?) : s.n ≤ w'.heap.size ∧ (∀ c, s.Q c → c < w'.heap.size) ∧ TabsOK s.n w' :=
  ⟨Nat.le_trans h.1 hz, fun c hc => Nat.lt_of_lt_of_le (h.2.1 c hc) hz, h.2.2.calm hk⟩
theorem HR.own_new {n0 : Bs} {σ : Ren} {H : AH} {w : World} (hr : HR n0 σ H w) : n0.n.Own w.heap.size := ⟨hr.base.1, fun h => absurd (hr.base.2.1 _ h) (Nat.lt_irrefl _)⟩
theorem HR.setQ {n : Nat} {Q Q' X : Nat → Prop} {σ : Ren} {H : AH} {w : World} (hr : HR ⟨⟨n, Q'⟩, X⟩ σ H w) (h : ∀ c, Q c → Q' c) : HR ⟨⟨n, Q⟩, X⟩ σ H w :=
  ⟨⟨hr.base.1, fun c hc => hr.base.2.1 c (h c hc), hr.base.2.2⟩, fun b x hb => let ⟨c, d, m, h1, h2, h3⟩ := hr.blk b x hb; ⟨c, d, m, h1, ⟨h2.1, fun hq => h2.2 (h c hq)⟩, h3⟩, hr.inj, hr.dom, hr.img, hr.hol⟩
theorem Step.setQ {n : Nat} {Q Q' X : Nat → Prop} {σ σ' : Ren} {w w' : World} {low : Nat} (st : Step ⟨⟨n, Q'⟩, X⟩ σ w low σ' w') (h : ∀ c, Q c → Q' c) : Step ⟨⟨n, Q⟩, X⟩ σ w low σ' w' :=
  ⟨st.ext, st.below, fun c hc hb => st.keep c hc (hb.imp (h c) id)⟩

end Go.Proofs.Ythomkiindjhdmaa.Ax
