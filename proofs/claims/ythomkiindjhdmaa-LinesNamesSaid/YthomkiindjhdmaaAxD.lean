/-
  Loads, stores, new variables, addresses. Own work, plain lemmas.
-/
import Derived.Test.YthomkiindjhdmaaAxC
set_option linter.unusedSimpArgs false
set_option linter.unusedVariables false
set_option linter.unnecessarySimpa false
set_option linter.deprecated false
set_option linter.unusedSectionVars false
namespace Go.Proofs.Ythomkiindjhdmaa.Ax
open Go.RowKit
variable [Tabs]

abbrev VRes := Option (Value × AH)

/-- the model's own run gives what stands for v -/
def Gives (P : Program) (n0 : Bs) (σ : Ren) (w : World) (s : Sem Value) (v : Value) (H' : AH) : Prop :=
  ∃ v' σ' w', s.run P w = .ok v' w' ∧ VR σ' v v' ∧ HR n0 σ' H' w' ∧ Step n0 σ w H'.low σ' w'
def GivesU (P : Program) (n0 : Bs) (σ : Ren) (w : World) (s : Sem Unit) (H' : AH) : Prop :=
  ∃ σ' w', s.run P w = .ok () w' ∧ HR n0 σ' H' w' ∧ Step n0 σ w H'.low σ' w'

/-- a run that leaves the world alone -/
def GivesP (P : Program) (n0 : Bs) (σ : Ren) (w : World) (H : AH) (s : Sem Value) (v : Value) (H' : AH) : Prop := H' = H ∧ ∃ v', s.run P w = .ok v' w ∧ VR σ v v'
theorem GivesP.pure {P : Program} {n0 : Bs} {σ : Ren} {w : World} {H : AH} (hr : HR n0 σ H w) {s : Sem Value} {v v' : Value} (hs : s.run P w = .ok v' w) (hv : VR σ v v') : GivesP P n0 σ w H s v H := ⟨rfl, v', hs, hv⟩
theorem GivesP.gives {P : Program} {n0 : Bs} {σ : Ren} {w : World} {H H' : AH} (hr : HR n0 σ H w) {s : Sem Value} {v : Value} (h : GivesP P n0 σ w H s v H') : Gives P n0 σ w s v H' := by
  obtain ⟨rfl, v', h1, h2⟩ := h
  exact ⟨v', σ, w, h1, h2, hr, Step.refl _ _ _ _⟩
theorem Gives.pure {P : Program} {n0 : Bs} {σ : Ren} {w : World} {H : AH} (hr : HR n0 σ H w) {s : Sem Value} {v v' : Value} (hs : s.run P w = .ok v' w) (hv : VR σ v v') : Gives P n0 σ w s v H :=
  ⟨v', σ, w, hs, hv, hr, Step.refl _ _ _ _⟩

def aggOf : TypeDesc → Bool
  | .struct _ => true
  | .array _ _ => true
  | _ => false
noncomputable def aggB (P : Program) (t : TypeId) : Option Bool := oc (P.underlying t) none (fun d => some (aggOf d))
noncomputable def sizeB (P : Program) (t : TypeId) : Option Nat := oc (P.info? t) none (fun i => some i.size)
theorem run_isAggB {P : Program} {t : TypeId} {b : Bool} (h : aggB P t = some b) (w : World) : (isAgg t).run P w = .ok b w := by
  obtain ⟨d, hd, h⟩ := oc_eq_some h
  obtain rfl := Option.some.inj h
  cases d <;> simp [isAgg, run_underlying hd, aggOf]
theorem run_sizeB {P : Program} {t : TypeId} {n : Nat} (h : sizeB P t = some n) (w : World) : (sizeOf t).run P w = .ok n w := by
  obtain ⟨i, hi, h⟩ := oc_eq_some h
  obtain rfl := Option.some.inj h
  simp [sizeOf, typeInfo, hi]

def addrOf (v : Value) : Option (Nat × Nat) :=
  match v with
  | .pointer (some ⟨b, o, none⟩) => some (b, o)
  | _ => none
theorem addrOf_eq {v : Value} {a : Nat × Nat} (h : addrOf v = some a) : v = .pointer (some ⟨a.1, a.2, none⟩) := by
  unfold addrOf at h
  split at h
  · obtain rfl := Option.some.inj h; rfl
  · cases h
theorem addrOf_vr {σ : Ren} {v v' : Value} {a : Nat × Nat} (h : addrOf v = some a) (hv : VR σ v v') : ∃ c d m, σ a.1 = some (c, d, m) ∧ v' = .pointer (some ⟨c, d + a.2, none⟩) := by
  rw [addrOf_eq h] at hv
  cases hv with
  | ptr o hb => exact ⟨_, _, _, hb, rfl⟩

def cellsOf (x : ABlk) : Option (Tr Value × TypeId) :=
  match x with
  | .cells c e => some (c, e)
  | _ => none
noncomputable def blkCells (H : AH) (b : Nat) : Option (Tr Value × TypeId) := oc (H.blocks.get b) none cellsOf
theorem blkCells_eq {H : AH} {b : Nat} {x : Tr Value × TypeId} (h : blkCells H b = some x) : H.blocks.get b = some (.cells x.1 x.2) := by
  obtain ⟨y, hy, h⟩ := oc_eq_some h
  unfold cellsOf at h
  split at h
  · obtain rfl := Option.some.inj h; exact hy
  · cases h

/-! a variable of two cells that lies alone in its block -/
def pairX (x : ABlk) : Option (Tr Value × TypeId) :=
  match x with
  | .pair c e => some (c, e)
  | _ => none
noncomputable def pairOf (H : AH) (b : Nat) : Option (Tr Value × TypeId) := oc (H.blocks.get b) none pairX
theorem pairOf_eq {H : AH} {b : Nat} {x : Tr Value × TypeId} (h : pairOf H b = some x) : H.blocks.get b = some (.pair x.1 x.2) := by
  obtain ⟨y, hy, h⟩ := oc_eq_some h
  unfold pairX at h
  split at h
  · obtain rfl := Option.some.inj h; exact hy
  · cases h
noncomputable def AH.setK (H : AH) (b : Nat) (x : ABlk) (low : Nat) : AH := ⟨H.blocks.set b x, H.next, low⟩
theorem HR.setK {n0 : Bs} {σ : Ren} {H : AH} {w : World} (hr : HR n0 σ H w) {b : Nat} {x y : ABlk} (hb : H.blocks.get b = some x) (hxy : ∀ c d m, σ b = some (c, d, m) → BR σ d m (w.heap[c]?) x → BR σ d m (w.heap[c]?) y) (low : Nat) : HR n0 σ (H.setK b y low) w := by
  have get : ∀ bb xx, (H.setK b y low).blocks.get bb = some xx → ∃ yy, H.blocks.get bb = some yy := fun bb xx hh => by
    simp only [AH.setK, Tr.get_set] at hh
    by_cases eb : bb = b
    · exact ⟨_, eb ▸ hb⟩
    · rw [if_neg eb] at hh; exact ⟨_, hh⟩
  refine ⟨hr.base, fun bb xx hh => ?_, fun b₁ b₂ x₁ x₂ c d₁ m₁ d₂ m₂ g1 g2 => ?_, hr.dom, hr.img, hr.hol⟩
  · simp only [AH.setK, Tr.get_set] at hh
    by_cases eb : bb = b
    · subst eb
      rw [if_pos rfl] at hh
      obtain rfl := Option.some.inj hh
      obtain ⟨c, d, m, h1, h2, h3⟩ := hr.blk _ _ hb
      exact ⟨c, d, m, h1, h2, hxy c d m h1 h3⟩
    · rw [if_neg eb] at hh; exact hr.blk bb xx hh
  · obtain ⟨y₁, g1⟩ := get _ _ g1
    obtain ⟨y₂, g2⟩ := get _ _ g2
    exact hr.inj b₁ b₂ y₁ y₂ c d₁ m₁ d₂ m₂ g1 g2
noncomputable def AH.loosen (H : AH) (b : Nat) : AH := oc (pairOf H b) H fun y => H.setK b (.cells y.1 y.2) H.low
theorem HR.loosen {n0 : Bs} {σ : Ren} {H : AH} {w : World} (hr : HR n0 σ H w) (b : Nat) : HR n0 σ (H.loosen b) w := by
  unfold AH.loosen
  cases h : pairOf H b with
  | none => exact hr
  | some y =>
    rw [oc_some]
    refine hr.setK (pairOf_eq h) ?_ _
    rintro c d m _ ⟨C, h1, h2, h3, h4⟩
    exact ⟨C, h1, h2, h3⟩
theorem loosen_cells {H : AH} {b : Nat} {x : Tr Value × TypeId} (h : blkCells H b = some x) : H.loosen b = H := by
  unfold AH.loosen pairOf
  rw [blkCells_eq h, oc_some]; rfl

theorem add_plain (c o n : Nat) : (⟨c, o, none⟩ : Addr).add n = ⟨c, o + n, none⟩ := by
  unfold Addr.add
  split
  · rename_i h; subst h; rfl
  · rfl

/-- the cells of a list are there -/
theorem run_loadCellsFrom {P : Program} {w : World} {c o : Nat} : ∀ (l : List Value) (i : Nat) (acc : Array Value), (∀ j v, l[j]? = some v → w.cell? ⟨c, o + (i + j), none⟩ = some v) →
    (loadCellsFrom ⟨c, o, none⟩ i l.length acc).run P w = .ok (acc ++ l.toArray) w
  | [], i, acc, _ => by simp [loadCellsFrom]
  | v :: l, i, acc, h => by
    have h0 : w.cell? ⟨c, o + i, none⟩ = some v := h 0 v (by simp)
    have ih := run_loadCellsFrom (P := P) l (i + 1) (acc.push v) fun j u hu => by
      have := h (j + 1) u (by simpa using hu)
      rw [show o + (i + 1 + j) = o + (i + (j + 1)) from by omega]
      exact this
    simp only [List.length_cons, loadCellsFrom, add_plain, load]
    simp [Sem.run, h0, Sem.run_bind, ih]

/-- a list of the run in order, and what stands for it -/
theorem HR.reads {n0 : Bs} {σ : Ren} {H : AH} {w : World} (hr : HR n0 σ H w) {b : Nat} {c : Tr Value} {e : TypeId} (hb : H.blocks.get b = some (.cells c e)) {k d m : Nat} (hs : σ b = some (k, d, m)) :
    ∀ (n o : Nat) (l : List Value), rdT c n o = some l → ∃ l', VRs σ l l' ∧ ∀ j v', l'[j]? = some v' → w.cell? ⟨k, d + (o + j), none⟩ = some v' := by
  intro n
  induction n with
  | zero =>
    intro o l h
    obtain rfl : [] = l := Option.some.inj h
    exact ⟨[], .nil, fun j v' h => by simp at h⟩
  | succ n ih =>
    intro o l h
    rw [rdT_succ] at h
    obtain ⟨v, hv, h⟩ := oc_eq_some h
    obtain ⟨l₁, hl, h⟩ := oc_eq_some h
    obtain rfl := Option.some.inj h
    obtain ⟨l', h1, h2⟩ := ih (o + 1) l₁ hl
    obtain ⟨v', c1, c2⟩ := hr.cell hb hs hv
    refine ⟨v' :: l', .cons c2 h1, fun j u hu => ?_⟩
    cases j with
    | zero => obtain rfl : v' = u := by simpa using hu
              exact c1
    | succ j =>
      have := h2 j u (by simpa using hu)
      rwa [show o + (j + 1) = o + 1 + j from by omega]

theorem run_loadCells {P : Program} {n0 : Bs} {σ : Ren} {H : AH} {w : World} (hr : HR n0 σ H w) {b : Nat} {c : Tr Value} {e : TypeId} (hb : H.blocks.get b = some (.cells c e)) {k d m : Nat} (hs : σ b = some (k, d, m))
    {n o : Nat} {l : List Value} (h : rdT c n o = some l) : ∃ l', VRs σ l l' ∧ (loadCells ⟨k, d + o, none⟩ n).run P w = .ok ⟨l'⟩ w := by
  obtain ⟨l', h1, h2⟩ := hr.reads hb hs n o l h
  refine ⟨l', h1, ?_⟩
  have hn : n = l'.length := by rw [← h1.length]; exact (rdT_get c n o l h).1.symm
  unfold loadCells
  rw [hn, run_loadCellsFrom l' 0 #[] fun j v hv => by have := h2 j v hv; rwa [show d + o + (0 + j) = d + (o + j) from by omega]]
  simp

noncomputable def loadB (P : Program) (t : TypeId) (H : AH) (b o : Nat) : Option Value :=
  oc (blkCells H b) none fun x => oc (aggB P t) none fun g => sel g (oc (sizeB P t) none fun n => oc (rdT x.1 n o) none fun l => some (.agg ⟨l⟩)) (x.1.get o)
theorem run_loadVarB {P : Program} {n0 : Bs} {σ : Ren} {H : AH} {w : World} (hr : HR n0 σ H w) {t : TypeId} {b o : Nat} {v : Value} (h : loadB P t H b o = some v) {k d m : Nat} (hs : σ b = some (k, d, m)) :
    ∃ v', VR σ v v' ∧ (loadVar t ⟨k, d + o, none⟩).run P w = .ok v' w := by
  obtain ⟨x, hx, h⟩ := oc_eq_some h
  obtain ⟨g, hg, h⟩ := oc_eq_some h
  have hb := blkCells_eq hx
  rcases sel_eq_some h with ⟨rfl, h⟩ | ⟨rfl, h⟩
  · obtain ⟨n, hn, h⟩ := oc_eq_some h
    obtain ⟨l, hl, h⟩ := oc_eq_some h
    obtain rfl := Option.some.inj h
    obtain ⟨l', h1, h2⟩ := run_loadCells (P := P) hr hb hs hl
    refine ⟨.agg ⟨l'⟩, h1.agg, ?_⟩
    simp [loadVar, Sem.run_bind, run_isAggB hg, run_sizeB hn, h2]
  · obtain ⟨v', h1, h2⟩ := hr.cell hb hs h
    refine ⟨v', h2, ?_⟩
    simp [loadVar, Sem.run_bind, run_isAggB hg, load, Sem.run, h1]

/-- a place in a table -/
def globOf (v : Value) : Option (Nat × Nat) :=
  match v with
  | .pointer (some ⟨g, o, some 0⟩) => some (g, o)
  | _ => none
theorem globOf_eq {v : Value} {a : Nat × Nat} (h : globOf v = some a) : v = .pointer (some ⟨a.1, a.2, some 0⟩) := by
  unfold globOf at h
  split at h
  · obtain rfl := Option.some.inj h; rfl
  · cases h
theorem globOf_vr {σ : Ren} {v v' : Value} {a : Nat × Nat} (h : globOf v = some a) (hv : VR σ v v') : v' = .pointer (some ⟨a.1, a.2, none⟩) := by
  rw [globOf_eq h] at hv
  cases hv with
  | glob g o => rfl
def isNum (v : Value) : Bool :=
  match v with
  | .int _ _ => true
  | _ => false
noncomputable def loadG (P : Program) (t : TypeId) (p : Value) (H : AH) : VRes :=
  oc (globOf p) none fun a => oc (Tabs.tab a.1) none fun l => oc (l[a.2]?) none fun v => oc (aggB P t) none fun g => sel (!g && isNum v) (some (v, H)) none
theorem loadG_ok {P : Program} {n0 : Bs} {σ : Ren} {H H' : AH} {w : World} (hr : HR n0 σ H w) {t : TypeId} {p p' v : Value} (h : loadG P t p H = some (v, H')) (hp : VR σ p p') : GivesP P n0 σ w H (Instr.loadAt t p') v H' := by
  obtain ⟨a, ha, h⟩ := oc_eq_some h
  obtain ⟨l, hl, h⟩ := oc_eq_some h
  obtain ⟨u, hu, h⟩ := oc_eq_some h
  obtain ⟨g, hg, h⟩ := oc_eq_some h
  obtain ⟨hb, h⟩ := sel_none h
  obtain ⟨rfl, rfl⟩ := Prod.mk.inj (Option.some.inj h)
  obtain rfl := globOf_vr ha hp
  simp only [Bool.and_eq_true, Bool.not_eq_true'] at hb
  obtain ⟨rfl, hn⟩ := hb
  have hc := (hr.base.2.2 a.1 l hl).2 w rfl a.2 u hu
  have hv : VR σ u u := by
    cases u with
    | int k n => exact .int k n
    | _ => cases hn
  exact GivesP.pure hr (by simp [Instr.loadAt, Instr.sureAddr, Sem.run_bind, loadVar, run_isAggB hg, load, Sem.run, hc]) hv
def cellsX (x : ABlk) : Option (Tr Value × TypeId) :=
  match x with
  | .cells c e => some (c, e)
  | .pair c e => some (c, e)
  | _ => none
noncomputable def loadB2 (P : Program) (t : TypeId) (H : AH) (b o : Nat) : Option Value :=
  oc (H.blocks.get b) none fun y => oc (cellsX y) none fun x => oc (aggB P t) none fun g => sel g (oc (sizeB P t) none fun n => oc (rdT x.1 n o) none fun l => some (.agg ⟨l⟩)) (x.1.get o)
theorem loadB2_eq {P : Program} {t : TypeId} {H : AH} {b o : Nat} {v : Value} (h : loadB2 P t H b o = some v) : loadB P t (H.loosen b) b o = some v := by
  obtain ⟨y, hy, h⟩ := oc_eq_some h
  obtain ⟨x, hx, h⟩ := oc_eq_some h
  have e : blkCells (H.loosen b) b = some x := by
    unfold cellsX at hx
    split at hx
    · obtain rfl := Option.some.inj hx
      have h1 := (show blkCells H b = _ from by unfold blkCells; rw [hy, oc_some])
      have h1 := h1
      simp only [cellsOf] at h1
      rw [loosen_cells h1]; exact h1
    · obtain rfl := Option.some.inj hx
      have h1 := (show pairOf H b = _ from by unfold pairOf; rw [hy, oc_some])
      simp only [pairX] at h1
      unfold AH.loosen
      rw [h1, oc_some]
      simp [blkCells, AH.setK, Tr.get_set, cellsOf]
    · cases hx
  unfold loadB
  rw [e, oc_some]
  exact h
noncomputable def opLoad (P : Program) (t : TypeId) (p : Value) (H : AH) : VRes := oc (addrOf p) (loadG P t p H) fun a => oc (loadB2 P t H a.1 a.2) none fun v => some (v, H)
theorem load_ok {P : Program} {n0 : Bs} {σ : Ren} {H H' : AH} {w : World} (hr : HR n0 σ H w) {t : TypeId} {p p' v : Value} (h : opLoad P t p H = some (v, H')) (hp : VR σ p p') : GivesP P n0 σ w H (Instr.loadAt t p') v H' := by
  cases ha : addrOf p with
  | none => exact loadG_ok hr (by unfold opLoad at h; rw [ha] at h; exact h) hp
  | some a =>
  unfold opLoad at h
  rw [ha, oc_some] at h
  obtain ⟨u, hu, h⟩ := oc_eq_some h
  obtain ⟨rfl, rfl⟩ := Prod.mk.inj (Option.some.inj h)
  obtain ⟨c, d, m, hs, rfl⟩ := addrOf_vr ha hp
  obtain ⟨v', h1, h2⟩ := run_loadVarB (hr.loosen a.1) (loadB2_eq hu) hs
  exact GivesP.pure hr (by simp [Instr.loadAt, Instr.sureAddr, Sem.run_bind, h2]) h1

/-- a value that stands for whatever there is -/
def isAny (v : Value) : Bool :=
  match v with
  | .chan none => true
  | _ => false
def cellsL (v : Value) : List Value :=
  match v with
  | .agg cs => cs.toList
  | v => [v]
theorem cellsL_vr {σ : Ren} {v v' : Value} (h : VR σ v v') (hn : isAny v = false) : VRs σ (cellsL v) (v'.cells.toList) := by
  cases h with
  | agg hx hxs => exact VRs.arr hx hxs
  | any => cases hn
  | _ => exact .cons (by constructor <;> assumption) .nil

def isCell (v : Value) : Bool :=
  match v with
  | .agg _ => false
  | .tuple _ => false
  | .chan _ => false
  | _ => true
theorem isCell_vr {σ : Ren} {v v' : Value} (h : VR σ v v') (hc : isCell v = true) : isCell v' = true := by
  cases h <;> first | rfl | (cases hc; done) | exact hc
theorem run_store {P : Program} {w : World} {a : Addr} {v u : Value} (hc : isCell v = true) (h1 : w.cell? a = some u) (h2 : w.frozen? a = false) : (store a v).run P w = .ok () (w.setCell a v) := by
  unfold store
  cases v <;> first | (simp [isCell] at hc; done) | simp [Sem.run, h1, h2]

theorem HR.congr {n0 : Bs} {σ : Ren} {H₁ H₂ : AH} {w : World} (hr : HR n0 σ H₁ w) (hg : ∀ b, H₂.blocks.get b = H₁.blocks.get b) (hn : H₂.next = H₁.next) : HR n0 σ H₂ w :=
  ⟨hr.base, fun b x h => hr.blk b x (by rw [← hg]; exact h), fun b₁ b₂ x₁ x₂ c d₁ m₁ d₂ m₂ h1 h2 => hr.inj b₁ b₂ x₁ x₂ c d₁ m₁ d₂ m₂ (by rw [← hg]; exact h1) (by rw [← hg]; exact h2),
   fun b t h => by rw [hn]; exact hr.dom b t h, hr.img, fun b hb => by rw [hn]; exact hr.hol b hb⟩

def allCells : List Value → Bool
  | [] => true
  | v :: l => isCell v && allCells l

/-- a list is written from place o on -/
theorem HR.stores {P : Program} {n0 : Bs} {σ : Ren} {b k d m : Nat} {e : TypeId} (hs : σ b = some (k, d, m)) : ∀ {l l' : List Value}, VRs σ l l' → ∀ {H : AH} {w : World} {c : Tr Value} {o o' : Nat} {i : Nat}, HR n0 σ H w → H.blocks.get b = some (.cells c e) →
    allCells l = true → (∀ j, j < l.length → ∃ u, c.get (o + j) = some u) → o' + i = d + o →
    ∃ w', (storeCells ⟨k, o', none⟩ l' i).run P w = .ok () w' ∧ HR n0 σ (H.store b (layL l o c) e) w' ∧ Step n0 σ w (Nat.min H.low b) σ w' ∧ ∀ q, q ≠ k → w'.heap[q]? = w.heap[q]? := by
  intro l l' h
  induction h with
  | nil =>
    intro H w c o o' i hr hb _ _ _
    refine ⟨w, by simp [storeCells], ?_, Step.refl _ _ _ _, fun _ _ => rfl⟩
    refine hr.congr (fun b₁ => ?_) rfl
    show (H.blocks.set b _).get b₁ = _
    rw [Tr.get_set]
    by_cases hb1 : b₁ = b
    · subst hb1; rw [if_pos rfl, hb]; rfl
    · rw [if_neg hb1]
  | @cons v v' l l' hv hl ih =>
    intro H w c o o' i hr hb hc hu ho
    simp only [allCells, Bool.and_eq_true] at hc
    obtain ⟨u, hu0⟩ := hu 0 (by simp)
    obtain ⟨⟨u', hcell⟩, hfro, hr1, st1⟩ := hr.store hb hs (o := o) hu0 hv
    have hb1 : (H.store b (c.set o v) e).blocks.get b = some (.cells (c.set o v) e) := by simp [AH.store, Tr.get_set]
    obtain ⟨w', r1, r2, r3, r4⟩ := ih (o := o + 1) (o' := o') (i := i + 1) hr1 hb1 hc.2 (fun j hj => by
      obtain ⟨y, hy⟩ := hu (j + 1) (by simpa using hj)
      refine ⟨y, ?_⟩
      rw [Tr.get_set, if_neg (by omega), show o + 1 + j = o + (j + 1) from by omega]
      exact hy) (by omega)
    refine ⟨w', ?_, ?_, ?_, fun q hq => (r4 q hq).trans (Below.heap_setCell w ⟨k, d + o, none⟩ v' q hq)⟩
    · simp only [storeCells, add_plain, ho, Sem.run_bind, run_store (isCell_vr hv hc.1) hcell hfro, Result.andThen_ok]
      exact r1
    · refine r2.congr (fun b₁ => ?_) rfl
      simp only [AH.store, Tr.get_set]
      by_cases e1 : b₁ = b
      · rw [if_pos e1, if_pos e1]; rfl
      · rw [if_neg e1, if_neg e1, if_neg e1]
    · refine st1.trans r3 ?_ |>.lower ?_
      · exact Nat.min_le_left _ _
      · show Nat.min H.low b ≤ Nat.min (Nat.min H.low b) b
        exact Nat.le_min.2 ⟨Nat.le_refl _, Nat.min_le_right _ _⟩

noncomputable def storeB (H : AH) (b o : Nat) (l : List Value) : Option AH :=
  oc (blkCells H b) none fun x => oc (rdT x.1 l.length o) none fun _ => sel (allCells l) (some (H.store b (layL l o x.1) x.2)) none
noncomputable def storeP (H : AH) (b o : Nat) (l : List Value) (y : Tr Value × TypeId) : Option AH :=
  oc (rdT y.1 l.length o) none fun _ => sel (allCells l) (some (H.setK b (.pair (layL l o y.1) y.2) (Nat.min H.low b))) none
noncomputable def storeC (H : AH) (b o : Nat) (l : List Value) (x : Tr Value × TypeId) : Option AH := oc (rdT x.1 l.length o) none fun _ => sel (allCells l) (some (H.store b (layL l o x.1) x.2)) none
noncomputable def storeB2 (H : AH) (b o : Nat) (l : List Value) : Option AH := oc (H.blocks.get b) none fun y => oc (pairX y) (oc (cellsOf y) none fun x => storeC H b o l x) fun q => storeP H b o l q
theorem storeB2_exact {P : Program} {n0 : Bs} {σ : Ren} {H H' : AH} {w : World} (hr : HR n0 σ H w) {b o : Nat} {l l' : List Value} (h : storeB2 H b o l = some H') (hl : VRs σ l l') {k d m : Nat} (hs : σ b = some (k, d, m)) {o' i : Nat} (ho : o' + i = d + o) :
    (∃ x, H.blocks.get b = some x) ∧ ∃ w', (storeCells ⟨k, o', none⟩ l' i).run P w = .ok () w' ∧ HR n0 σ H' w' ∧ Step n0 σ w H'.low σ w' ∧ ∀ q, q ≠ k → w'.heap[q]? = w.heap[q]? := by
  obtain ⟨z, hz, h⟩ := oc_eq_some h
  cases hpz : pairX z with
  | none =>
    rw [hpz, oc_none] at h
    obtain ⟨x, hx, h⟩ := oc_eq_some h
    have hx : blkCells H b = some x := by unfold blkCells; rw [hz]; exact hx
    obtain ⟨old, hold, h⟩ := oc_eq_some h
    obtain ⟨hc, h⟩ := sel_none h
    obtain rfl := Option.some.inj h
    obtain ⟨h1, h2⟩ := rdT_get x.1 l.length o old hold
    obtain ⟨w', r⟩ := HR.stores (P := P) hs hl (o := o) (o' := o') (i := i) hr (blkCells_eq hx) hc (fun j hj => ⟨old[j]'(by rw [h1]; exact hj), by rw [h2 j hj]; simp⟩) ho
    exact ⟨⟨_, blkCells_eq hx⟩, w', r⟩
  | some y =>
    rw [hpz, oc_some] at h
    have hp : pairOf H b = some y := by unfold pairOf; rw [hz]; exact hpz
    obtain ⟨old, hold, h⟩ := oc_eq_some h
    obtain ⟨hc, h⟩ := sel_none h
    obtain rfl := Option.some.inj h
    obtain ⟨h1, h2⟩ := rdT_get y.1 l.length o old hold
    have hb := pairOf_eq hp
    have hl0 := hr.loosen b
    have e0 : H.loosen b = H.setK b (.cells y.1 y.2) H.low := by unfold AH.loosen; rw [hp, oc_some]
    rw [e0] at hl0
    obtain ⟨c, dd, mm, s1, _, _, _, _, _, hd, hm⟩ := hr.blk _ _ hb
    rw [hs] at s1
    obtain ⟨rfl, rfl, rfl⟩ : k = c ∧ d = dd ∧ m = mm := by
      injection s1 with s1
      injection s1 with a1 s1
      injection s1 with a2 a3
      exact ⟨a1, a2, a3⟩
    obtain ⟨w', r1, r2, r3, r4⟩ := HR.stores (P := P) hs hl (o := o) (o' := o') (i := i) hl0 (c := y.1) (e := y.2) (by simp [AH.setK, Tr.get_set]) hc (fun j hj => ⟨old[j]'(by rw [h1]; exact hj), by rw [h2 j hj]; simp⟩) ho
    refine ⟨⟨_, hb⟩, w', r1, ?_, r3, r4⟩
    have hx := r2.setK (b := b) (x := .cells (layL l o y.1) y.2) (y := .pair (layL l o y.1) y.2) (by simp [AH.store, Tr.get_set]) (fun c2 d2 m2 hs2 hB => by
      rw [hs] at hs2
      injection hs2 with hs2
      injection hs2 with a1 hs2
      injection hs2 with a2 a3
      obtain ⟨C, g1, g2, g3⟩ := hB
      exact ⟨C, g1, g2, g3, by omega, by omega⟩) 0
    refine hx.congr (fun b₁ => ?_) rfl
    simp only [AH.setK, AH.store, Tr.get_set]
    by_cases e1 : b₁ = b
    · rw [if_pos e1, if_pos e1]
    · rw [if_neg e1, if_neg e1, if_neg e1, if_neg e1]
theorem storeB_ok {P : Program} {n0 : Bs} {σ : Ren} {H H' : AH} {w : World} (hr : HR n0 σ H w) {b o : Nat} {l l' : List Value} (h : storeB H b o l = some H') (hl : VRs σ l l') {k d m : Nat} (hs : σ b = some (k, d, m)) {o' i : Nat} (ho : o' + i = d + o) :
    GivesU P n0 σ w (storeCells ⟨k, o', none⟩ l' i) H' := by
  obtain ⟨x, hx, h⟩ := oc_eq_some h
  obtain ⟨old, hold, h⟩ := oc_eq_some h
  obtain ⟨hc, h⟩ := sel_none h
  obtain rfl := Option.some.inj h
  obtain ⟨h1, h2⟩ := rdT_get x.1 l.length o old hold
  obtain ⟨w', r1, r2, r3, _⟩ := HR.stores (P := P) hs hl (o := o) (o' := o') (i := i) hr (blkCells_eq hx) hc (fun j hj => ⟨old[j]'(by rw [h1]; exact hj), by rw [h2 j hj]; simp⟩) ho
  exact ⟨σ, w', r1, r2, r3⟩

noncomputable def opStore (P : Program) (t : TypeId) (p v : Value) (H : AH) : VRes :=
  oc (addrOf p) none fun a => oc (sizeB P t) none fun n => sel (Nat.beq (cellsL v).length n && !isAny v) (oc (storeB2 H a.1 a.2 (cellsL v)) none fun H' => some (undef, H')) none
theorem store_ok {P : Program} {n0 : Bs} {σ : Ren} {H H' : AH} {w : World} (hr : HR n0 σ H w) {t : TypeId} {p p' v v' u : Value} (h : opStore P t p v H = some (u, H')) (hp : VR σ p p') (hv : VR σ v v') :
    u = undef ∧ GivesU P n0 σ w (Instr.storeAt t p' v') H' := by
  obtain ⟨a, ha, h⟩ := oc_eq_some h
  obtain ⟨n, hn, h⟩ := oc_eq_some h
  obtain ⟨hl, h⟩ := sel_none h
  obtain ⟨H₁, h1, h⟩ := oc_eq_some h
  obtain ⟨rfl, rfl⟩ := Prod.mk.inj (Option.some.inj h)
  obtain ⟨c, d, m, hs, rfl⟩ := addrOf_vr ha hp
  simp only [Bool.and_eq_true, Bool.not_eq_true'] at hl
  obtain ⟨hl, hna⟩ := hl
  have hcl := cellsL_vr hv hna
  have hlen : v'.cells.size = n := by
    have h1 := hcl.length
    have h2 := Nat.eq_of_beq_eq_true hl
    simp at h1
    omega
  obtain ⟨_, w', r1, r2, r3, _⟩ := storeB2_exact (P := P) hr h1 hcl hs (o' := d + a.2) (i := 0) (by omega)
  refine ⟨rfl, σ, w', ?_, r2, r3⟩
  simp [Instr.storeAt, Instr.sureAddr, storeVar, Sem.run_bind, run_sizeB hn, hlen, r1]

/-- a store, and all that it leaves -/
theorem store_exact {P : Program} {n0 : Bs} {σ : Ren} {H H' : AH} {w : World} (hr : HR n0 σ H w) {t : TypeId} {p p' v v' u : Value} (h : opStore P t p v H = some (u, H')) (hp : VR σ p p') (hv : VR σ v v') :
    u = undef ∧ ∃ a, addrOf p = some a ∧ ∃ k d m w', σ a.1 = some (k, d, m) ∧ (∃ x, H.blocks.get a.1 = some x) ∧ (Instr.storeAt t p' v').run P w = .ok () w' ∧ HR n0 σ H' w' ∧ Step n0 σ w H'.low σ w' ∧ ∀ q, q ≠ k → w'.heap[q]? = w.heap[q]? := by
  obtain ⟨a, ha, h⟩ := oc_eq_some h
  obtain ⟨n, hn, h⟩ := oc_eq_some h
  obtain ⟨hl, h⟩ := sel_none h
  obtain ⟨H₁, h1, h⟩ := oc_eq_some h
  obtain ⟨rfl, rfl⟩ := Prod.mk.inj (Option.some.inj h)
  obtain ⟨c, d, m, hs, rfl⟩ := addrOf_vr ha hp
  simp only [Bool.and_eq_true, Bool.not_eq_true'] at hl
  obtain ⟨hl, hna⟩ := hl
  have hcl := cellsL_vr hv hna
  have hlen : v'.cells.size = n := by
    have h1 := hcl.length
    have h2 := Nat.eq_of_beq_eq_true hl
    simp at h1
    omega
  obtain ⟨hx, w', r1, r2, r3, r4⟩ := storeB2_exact (P := P) hr h1 hcl hs (o' := d + a.2) (i := 0) (by omega)
  refine ⟨rfl, a, ha, c, d, m, w', hs, hx, ?_, r2, r3, r4⟩
  simp [Instr.storeAt, Instr.sureAddr, storeVar, Sem.run_bind, run_sizeB hn, hlen, r1]

noncomputable def newB (H : AH) (l : List Value) (e : TypeId) : VRes := some (.pointer (some ⟨H.next, 0, none⟩), H.push (.cells (layT l) e))
theorem newRow_ok {P : Program} {n0 : Bs} {σ : Ren} {H : AH} {w : World} (hr : HR n0 σ H w) {l l' : List Value} (hl : VRs σ l l') (e : TypeId) :
    ∃ σ' w', (newRow e ⟨l'⟩).run P w = .ok ⟨w.heap.size, 0, none⟩ w' ∧ σ' H.next = some (w.heap.size, 0, l'.length) ∧ HR n0 σ' (H.push (.cells (layT l) e)) w' ∧ Step n0 σ w H.low σ' w' := by
  have hx : BR (σ.put H.next (w.heap.size, 0, l'.length)) 0 l'.length (some (.cells ⟨l'⟩ e (0, 0))) (.cells (layT l) e) := by
    refine ⟨⟨l'⟩, rfl, by simp, fun i v hv => ?_⟩
    rw [layT_get] at hv
    obtain ⟨v', h1, h2⟩ := hl.get i v hv
    exact ⟨v', by simpa using h1, h2.mono (hr.ext_put _)⟩
  obtain ⟨h1, h2⟩ := hr.alloc hx
  exact ⟨_, _, by simp [newRow, newObj, Sem.run_bind, Sem.run, World.alloc_eq], Ren.put_self _ _ _, h1, h2⟩
theorem newB_ok {P : Program} {n0 : Bs} {σ : Ren} {H H' : AH} {w : World} (hr : HR n0 σ H w) {l l' : List Value} (hl : VRs σ l l') {e : TypeId} {v : Value} (h : newB H l e = some (v, H')) :
    Gives P n0 σ w (do pure (.pointer (some (← newRow e ⟨l'⟩)))) v H' := by
  obtain ⟨rfl, rfl⟩ := Prod.mk.inj (Option.some.inj h)
  obtain ⟨σ', w', r1, r2, r3, r4⟩ := newRow_ok (P := P) hr hl e
  exact ⟨.pointer (some ⟨w.heap.size, 0, none⟩), σ', w', by simp [Sem.run_bind, r1], by simpa using VR.ptr 0 r2, r3, r4⟩

def isPair (l : List Value) : Bool :=
  match l with
  | [.pointer none, .slice none 0 0] => true
  | _ => false
noncomputable def allocB (l : List Value) (e : TypeId) : ABlk := sel (isPair l) (.pair (layT l) e) (.cells (layT l) e)
theorem allocB_br {σ : Ren} {d m : Nat} {o : Option Obj} {l l' : List Value} {e : TypeId} (hl : VRs σ l l') (h : BR σ d m o (.cells (layT l) e)) (hd : d = 0) (hm : m = l'.length) : BR σ d m o (allocB l e) := by
  unfold allocB
  cases hp : isPair l with
  | false => exact h
  | true =>
    obtain ⟨C, h1, h2, h3⟩ := h
    refine ⟨C, h1, h2, h3, hd, ?_⟩
    rw [hm, ← hl.length]
    unfold isPair at hp
    split at hp
    · rfl
    · cases hp
noncomputable def newA (H : AH) (l : List Value) (e : TypeId) : VRes := some (.pointer (some ⟨H.next, 0, none⟩), H.push (allocB l e))
theorem newA_ok {P : Program} {n0 : Bs} {σ : Ren} {H H' : AH} {w : World} (hr : HR n0 σ H w) {l l' : List Value} (hl : VRs σ l l') {e : TypeId} {v : Value} (h : newA H l e = some (v, H')) :
    Gives P n0 σ w (do pure (.pointer (some (← newRow e ⟨l'⟩)))) v H' := by
  obtain ⟨rfl, rfl⟩ := Prod.mk.inj (Option.some.inj h)
  have hx : BR (σ.put H.next (w.heap.size, 0, l'.length)) 0 l'.length (some (.cells ⟨l'⟩ e (0, 0))) (allocB l e) := by
    refine allocB_br (hl.mono (hr.ext_put _)) ?_ rfl rfl
    refine ⟨⟨l'⟩, rfl, by simp, fun i v hv => ?_⟩
    rw [layT_get] at hv
    obtain ⟨v', h1, h2⟩ := hl.get i v hv
    exact ⟨v', by simpa using h1, h2.mono (hr.ext_put _)⟩
  obtain ⟨h1, h2⟩ := hr.alloc hx
  exact ⟨.pointer (some ⟨w.heap.size, 0, none⟩), _, _, by simp [newRow, newObj, Sem.run_bind, Sem.run, World.alloc_eq], by simpa using VR.ptr 0 (Ren.put_self _ _ _), h1, h2⟩

noncomputable def opBox (e : TypeId) (v : Value) (H : AH) : VRes := sel (!isAny v) (newB H (cellsL v) e) none
theorem box_ok {P : Program} {n0 : Bs} {σ : Ren} {H H' : AH} {w : World} (hr : HR n0 σ H w) {e : TypeId} {v v' u : Value} (h : opBox e v H = some (u, H')) (hv : VR σ v v') : Gives P n0 σ w (Instr.box e v') u H' := by
  obtain ⟨hn, h⟩ := sel_none h
  simp only [Bool.not_eq_true'] at hn
  have := newB_ok (P := P) hr (cellsL_vr hv hn) h
  simpa [Instr.box, newVar] using this

/-- a value of no pointers: it stands for itself -/
def flat (v : Value) : Bool :=
  match v with
  | .bool _ | .int _ _ | .float _ _ | .string _ | .pointer none | .slice none _ _ | .map none | .nilFunc | .nilIface => true
  | _ => false
def flatL : List Value → Bool
  | [] => true
  | v :: l => flat v && flatL l
theorem flat_vr {v : Value} (h : flat v = true) (σ : Ren) : VR σ v v := by
  unfold flat at h
  split at h <;> first | constructor | cases h
theorem flat_same {σ : Ren} {v v' : Value} (h : flat v = true) (hv : VR σ v v') : v' = v := by
  unfold flat at h
  split at h <;> first | exact absurd h Bool.false_ne_true | (cases hv; rfl)
theorem flatL_vr : ∀ {l : List Value}, flatL l = true → ∀ σ : Ren, VRs σ l l
  | [], _, _ => .nil
  | v :: l, h, σ => by
    simp only [flatL, Bool.and_eq_true] at h
    exact .cons (flat_vr h.1 σ) (flatL_vr h.2 σ)
theorem flatL_same {σ : Ren} {l l' : List Value} (h : flatL l = true) (hl : VRs σ l l') : l' = l := by
  induction hl with
  | nil => rfl
  | cons hv _ ih =>
    simp only [flatL, Bool.and_eq_true] at h
    rw [flat_same h.1 hv, ih h.2]

noncomputable def zeroB (P : Program) (t : TypeId) : Option (List Value) := oc (P.info? t) none fun i => oc i.zero none fun z => sel (flatL (cellsL z)) (some (cellsL z)) none
theorem cellsL_eq (v : Value) : v.cells.toList = cellsL v := by cases v <;> rfl
theorem run_zeroB {P : Program} {t : TypeId} {l : List Value} (h : zeroB P t = some l) (w : World) : ∃ z : Value, (zeroValue t).run P w = .ok z w ∧ z.cells = ⟨l⟩ ∧ flatL l = true := by
  obtain ⟨i, hi, h⟩ := oc_eq_some h
  obtain ⟨z, hz, h⟩ := oc_eq_some h
  obtain ⟨hf, h⟩ := sel_none h
  obtain rfl := Option.some.inj h
  refine ⟨z, by simp [zeroValue, typeInfo, hi, hz], ?_, hf⟩
  rw [← cellsL_eq]
noncomputable def opAlloc (P : Program) (e : TypeId) (H : AH) : VRes := oc (zeroB P e) none fun l => newA H l e
theorem alloc_ok {P : Program} {n0 : Bs} {σ : Ren} {H H' : AH} {w : World} (hr : HR n0 σ H w) {e : TypeId} {u : Value} (h : opAlloc P e H = some (u, H')) : Gives P n0 σ w (Instr.alloc e true (.tuple #[])) u H' := by
  obtain ⟨l, hl, h⟩ := oc_eq_some h
  obtain ⟨z, h1, h2, h3⟩ := run_zeroB hl w
  obtain ⟨v', σ', w', r1, r2⟩ := newA_ok (P := P) hr (flatL_vr h3 σ) h
  refine ⟨v', σ', w', ?_, r2⟩
  simpa [Instr.alloc, newVar, Sem.run_bind, h1, h2] using r1

end Go.Proofs.Ythomkiindjhdmaa.Ax
