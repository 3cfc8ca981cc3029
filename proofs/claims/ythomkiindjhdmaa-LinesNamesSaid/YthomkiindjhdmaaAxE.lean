/-
  Operations that compute. Own work, plain lemmas.
-/
import Derived.Test.YthomkiindjhdmaaAxD
set_option linter.unusedSimpArgs false
set_option linter.unusedVariables false
set_option linter.unnecessarySimpa false
set_option linter.deprecated false
set_option linter.unusedSectionVars false
namespace Go.Proofs.Ythomkiindjhdmaa.Ax
open Go.RowKit
variable [Tabs]

theorem sel_none' {β : Type} {b : Bool} {x : Option β} {z : β} (h : sel b none x = some z) : b = false ∧ x = some z := by
  rcases sel_eq_some h with h | h
  · exact absurd h.2 (by simp)
  · exact h

/-- the value of a computation that asks nothing of memory -/
noncomputable def pureS {α : Type} (P : Program) (s : Sem α) : Option α :=
  @Sem.rec α (fun _ => Option α) (fun a => some a) (fun _ _ _ _ => none) (fun _ _ _ _ _ => none) (fun _ _ _ => none) (fun _ _ _ => none) (fun _ _ _ _ => none) (fun _ _ _ => none) (fun _ _ _ => none) (fun _ _ _ _ => none) (fun _ _ _ => none) (fun _ _ _ => none) (fun _ ih => ih P) (fun _ _ ih => ih) (fun _ => none) s
theorem pureS_ok {α : Type} {P : Program} : ∀ {s : Sem α} {a : α}, pureS P s = some a → ∀ w : World, s.run P w = .ok a w := by
  intro s
  induction s with
  | pure x => intro a h w; obtain rfl : x = a := Option.some.inj h; rfl
  | program k ih => intro a h w; exact ih P h w
  | mark m k ih => intro a h w; exact ih h w
  | _ => intro a h w; exact absurd h (by intro h'; cases h')

noncomputable def opPure (P : Program) (s : Sem Value) (H : AH) : VRes := oc (pureS P s) none fun v => sel (flat v) (some (v, H)) none
theorem opPure_ok {P : Program} {n0 : Bs} {σ : Ren} {H H' : AH} {w : World} (hr : HR n0 σ H w) {s : Sem Value} {v : Value} (h : opPure P s H = some (v, H')) : GivesP P n0 σ w H s v H' := by
  obtain ⟨u, hu, h⟩ := oc_eq_some h
  obtain ⟨hf, h⟩ := sel_none h
  obtain ⟨rfl, rfl⟩ := Prod.mk.inj (Option.some.inj h)
  exact GivesP.pure hr (pureS_ok hu w) (flat_vr hf σ)

/-! integers, quickly -/
def intOp (op : BinOp) (k : IntKind) (a b : Int) : Option Value :=
  match op with
  | .add => some (.int k (k.wrap (a + b)))
  | .sub => some (.int k (k.wrap (a - b)))
  | .mul => some (.int k (k.wrap (a * b)))
  | .eql => some (.bool (a == b))
  | .neq => some (.bool (a != b))
  | .lss => some (.bool (a < b))
  | .leq => some (.bool (a ≤ b))
  | .gtr => some (.bool (a > b))
  | .geq => some (.bool (a ≥ b))
  | _ => none
def kindEq (a b : IntKind) : Bool :=
  match a, b with
  | .i64, .i64 => true
  | .u8, .u8 => true
  | .u64, .u64 => true
  | .i32, .i32 => true
  | .u16, .u16 => true
  | .u32, .u32 => true
  | .i8, .i8 => true
  | .i16, .i16 => true
  | _, _ => false
theorem kindEq_eq {a b : IntKind} (h : kindEq a b = true) : a = b := by
  cases a <;> cases b <;> first | rfl | exact absurd h Bool.false_ne_true

noncomputable def liveB (H : AH) (b : Nat) : Bool := oc (H.blocks.get b) false fun _ => true
def ptrPair (x y : Value) : Option ((Nat × Nat) × (Nat × Nat)) :=
  match x, y with
  | .pointer (some ⟨b, o, none⟩), .pointer (some ⟨b', o', none⟩) => some ((b, o), (b', o'))
  | _, _ => none

/-- the two sides of == and != that hold pointers, but one is nil -/
def nilEq (x y : Value) : Option Bool :=
  match x, y with
  | .pointer none, .pointer b => some b.isNone
  | .pointer (some _), .pointer none => some false
  | .nilFunc, .nilFunc => some true
  | .nilFunc, .func _ _ _ => some false
  | .func _ _ _, .nilFunc => some false
  | .slice none _ _, .slice b _ _ => some b.isNone
  | .slice (some _) _ _, .slice none _ _ => some false
  | .map none, .map b => some b.isNone
  | .map (some _), .map none => some false
  | _, _ => none
def cmpOp (op : BinOp) (b : Bool) : Option Value :=
  match op with
  | .eql => some (.bool b)
  | .neq => some (.bool (!b))
  | _ => none
def eqKind (d : TypeDesc) (x : Value) : Bool :=
  match d, x with
  | .pointer _, .pointer _ => true
  | .func _ _ _, .nilFunc => true
  | .func _ _ _, .func _ _ _ => true
  | .slice _, .slice _ _ _ => true
  | .map _ _, .map _ => true
  | _, _ => false
noncomputable def opNilEq (P : Program) (op : BinOp) (t : TypeId) (x y : Value) (H : AH) : VRes :=
  oc (nilEq x y) none fun b => oc (P.underlying t) none fun d => sel (eqKind d x) (oc (cmpOp op b) none fun v => some (v, H)) none
theorem nilEq_ok {P : Program} {n0 : Bs} {σ : Ren} {H H' : AH} {w : World} (hr : HR n0 σ H w) {op : BinOp} {t : TypeId} {x x' y y' v : Value} (h : opNilEq P op t x y H = some (v, H')) (hx : VR σ x x') (hy : VR σ y y') (ox oy : Operand) :
    GivesP P n0 σ w H (do eqGuard op t ox oy x' y'; binOp op t x' y') v H' := by
  obtain ⟨b, hb, h⟩ := oc_eq_some h
  obtain ⟨d, hd, h⟩ := oc_eq_some h
  obtain ⟨hk, h⟩ := sel_none h
  obtain ⟨u, hu, h⟩ := oc_eq_some h
  obtain ⟨rfl, rfl⟩ := Prod.mk.inj (Option.some.inj h)
  have hv : VR σ u u := by
    cases op <;> simp [cmpOp] at hu <;> (subst hu; constructor)
  refine GivesP.pure hr ?_ hv
  have key : (Op.equal t x' y').run P w = .ok b w := by
    show (Op.equalIn (9999 + 1) t x' y').run P w = .ok b w
    generalize 9999 = D
    unfold nilEq at hb
    split at hb <;> first | (cases hb; done) | skip
    all_goals obtain rfl := Option.some.inj hb
    all_goals cases hx
    all_goals cases hy
    all_goals cases d <;> first | exact absurd hk Bool.false_ne_true | skip
    all_goals simp [Op.equalIn, run_underlying hd]
  cases op <;> simp [cmpOp] at hu
  all_goals subst hu
  all_goals
    unfold nilEq at hb
    split at hb <;> first | (cases hb; done) | skip
    all_goals obtain rfl := Option.some.inj hb
    all_goals cases hx
    all_goals cases hy
    all_goals simp [eqGuard, binOp, Sem.run_bind, key]


end Go.Proofs.Ythomkiindjhdmaa.Ax
