/-
  clear of a slice; append of zeros to the nil slice. Own work, plain lemmas.
-/
import Derived.Test.YthomkiindjhdmaaAxT
set_option linter.unusedSimpArgs false
set_option linter.unusedVariables false
set_option linter.unnecessarySimpa false
set_option linter.deprecated false
set_option linter.unusedSectionVars false
namespace Go.Proofs.Ythomkiindjhdmaa.Ax
open Go.RowKit
variable [Tabs]

theorem zeroCells_reps {z : Array Value} {l : List Value} (h : z = ⟨l⟩) (n : Nat) : Builtin.zeroCells z n = ⟨reps l n⟩ := by
  subst h
  exact range_reps ⟨l⟩ n _ rfl
noncomputable def opClear (P : Program) (t : TypeId) (x : Value) (H : AH) : VRes :=
  oc (elemB P t) none fun e => oc (zeroB P e) none fun z => oc (sliceOf x) none fun a =>
    sel (Nat.beq a.2.2.1 0) (some (.tuple #[], H)) (oc (storeB H a.1 a.2.1 (reps z a.2.2.1)) none fun H' => some (.tuple #[], H'))
theorem clear_ok {P : Program} {n0 : Bs} {σ : Ren} {H H' : AH} {w : World} (hr : HR n0 σ H w) {t ty : TypeId} {ts : Array TypeId} (hts : ts[0]? = some t) {x x' v : Value} (h : opClear P t x H = some (v, H')) (hx : VR σ x x') : Gives P n0 σ w (Builtin.clear_ ts ty #[x']) v H' := by
  obtain ⟨e, he, h⟩ := oc_eq_some h
  obtain ⟨z, hz, h⟩ := oc_eq_some h
  obtain ⟨a, ha, h⟩ := oc_eq_some h
  have he := elemB_eq he
  obtain ⟨i, zv, hi, hiz, hzc, hzf⟩ := zeroB_info hz
  rw [sliceOf_eq ha] at hx
  rcases sel_eq_some h with ⟨hn, h⟩ | ⟨hn, h⟩
  · have hn := Nat.eq_of_beq_eq_true hn
    obtain ⟨rfl, rfl⟩ := Prod.mk.inj (Option.some.inj h)
    rw [hn] at hx
    refine Gives.pure hr (v' := .tuple #[]) ?_ (VRs.tuple (l := []) (l' := []) .nil)
    generalize a.2.2.2 = kk at hx
    cases hx <;> simp [Builtin.clear_, hts, run_underlying he]
  · have hn := beq_false_ne hn
    obtain ⟨H₁, hst, h⟩ := oc_eq_some h
    obtain ⟨rfl, rfl⟩ := Prod.mk.inj (Option.some.inj h)
    have hv := flatL_vr (flatL_reps hzf a.2.2.1) σ
    have main : ∀ {c d mm o' k' : Nat}, σ a.1 = some (c, d, mm) → (a.2.2.1 = 0 ∨ o' = d + a.2.1) → Gives P n0 σ w (Builtin.clear_ ts ty #[.slice (some ⟨c, o', none⟩) a.2.2.1 k']) (.tuple #[]) H₁ := by
      intro c d mm o' k' hσ ho
      obtain rfl := ho.resolve_left hn
      obtain ⟨σ', w', r1, r2, r3⟩ := storeB_ok (P := P) hr hst hv hσ (o' := d + a.2.1) (i := 0) (by omega)
      refine ⟨_, σ', w', ?_, VRs.tuple (l := []) (l' := []) .nil, r2, r3⟩
      have e1 : Builtin.zeroCells zv.cells a.2.2.1 = ⟨reps z a.2.2.1⟩ := zeroCells_reps hzc _
      generalize a.2.2.1 = n at hn r1 e1
      cases n with
      | zero => exact absurd rfl hn
      | succ n => simp [Builtin.clear_, hts, run_underlying he, zeroValue, typeInfo, hi, hiz, e1, r1]
    generalize a.2.2.2 = kk at hx
    cases hx with
    | slice _ _ _ hσ hk => exact main hσ (.inr rfl)
    | sliceU _ _ _ _ _ hσ hk ho hd hm => exact main hσ ho
    | sliceL _ _ _ _ _ hσ => exact main hσ (.inr rfl)

/-- so many zeros are to be appended to the nil slice -/
def zCount (s x : Value) : Option Nat :=
  match s with
  | .slice none 0 0 => (match x with
    | .int _ (.ofNat n) => some n
    | _ => none)
  | _ => none
theorem zCount_eq {s x : Value} {n : Nat} (h : zCount s x = some n) : s = .slice none 0 0 ∧ ∃ k, x = .int k (.ofNat n) := by
  unfold zCount at h
  split at h
  · split at h
    · obtain rfl := Option.some.inj h
      exact ⟨rfl, _, rfl⟩
    · cases h
  · cases h
noncomputable def opAppZ (P : Program) (t u : TypeId) (n : Nat) (H : AH) : VRes :=
  oc (elemB P t) none fun e => oc (P.underlying u) none fun d => oc (zeroB P e) none fun z => oc (sizeB P e) none fun sz => oc (bytesB P e) none fun bs =>
    sel (!(notInt d) && Nat.beq z.length sz && Nat.blt sz big && Nat.blt 0 (Nat.mul n sz) && fits n bs) (some (.slice (some ⟨H.next, 0, none⟩) n (Nat.add big sz), H.push (.cells (layT (reps z n)) e))) none
theorem isInt_of {d : TypeDesc} (h : notInt d = false) : ∃ k, d = .int k := by
  cases d <;> first | exact ⟨_, rfl⟩ | cases h
theorem wrap_small {n : Nat} (h : n ≤ 9223372036854775807) : IntKind.i64.wrap (.ofNat n) = .ofNat n := by
  have e : (Int.ofNat n) = (n : Int) := rfl
  rw [e]
  exact Go.IntWalk.i64_in _ (by omega)
theorem run_appZ {P : Program} (w : World) {t u ty e : TypeId} {kd k : IntKind} {i : TypeInfo} {z : Value} (ht : P.underlying t = some (.slice e)) (hu : P.underlying u = some (.int kd)) (hi : P.info? e = some i) (hz : i.zero = some z)
    {n : Nat} (h0 : 0 < n) (hns : n * i.size ≠ 0) (h63 : n ≤ 9223372036854775807) (hb : n * i.bytes ≤ 140737488355328) (hfit : Builtin.nextslicecap n 0 * i.bytes ≤ 281474976710656) :
    (Builtin.append_ #[t, u] ty #[.slice none 0 0, .int k (.ofNat n)]).run P w =
      .ok (.slice (some ⟨w.heap.size, 0, none⟩) n (grownCap w n 0 e)) (w.drew.alloc (.cells (Builtin.zeroCells z.cells n ++ Builtin.zeroCells z.cells (grownCap w n 0 e - n)) e)) := by
  have hn : ¬ (n ≤ 0) := by omega
  have hn' : n ≠ 0 := by omega
  have h63' : ¬ ((9223372036854775807 : Int) < (n : Int)) := by omega
  have h48' : ¬ (281474976710656 < Builtin.nextslicecap n 0 * i.bytes) := by omega
  have hw := wrap_small h63
  have hw' : IntKind.i64.wrap (n : Int) = (n : Int) := hw
  have hneg : ¬ ((n : Int) < 0) := by omega
  have hb' : ¬ ((281474976710656 : Int) < (n : Int) * (i.bytes : Int)) := by
    have e : ((n * i.bytes : Nat) : Int) = (n : Int) * (i.bytes : Int) := Int.natCast_mul _ _
    rw [← e]
    omega
  have hsz : ¬ (n = 0 ∨ i.size = 0) := by
    rintro (h | h)
    · omega
    · exact hns (by rw [h]; simp)
  simp [Builtin.append_, run_underlying ht, run_underlying hu, sizeOf, typeInfo, zeroValue, hi, hz, asInt, asIntOf, hw', hneg, hb', hn, hn', h63', h48', hsz, Question.forced, newRow, grownCap, Builtin.firstCells]
  intro h
  exact absurd h hns
theorem appZ_ok {P : Program} {n0 : Bs} {σ : Ren} {H H' : AH} {w : World} (hr : HR n0 σ H w) {t u ty : TypeId} {n : Nat} {k : IntKind} {v : Value} (h : opAppZ P t u n H = some (v, H')) :
    Gives P n0 σ w (Builtin.append_ #[t, u] ty #[.slice none 0 0, .int k (.ofNat n)]) v H' := by
  obtain ⟨e, he, h⟩ := oc_eq_some h
  obtain ⟨d, hd, h⟩ := oc_eq_some h
  obtain ⟨z, hz, h⟩ := oc_eq_some h
  obtain ⟨sz, hsz, h⟩ := oc_eq_some h
  obtain ⟨bs, hbs, h⟩ := oc_eq_some h
  obtain ⟨hb, h⟩ := sel_none h
  obtain ⟨rfl, rfl⟩ := Prod.mk.inj (Option.some.inj h)
  simp only [Bool.and_eq_true, Bool.not_eq_true'] at hb
  obtain ⟨⟨⟨⟨b1, b2⟩, b3⟩, b4⟩, b5⟩ := hb
  obtain ⟨kd, rfl⟩ := isInt_of b1
  have hzl := Nat.eq_of_beq_eq_true b2
  have hszb := blt_lt b3
  have hpos : 0 < n * sz := blt_lt b4
  have he := elemB_eq he
  obtain ⟨i, zv, hi, hiz, hzc, hzf⟩ := zeroB_info hz
  obtain rfl : i.size = sz := by
    obtain ⟨i', hi', q⟩ := oc_eq_some hsz
    rw [hi] at hi'
    obtain rfl := Option.some.inj hi'
    exact Option.some.inj q
  obtain rfl : i.bytes = bs := by
    obtain ⟨i', hi', q⟩ := oc_eq_some hbs
    rw [hi] at hi'
    obtain rfl := Option.some.inj hi'
    exact Option.some.inj q
  simp only [fits, Bool.and_eq_true] at b5
  have f1 : n * i.bytes ≤ 140737488355328 := ble_le b5.1
  have f2 : n ≤ 9223372036854775807 := ble_le b5.2
  have hn0 : 0 < n := Nat.pos_of_ne_zero fun e => by subst e; simp at hpos
  have run := run_appZ (ty := ty) (k := k) w he hd hi hiz hn0 (by omega) f2 f1 (growslice_fits (by omega) (by exact f1))
  have hg := grownCap_ge w n 0 e
  generalize hG : grownCap w n 0 e = G at run hg
  have e1 : Builtin.zeroCells zv.cells n = ⟨reps z n⟩ := zeroCells_reps hzc _
  have hzs : (Builtin.zeroCells zv.cells (G - n)).size = (G - n) * i.size := by simp [Builtin.zeroCells, hzc, hzl]
  have hm : (reps z n).length + (Builtin.zeroCells zv.cells (G - n)).size = G * i.size := by
    rw [hzs, reps_length, hzl, ← Nat.add_mul]; congr 1; omega
  obtain ⟨h1, h2⟩ := newGrown hr.drew (flatL_vr (flatL_reps hzf n) σ) e (Builtin.zeroCells zv.cells (G - n)) _ hm.symm
  refine ⟨.slice (some ⟨w.heap.size, 0, none⟩) n G, _, _, ?_, ?_, h1, h2.of_drew⟩
  · rw [run, e1]
  · have := VR.sliceU (σ := σ.put H.next (w.drew.heap.size, 0, G * i.size)) 0 0 n G i.size (Ren.put_self _ _ _) (by omega) (.inr rfl) (Nat.le_refl _) (by omega) hszb
    simpa using this
noncomputable def opAppend3 (P : Program) (t u : TypeId) (s x : Value) (H : AH) : VRes := oc (zCount s x) (opAppend2 P t u s x H) fun n => opAppZ P t u n H
theorem append3_ok {P : Program} {n0 : Bs} {σ : Ren} {H H' : AH} {w : World} (hr : HR n0 σ H w) {t u ty : TypeId} {s s' x x' v : Value} (h : opAppend3 P t u s x H = some (v, H')) (hs : VR σ s s') (hx : VR σ x x') :
    Gives P n0 σ w (Builtin.append_ #[t, u] ty #[s', x']) v H' := by
  unfold opAppend3 at h
  cases hz : zCount s x with
  | none => rw [hz] at h; exact append_ok hr h hs hx
  | some n =>
    rw [hz] at h
    obtain ⟨rfl, k, rfl⟩ := zCount_eq hz
    cases hs
    cases hx
    exact appZ_ok hr h

end Go.Proofs.Ythomkiindjhdmaa.Ax
