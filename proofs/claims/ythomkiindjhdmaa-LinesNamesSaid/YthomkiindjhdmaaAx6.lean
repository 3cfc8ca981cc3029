/-
  strings.Builder: pointers turned to unsafe.Pointer and back, bytes seen as a text, two entries of the machine. Own work, plain lemmas.
-/
import Derived.Test.YthomkiindjhdmaaAx2
import Derived.Test.YthomkiindjhdmaaAxZ
import Derived.Lib.Builder
import Derived.Lib.UnsafeStr
import Derived.Lib.MakeNoZero
import Derived.Laws.Externs
set_option linter.unusedSimpArgs false
set_option linter.unusedVariables false
set_option linter.unnecessarySimpa false
set_option linter.deprecated false
set_option linter.unusedSectionVars false
namespace Go.Proofs.Ythomkiindjhdmaa.Ax
open Go.RowKit
variable [Tabs]

/-! *T to unsafe.Pointer, and back, at a variable that lies alone -/
def isUnsD (d : TypeDesc) : Bool :=
  match d with
  | .unsafePointer => true
  | _ => false
theorem isUnsD_eq {d : TypeDesc} (h : isUnsD d = true) : d = .unsafePointer := by
  unfold isUnsD at h
  split at h
  · rfl
  · cases h
def ptrD (d : TypeDesc) : Option TypeId :=
  match d with
  | .pointer t => some t
  | _ => none
theorem ptrD_eq {d : TypeDesc} {t : TypeId} (h : ptrD d = some t) : d = .pointer t := by
  unfold ptrD at h
  split at h
  · obtain rfl := Option.some.inj h; rfl
  · cases h
noncomputable def unsB (P : Program) (t : TypeId) : Bool := oc (P.underlying t) false isUnsD
theorem unsB_eq {P : Program} {t : TypeId} (h : unsB P t = true) : P.underlying t = some .unsafePointer := by
  unfold unsB at h
  cases hu : P.underlying t with
  | none => rw [hu] at h; cases h
  | some d => rw [hu, oc_some] at h; rw [isUnsD_eq h]
noncomputable def ptrB (P : Program) (t : TypeId) : Option TypeId := oc (P.underlying t) none ptrD
theorem ptrB_eq {P : Program} {t u : TypeId} (h : ptrB P t = some u) : P.underlying t = some (.pointer u) := by
  obtain ⟨d, hd, h⟩ := oc_eq_some h
  rw [hd, ptrD_eq h]
noncomputable def isUns (P : Program) (s d : TypeId) : Bool := unsB P s || unsB P d
noncomputable def convTo (P : Program) (s d : TypeId) : Bool := unsB P d && oc (ptrB P s) false fun t => oc (P.info? t) false fun j => !(Nat.beq j.size 0)
noncomputable def convFrom (P : Program) (s d e : TypeId) : Bool := unsB P s && oc (ptrB P d) false fun u => (P.info? u).isSome && liesAt P P.depth e (2 / P.cellsOf e) 0 u 1
noncomputable def convPtr (P : Program) (s d : TypeId) (x : Value) (H : AH) : Option Value :=
  sel (isUns P s d) (oc (addrOf x) none fun a => oc (pairOf H a.1) none fun y => sel (Nat.beq a.2 0 && (convTo P s d || convFrom P s d y.2)) (some x) none) none
theorem convPtr_ok {P : Program} {n0 : Bs} {σ : Ren} {H : AH} {w : World} (hr : HR n0 σ H w) {s d : TypeId} {x x' v : Value} (h : convPtr P s d x H = some v) (hx : VR σ x x') : GivesP P n0 σ w H (convert s d x') v H := by
  obtain ⟨_, h⟩ := sel_none h
  obtain ⟨a, ha, h⟩ := oc_eq_some h
  obtain ⟨y, hy, h⟩ := oc_eq_some h
  obtain ⟨hc, h⟩ := sel_none h
  obtain rfl := Option.some.inj h
  simp only [Bool.and_eq_true, Bool.or_eq_true] at hc
  obtain ⟨h0, hc⟩ := hc
  have h0 := Nat.eq_of_beq_eq_true h0
  obtain ⟨c, dd, m, hs, rfl⟩ := addrOf_vr ha hx
  obtain ⟨c', d', m', hs', hn, C, h1, h2, h3, hd, hm⟩ := hr.blk _ _ (pairOf_eq hy)
  rw [hs] at hs'
  obtain ⟨rfl, rfl, rfl⟩ : c = c' ∧ dd = d' ∧ m = m' := by
    injection hs' with s1
    injection s1 with a1 s1
    injection s1 with a2 a3
    exact ⟨a1, a2, a3⟩
  have hsh : w.shape? c = some (y.2, 2) := by simp [World.shape?, h1, h2, hm]
  refine GivesP.pure hr ?_ hx
  rw [h0, hd]
  rcases hc with hc | hc
  · unfold convTo at hc
    simp only [Bool.and_eq_true] at hc
    obtain ⟨hu, hc⟩ := hc
    cases hp : ptrB P s with
    | none => rw [hp] at hc; cases hc
    | some t =>
      rw [hp, oc_some] at hc
      cases hi : P.info? t with
      | none => rw [hi] at hc; cases hc
      | some j =>
        rw [hi, oc_some] at hc
        have hj : j.size ≠ 0 := fun e => by rw [e] at hc; cases hc
        exact Lib.run_to_unsafe w ⟨c, 0, none⟩ (ptrB_eq hp) (unsB_eq hu) hi hj hsh (Nat.zero_lt_succ 1)
  · unfold convFrom at hc
    simp only [Bool.and_eq_true] at hc
    obtain ⟨hu, hc⟩ := hc
    cases hp : ptrB P d with
    | none => rw [hp] at hc; cases hc
    | some t =>
      rw [hp, oc_some] at hc
      simp only [Bool.and_eq_true] at hc
      obtain ⟨j, hj⟩ := Option.isSome_iff_exists.1 hc.1
      exact Lib.run_from_unsafe w ⟨c, 0, none⟩ (unsB_eq hu) (ptrB_eq hp) hj hsh hc.2

/-! unsafe.SliceData -/
noncomputable def opSliceData (x : Value) (H : AH) : VRes :=
  match x with
  | .slice none _ _ => some (.pointer none, H)
  | .slice (some ⟨b, o, none⟩) n k => sel (Nat.beq n 0 || Nat.beq k 0) none (some (.pointer (some ⟨b, o, none⟩), H))
  | _ => none
theorem sel_none2 {β : Type} {b : Bool} {y : Option β} {z : β} (h : sel b none y = some z) : b = false ∧ y = some z := by
  cases b
  · exact ⟨rfl, h⟩
  · cases h
theorem sliceData_ok {P : Program} {n0 : Bs} {σ : Ren} {H H' : AH} {w : World} (hr : HR n0 σ H w) {ts : Array TypeId} {ty : TypeId} {x x' v : Value} (h : opSliceData x H = some (v, H')) (hx : VR σ x x') : GivesP P n0 σ w H (Builtin.unsafeSliceData_ ts ty #[x']) v H' := by
  unfold opSliceData at h
  split at h
  · obtain ⟨rfl, rfl⟩ := Prod.mk.inj (Option.some.inj h)
    cases hx
    exact GivesP.pure hr (Lib.run_unsafeSliceData_nil _ _ _ _ _) .ptr0
  · rename_i b o n k
    obtain ⟨hnk, h⟩ := sel_none2 h
    obtain ⟨rfl, rfl⟩ := Prod.mk.inj (Option.some.inj h)
    simp only [Bool.or_eq_false_iff] at hnk
    have hn : n ≠ 0 := fun e => by rw [e] at hnk; cases hnk.1
    have hk : k ≠ 0 := fun e => by rw [e] at hnk; cases hnk.2
    cases hx with
    | slice _ _ _ hb _ => exact GivesP.pure hr (Lib.run_unsafeSliceData_row _ _ _ _ _ _ hk) (.ptr o hb)
    | sliceU _ o' _ k' es hb hk' ho hd hm he =>
      have : o' = _ := ho.resolve_left hn
      subst this
      exact GivesP.pure hr (Lib.run_unsafeSliceData_row _ _ _ _ _ _ (by omega)) (.ptr o hb)
    | sliceL _ _ k' es lb hb hk' hl hm he => exact GivesP.pure hr (Lib.run_unsafeSliceData_row _ _ _ _ _ _ (by omega)) (.ptr o hb)
  · cases h

/-! unsafe.String -/
theorem lies_row {P : Program} {e : TypeId} (hc : P.cellsOf e = 1) (count off n : Nat) (hn : off + n ≤ count) : liesAt P P.depth e count off e n = true := by
  have hd : P.depth = (2 * (P.types.size + Made.depth) + 1) + 1 := rfl
  rw [hd]
  simp only [liesAt, Bool.or_eq_true]
  left
  rw [hd]
  simp [rowAt, hc, hn, sameLayout, Nat.mod_one]
theorem load_bytes {P : Program} {w : World} {c : Nat} : ∀ {l : List Value} {r : List UInt8}, bytesL l = some r → ∀ (o : Nat) (acc : List UInt8), (∀ j v, l[j]? = some v → w.cell? ⟨c, o + j, none⟩ = some v) → (loadBytes ⟨c, o, none⟩ ⟨⟨acc⟩⟩ r.length).run P w = .ok ⟨⟨acc ++ r⟩⟩ w
  | [], r, h, o, acc, _ => by
    obtain rfl := Option.some.inj h
    simp [loadBytes]
  | v :: l, r, h, o, acc, hc => by
    rw [bytesL_cons] at h
    obtain ⟨x, hx, h⟩ := oc_eq_some h
    obtain ⟨r', hr', h⟩ := oc_eq_some h
    obtain rfl := Option.some.inj h
    obtain ⟨n, rfl, rfl⟩ := byteOf_eq hx
    have h0 : w.cell? ⟨c, o, none⟩ = some (.int .u8 n) := hc 0 _ (by simp)
    have ih := load_bytes (P := P) (w := w) (c := c) hr' (o + 1) (acc ++ [UInt8.ofNat n.toNat]) fun j u hu => by
      have := hc (j + 1) u (by simpa using hu)
      rwa [show o + 1 + j = o + (j + 1) from by omega]
    simp only [List.length_cons, loadBytes, Sem.run_bind, load, Sem.run, h0, Result.andThen_ok, add_plain]
    have e : (⟨⟨acc⟩⟩ : ByteArray).push (n.toNat.toUInt8) = ⟨⟨acc ++ [UInt8.ofNat n.toNat]⟩⟩ := by
      simp [ByteArray.push]
    rw [e, ih]
    simp
theorem bytesL_len : ∀ {l : List Value} {r : List UInt8}, bytesL l = some r → r.length = l.length
  | [], r, h => by obtain rfl := Option.some.inj h; rfl
  | v :: l, r, h => by
    rw [bytesL_cons] at h
    obtain ⟨x, hx, h⟩ := oc_eq_some h
    obtain ⟨r', hr', h⟩ := oc_eq_some h
    obtain rfl := Option.some.inj h
    simp [bytesL_len hr']

/-- a block is left behind: its object is another one, but nobody looks at it -/
theorem HR.leave {n0 : Bs} {σ : Ren} {H : AH} {w w' : World} (hr : HR n0 σ H w) {b c d m : Nat} {x : ABlk} (hb : H.blocks.get b = some x) (hs : σ b = some (c, d, m)) (hsz : w'.heap.size = w.heap.size) (hbel : Below n0.n.n w w') (hoth : ∀ k, k ≠ c → w'.heap[k]? = w.heap[k]?) :
    HR n0 σ ⟨H.blocks.put b none, H.next, Nat.min H.low b⟩ w' ∧ Step n0 σ w (Nat.min H.low b) σ w' := by
  have get : ∀ b₁ x₁, (H.blocks.put b none).get b₁ = some x₁ → b₁ ≠ b ∧ H.blocks.get b₁ = some x₁ := fun b₁ x₁ h => by
    rw [Tr.get_put] at h
    by_cases e : b₁ = b
    · rw [if_pos e] at h; cases h
    · rw [if_neg e] at h; exact ⟨e, h⟩
  obtain ⟨c0, d0, m0, hs0, hn, _⟩ := hr.blk b x hb
  rw [hs] at hs0
  obtain rfl : c = c0 := by
    injection hs0 with s1
    injection s1 with a1 s1
  refine ⟨⟨base_size hr.base (Nat.le_of_eq hsz.symm) hbel.block, fun b₁ x₁ h => ?_, fun b₁ b₂ x₁ x₂ c' d₁ m₁ d₂ m₂ g1 g2 => hr.inj b₁ b₂ x₁ x₂ c' d₁ m₁ d₂ m₂ (get _ _ g1).2 (get _ _ g2).2, hr.dom, fun b₁ c' d₁ m₁ h => by rw [hsz]; exact hr.img b₁ c' d₁ m₁ h, hr.hol⟩, .refl σ, hbel, fun c' hc hlow => ⟨hoth c' ?_, fun _ _ _ h => h⟩⟩
  · obtain ⟨e, h⟩ := get b₁ x₁ h
    obtain ⟨k, d₁, m₁, hs₁, hn₁, hB⟩ := hr.blk b₁ x₁ h
    refine ⟨k, d₁, m₁, hs₁, hn₁, ?_⟩
    rw [hoth k fun ek => e (hr.inj b₁ b _ _ c d₁ m₁ d m h hb (ek ▸ hs₁) hs)]
    exact hB
  · rintro rfl
    rcases hlow with hq | hlow
    · exact hn.2 hq
    · exact absurd (hlow b d m hs) (Nat.not_lt.2 (Nat.min_le_right _ _))

noncomputable def opUStr (P : Program) (t : TypeId) (x y : Value) (H : AH) : VRes :=
  match x, y with
  | .pointer none, .int .i64 (.ofNat 0) => some (.string .empty, H)
  | .pointer (some ⟨b, o, none⟩), .int .i64 (.ofNat n) => sel (Nat.beq n 0) (some (.string .empty, H)) (oc (blkCells H b) none fun q => oc (rdT q.1 n o) none fun l => oc (bytesL l) none fun r => oc (ptrB P t) none fun e => sel (Nat.beq e q.2 && Nat.beq (P.cellsOf e) 1 && Nat.ble n 1000000000) (some (.string ⟨⟨r⟩⟩, ⟨H.blocks.put b none, H.next, Nat.min H.low b⟩)) none)
  | _, _ => none
theorem uStr_ok {P : Program} {n0 : Bs} {σ : Ren} {H H' : AH} {w : World} (hr : HR n0 σ H w) {t t2 ty : TypeId} {x x' y y' v : Value} (h : opUStr P t x y H = some (v, H')) (hx : VR σ x x') (hy : VR σ y y') : Gives P n0 σ w (Builtin.unsafeString_ #[t, t2] ty #[x', y']) v H' := by
  unfold opUStr at h
  split at h
  · obtain ⟨rfl, rfl⟩ := Prod.mk.inj (Option.some.inj h)
    cases hx
    cases hy
    exact ⟨_, σ, w, Lib.run_unsafeString_none w _ _ _ none, .string _, hr, Step.refl _ _ _ _⟩
  · rename_i b o n
    cases hy
    rcases sel_eq_some h with ⟨hn, h⟩ | ⟨hn, h⟩
    · obtain ⟨rfl, rfl⟩ := Prod.mk.inj (Option.some.inj h)
      obtain rfl := Nat.eq_of_beq_eq_true hn
      cases hx
      exact ⟨_, σ, w, Lib.run_unsafeString_none w _ _ _ _, .string _, hr, Step.refl _ _ _ _⟩
    · obtain ⟨q, hq, h⟩ := oc_eq_some h
      obtain ⟨l, hl, h⟩ := oc_eq_some h
      obtain ⟨r, hrr, h⟩ := oc_eq_some h
      obtain ⟨e, he, h⟩ := oc_eq_some h
      obtain ⟨hc, h⟩ := sel_none h
      obtain ⟨rfl, rfl⟩ := Prod.mk.inj (Option.some.inj h)
      simp only [Bool.and_eq_true] at hc
      obtain ⟨⟨hc1, hc2⟩, hc3⟩ := hc
      have hc1 := Nat.eq_of_beq_eq_true hc1
      have hc2 := Nat.eq_of_beq_eq_true hc2
      have hc3 := Nat.le_of_ble_eq_true hc3
      cases hx with
      | @ptr _ c d m _ hs =>
      have hb := blkCells_eq hq
      obtain ⟨c', d', m', hs', hn', C, h1, h2, h3⟩ := hr.blk _ _ hb
      rw [hs] at hs'
      obtain ⟨rfl, rfl, rfl⟩ : c = c' ∧ d = d' ∧ m = m' := by
        injection hs' with s1
        injection s1 with a1 s1
        injection s1 with a2 a3
        exact ⟨a1, a2, a3⟩
      obtain ⟨l', q1, q2⟩ := hr.reads hb hs n o l hl
      have hlen := (rdT_get _ _ _ _ hl).1
      have hrl := bytesL_vr q1 hrr
      have hrn : r.length = n := by rw [bytesL_len hrr, hlen]
      have hn0 : n ≠ 0 := fun e => by rw [e] at hn; cases hn
      have hcell : ∀ j v, l'[j]? = some v → w.cell? ⟨c, d + o + j, none⟩ = some v := fun j v hv => by
        have := q2 j v hv
        rwa [show d + (o + j) = d + o + j from by omega] at this
      have hsize : d + o + n ≤ m := by
        have hl' : l'.length = n := by rw [← q1.length, hlen]
        obtain ⟨u, hu⟩ : ∃ u, l'[n - 1]? = some u := ⟨l'[n - 1]'(by omega), by simp⟩
        have := hcell _ _ hu
        rw [cell_of_block h1] at this
        have := getElem?_some_lt this
        omega
      have hsh : w.shape? c = some (e, m) := by simp [World.shape?, h1, h2, hc1]
      have hlb := load_bytes (P := P) hrl (d + o) [] hcell
      have hlies := lies_row (P := P) hc2 (m / P.cellsOf e) (d + o) n (by rw [hc2]; simpa using hsize)
      have hp := ptrB_eq he
      have hrun : (Builtin.unsafeString_ #[t, t2] ty #[.pointer (some ⟨c, d + o, none⟩), .int .i64 (n : Int)]).run P w = .ok (.string ⟨⟨r⟩⟩) (w.freeze ⟨c, d + o, none⟩ n) := by
        have hdef : Builtin.unsafeString_ #[t, t2] ty #[.pointer (some ⟨c, d + o, none⟩), .int .i64 (n : Int)] =
            (do
              let n ← asInt (.int .i64 (n : Int))
              if n < 0 then runtimePanic (.error "unsafe.String: len out of range")
              if n > IntKind.i64.max then unsupported (.unsafePointer "String: a length above the largest int")
              if n = 0 then pure (.string .empty)
              else if ← variablesAt ⟨c, d + o, none⟩ (← elemOf t) n.toNat then do
                let s ← loadBytes ⟨c, d + o, none⟩ .empty n.toNat
                freeze ⟨c, d + o, none⟩ n.toNat
                pure (.string s)
              else unsupported (.unsafePointer "String: not so many bytes at ptr")) := rfl
        rw [hdef]
        have hmax : IntKind.i64.max = 9223372036854775807 := rfl
        have hneg : ¬ (n : Int) < 0 := by omega
        have h63' : ¬ (9223372036854775807 : Int) < (n : Int) := by omega
        have hlb' : (loadBytes ⟨c, d + o, none⟩ .empty n).run P w = .ok ⟨⟨r⟩⟩ w := by rw [hrn] at hlb; exact hlb
        simp [asInt, asIntOf, hmax, h63', hneg, hn0, variablesAt, hsh, elemOf, run_underlying hp, hlies, hlb']
      have hz : (w.freeze ⟨c, d + o, none⟩ n).heap.size = w.heap.size := by
        unfold World.freeze
        split
        · rfl
        · simp
      have hoth : ∀ k, k ≠ c → (w.freeze ⟨c, d + o, none⟩ n).heap[k]? = w.heap[k]? := fun k hk => by
        unfold World.freeze
        split
        · rfl
        · simp only [Array.getElem?_modify]
          rw [if_neg (fun e => hk e.symm)]
      obtain ⟨g1, g2⟩ := hr.leave (w' := w.freeze ⟨c, d + o, none⟩ n) hb hs hz (Lib.below_freeze (Below.refl _ _) hn'.1 n) hoth
      exact ⟨_, σ, _, hrun, .string _, g1, g2⟩
  · cases h

theorem arrOne {σ : Ren} {x : Value} {args : Array Value} (h : VRs σ [x] args.toList) : ∃ x', args = #[x'] ∧ VR σ x x' := by
  obtain ⟨l⟩ := args
  cases h with
  | cons h1 h2 =>
    cases h2
    exact ⟨_, rfl, h1⟩
/-! two entries of the machine: a pointer kept as it is; a row of whatever bytes -/
inductive ExtK where
  | same
  | row (e : TypeId)
noncomputable def extN (P : Program) (fd : Func) : Option ExtK :=
  sel ((Extern.findNext fd).isNone && !(fd.name == "runtime.NumGoroutine")) (sel (fd.name == "internal/abi.NoEscape") (some .same) (sel (fd.name == "internal/bytealg.MakeNoZero" && Nat.beq fd.resultTypes.size 1) (oc (elemB P (fd.resultTypes.getD 0 0)) none fun e => some (.row e)) none)) none
noncomputable def extF (P : Program) (fn : Fn) : Option ExtK :=
  match fn with
  | .func f => oc (P.funcs[f]?) none fun fd => sel (fd.body.isNone) (extN P fd) none
  | _ => none
def natArg (v : Value) : Option Nat :=
  match v with
  | .int .i64 (.ofNat n) => some n
  | _ => none
theorem natArg_eq {v : Value} {n : Nat} (h : natArg v = some n) : v = .int .i64 (n : Int) := by
  unfold natArg at h
  split at h
  · obtain rfl := Option.some.inj h; rfl
  · cases h
noncomputable def opExt (P : Program) (k : ExtK) (args : List Value) (H : AH) : VRes :=
  match k, args with
  | .same, [x] => some (x, H)
  | .row e, [x] => oc (natArg x) none fun n => sel (Nat.ble n 1000000000) (some (.slice (some ⟨H.next, 0, none⟩) n (Nat.add big 1), H.push (.cells (layT (List.replicate n (.chan none))) e))) none
  | _, _ => none
set_option maxRecDepth 100000 in
theorem same2 : Extern.allGenericRows.lookup "internal/abi.NoEscape" = none := by kernel_rfl
set_option maxRecDepth 100000 in
theorem same3 : Extern.allTypedRows.lookup "internal/abi.NoEscape" = none := by kernel_rfl
set_option maxRecDepth 100000 in
theorem same4 : Extern.allRows.lookup "internal/abi.NoEscape" = some Extern.AbiNoEscape.same := by kernel_rfl
set_option maxRecDepth 100000 in
theorem row2 : Extern.allGenericRows.lookup "internal/bytealg.MakeNoZero" = none := by kernel_rfl
set_option maxRecDepth 100000 in
theorem row3 : Extern.allTypedRows.lookup "internal/bytealg.MakeNoZero" = some Extern.BytealgMakeNoZero.makeNoZero := by kernel_rfl
theorem find_same {fd : Func} (h : fd.name = "internal/abi.NoEscape") : Extern.find fd = some Extern.AbiNoEscape.same := by
  unfold Extern.find
  simp only [h, same2, same3, same4]
  rfl
theorem find_row {fd : Func} (h : fd.name = "internal/bytealg.MakeNoZero") : Extern.find fd = some (Extern.BytealgMakeNoZero.makeNoZero fd.params fd.resultTypes) := by
  unfold Extern.find
  simp only [h, row2, row3]
  rfl
/-- a call of such a function gives its value at once -/
theorem ext_ok {P : Program} {n0 : Bs} {σ : Ren} {H H' : AH} {w : World} (hr : HR n0 σ H w) {fn : Fn} {k : ExtK} (hk : extF P fn = some k) {l : List Value} {args : Array Value} {v : Value} (h : opExt P k l H = some (v, H')) (hl : VRs σ l args.toList) :
    ∃ g, fn = .func g ∧ ∃ v' σ' w', (callFunc g args).run P w = .ok (.value v') w' ∧ VR σ' v v' ∧ HR n0 σ' H' w' ∧ Step n0 σ w H'.low σ' w' := by
  obtain ⟨f, rfl⟩ : ∃ f, fn = .func f := by
    unfold extF at hk
    cases fn <;> first | exact ⟨_, rfl⟩ | cases hk
  obtain ⟨fd, hfd, hk⟩ := oc_eq_some hk
  obtain ⟨hb, hk⟩ := sel_none hk
  obtain ⟨hnx, hk⟩ := sel_none hk
  simp only [Bool.and_eq_true, Bool.not_eq_true'] at hnx
  obtain ⟨hnx, hng⟩ := hnx
  have hnx : Extern.findNext fd = none := by simpa using hnx
  refine ⟨f, rfl, ?_⟩
  rcases sel_eq_some hk with ⟨hn, hk⟩ | ⟨hn, hk⟩
  · obtain rfl := Option.some.inj hk
    obtain ⟨x, rfl⟩ : ∃ x, l = [x] := by rcases l with _ | ⟨x, _ | ⟨y, t⟩⟩ <;> first | (cases h; done) | exact ⟨_, rfl⟩
    obtain ⟨rfl, rfl⟩ := Prod.mk.inj (Option.some.inj h)
    obtain ⟨x', rfl, hx⟩ := arrOne hl
    refine ⟨x', σ, w, ?_, hx, hr, Step.refl _ _ _ _⟩
    rw [run_callFunc_extern hfd hng hb hnx (find_same (by simpa using hn))]
    rfl
  · obtain ⟨hn, hk⟩ := sel_none hk
    obtain ⟨e, he, hk⟩ := oc_eq_some hk
    obtain rfl := Option.some.inj hk
    simp only [Bool.and_eq_true] at hn
    obtain ⟨hn, hsz⟩ := hn
    obtain ⟨x, rfl⟩ : ∃ x, l = [x] := by rcases l with _ | ⟨x, _ | ⟨y, t⟩⟩ <;> first | (cases h; done) | exact ⟨_, rfl⟩
    obtain ⟨n, hx, h⟩ := oc_eq_some (o := natArg x) (f := fun n => sel (Nat.ble n 1000000000) (some (Value.slice (some ⟨H.next, 0, none⟩) n (Nat.add big 1), H.push (.cells (layT (List.replicate n (Value.chan none))) e))) none) h
    obtain ⟨hn9, h⟩ := sel_none h
    obtain ⟨rfl, rfl⟩ := Prod.mk.inj (Option.some.inj h)
    have hn9 := Nat.le_of_ble_eq_true hn9
    obtain ⟨x', rfl, hxx⟩ := arrOne hl
    obtain rfl := natArg_eq hx
    cases hxx
    have hres : fd.resultTypes = #[fd.resultTypes.getD 0 0] := by
      have h1 : fd.resultTypes.size = 1 := Nat.eq_of_beq_eq_true hsz
      apply Array.ext
      · simp [h1]
      · intro i hi1 hi2
        have : i = 0 := by omega
        subst this
        simp [hi1]
    obtain ⟨cs, r1, r2, r3⟩ := Lib.run_makeNoZero (P := P) w fd.params (fd.resultTypes.getD 0 0) e (elemB_eq he) n (by omega)
    have hBR : BR (σ.put H.next (w.heap.size, 0, cs.size)) 0 cs.size (some (.cells cs e (0, 0))) (.cells (layT (List.replicate n (.chan none))) e) := by
      refine ⟨cs, rfl, rfl, fun i u hu => ?_⟩
      rw [layT_get] at hu
      have hi : i < n := by
        have := (List.getElem?_eq_some_iff.1 hu).1
        simpa using this
      have hu' : u = .chan none := by
        have := (List.getElem?_eq_some_iff.1 hu).2
        simpa using this.symm
      subst hu'
      exact ⟨cs[i]'(by omega), by simp, .any _⟩
    obtain ⟨g1, g2⟩ := (hr.drew.drew).alloc (x := .cells (layT (List.replicate n (.chan none))) e) (o := .cells cs e) (m := cs.size) hBR
    refine ⟨.slice (some ⟨w.heap.size, 0, none⟩) n cs.size, _, _, ?_, ?_, g1, ?_⟩
    · rw [run_callFunc_extern hfd hng hb hnx (find_row (by simpa using hn)), hres, r1]
      rfl
    · have := VR.sliceU (σ := σ.put H.next (w.heap.size, 0, cs.size)) (b := H.next) 0 0 n cs.size 1 (Ren.put_self _ _ _) r2 (.inr rfl) (Nat.le_refl _) (by omega) (by decide)
      exact this
    · exact g2.of_drew.of_drew

end Go.Proofs.Ythomkiindjhdmaa.Ax
