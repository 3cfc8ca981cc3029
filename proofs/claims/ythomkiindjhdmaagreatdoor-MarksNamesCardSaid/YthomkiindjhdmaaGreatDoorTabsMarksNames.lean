/-
  The tables that viewport/viewportlaw19.MarksNames's row lists, as they lie in memory. No condition but the row's own.
-/
import Derived.Test.YthomkiindjhdmaaGreatDoorRows
import Derived.Test.YthomkiindjhdmaaGreatDoorBx5
import Derived.LaidMore
import Derived.OpenShut
import Derived.FnData
import Derived.MakeChecks
import Derived.KernelRfl
set_option linter.unusedSimpArgs false
set_option linter.unusedVariables false
namespace Go.Proofs.YthomkiindjhdmaaGreatDoor.marksNames
open Go Go.Proofs Go.Proofs.YthomkiindjhdmaaGreatDoor

theorem tab_cells {P : Program} {W : World} {name : String} {g t n e : Nat} {k : IntKind} {ns : List Int} {l : List Value} {d : DataW Unit} (hg : P.globalNamed name = some g) (ht : (P.globals[g]?).map (·.type) = some t) (hu : P.underlying t = some (.array n e)) (he : P.underlying e = some (.int k)) (hc : P.cellsOf e = 1)
    (hd : d = .agg (ns.map fun i => .lit (.int k i))) (hl : l = ns.map (Value.int k)) {g' t' fu : Nat} {cs : Array Value} {p : List MemPlace} (hg' : P.globalNamed name = some g') (ht' : (P.globals[g']?).map (·.type) = some t') (hv : W.var? P name = some cs)
    (hr : DataW.trod (fun _ => ()) P W 0 (fun _ => true) false fu t' cs.toList = some (d, p)) : g < W.heap.size ∧ ∀ w' : World, w'.heap[g]? = W.heap[g]? → ∀ i v, l[i]? = some v → w'.cell? ⟨g, i, none⟩ = some v := by
  obtain rfl := Option.some.inj (hg.symm.trans hg')
  obtain rfl := Option.some.inj (ht.symm.trans ht')
  subst hd hl
  obtain ⟨xs, m, rfl, hx, hlen, hn, hel⟩ := DataW.trod_array hu hr
  simp only [Prod.mk.injEq, DataW.agg.injEq] at hx
  have hcell : ∀ i, W.cell? ⟨g, i, none⟩ = cs[i]? := World.var?_cell hg hv
  have hsz : g < W.heap.size := by
    simp only [World.var?, hg, Option.bind_some] at hv
    cases hh : W.heap[g]? with
    | none => rw [hh] at hv; cases hv
    | some o => exact (Array.getElem?_eq_some_iff.1 hh).1
  refine ⟨hsz, fun w' hw i v hi => ?_⟩
  have e1 : w'.cell? ⟨g, i, none⟩ = W.cell? ⟨g, i, none⟩ := by simp [World.cell?, hw]
  rw [e1, hcell]
  obtain ⟨z, hz, rfl⟩ : ∃ z, ns[i]? = some z ∧ Value.int k z = v := by simpa using hi
  have hxi : (xs.map (·.1))[i]? = some (.lit (.int k z)) := by rw [← hx.1]; simp [hz]
  obtain ⟨x, hxs, hx1⟩ : ∃ x, xs[i]? = some x ∧ x.1 = .lit (.int k z) := by simpa using hxi
  have hin : i < n := by
    rw [← hn]
    exact (List.getElem?_eq_some_iff.1 hxs).1
  have h1 := hel i hin
  rw [hxs, hc] at h1
  obtain ⟨y, e2, e3, _⟩ := DataW.trod_int he h1
  rw [e3] at hx1
  have hy : y = z := by simpa using hx1
  subst hy
  rw [Nat.mul_one] at e2
  have e4 : cs.toList[i]? = some (.int k y) := by
    have := congrArg (fun l => l[0]?) e2
    simpa [List.getElem?_take, List.getElem?_drop] using this
  simpa using e4

def n0 : List Int := [0, 1, 28, 2, 29, 14, 24, 3, 30, 22, 20, 15, 25, 17, 4, 8, 31, 27, 13, 23, 21, 19, 16, 7, 26, 12, 18, 6, 11, 5, 10, 9]
def l0 : List Value := [.int .u8 0, .int .u8 1, .int .u8 28, .int .u8 2, .int .u8 29, .int .u8 14, .int .u8 24, .int .u8 3, .int .u8 30, .int .u8 22, .int .u8 20, .int .u8 15, .int .u8 25, .int .u8 17, .int .u8 4, .int .u8 8, .int .u8 31, .int .u8 27, .int .u8 13, .int .u8 23, .int .u8 21, .int .u8 19, .int .u8 16, .int .u8 7, .int .u8 26, .int .u8 12, .int .u8 18, .int .u8 6, .int .u8 11, .int .u8 5, .int .u8 10, .int .u8 9]
theorem t0 {W : World} {g' t' fu : Nat} {cs : Array Value} {p : List MemPlace} (hg' : Tryz.prog.globalNamed "math/bits.deBruijn32tab" = some g') (ht' : (Tryz.prog.globals[g']?).map (·.type) = some t') (hv : W.var? Tryz.prog "math/bits.deBruijn32tab" = some cs)
    (hr : DataW.trod (fun _ => ()) Tryz.prog W 0 (fun _ => true) false fu t' cs.toList = some (Rows.laid_math_bits_deBruijn32tab, p)) : 1 < W.heap.size ∧ ∀ w' : World, w'.heap[1]? = W.heap[1]? → ∀ i v, l0[i]? = some v → w'.cell? ⟨1, i, none⟩ = some v :=
  tab_cells (t := 399) (n := 32) (e := 5) (k := .u8) (ns := n0) (by kernel_rfl) (by kernel_rfl) (by kernel_rfl) (by kernel_rfl) (by kernel_rfl) (by kernel_rfl) (by kernel_rfl) hg' ht' hv hr

def n1 : List Int := [0, 1, 56, 2, 57, 49, 28, 3, 61, 58, 42, 50, 38, 29, 17, 4, 62, 47, 59, 36, 45, 43, 51, 22, 53, 39, 33, 30, 24, 18, 12, 5, 63, 55, 48, 27, 60, 41, 37, 16, 46, 35, 44, 21, 52, 32, 23, 11, 54, 26, 40, 15, 34, 20, 31, 10, 25, 14, 19, 9, 13, 8, 7, 6]
def l1 : List Value := [.int .u8 0, .int .u8 1, .int .u8 56, .int .u8 2, .int .u8 57, .int .u8 49, .int .u8 28, .int .u8 3, .int .u8 61, .int .u8 58, .int .u8 42, .int .u8 50, .int .u8 38, .int .u8 29, .int .u8 17, .int .u8 4, .int .u8 62, .int .u8 47, .int .u8 59, .int .u8 36, .int .u8 45, .int .u8 43, .int .u8 51, .int .u8 22, .int .u8 53, .int .u8 39, .int .u8 33, .int .u8 30, .int .u8 24, .int .u8 18, .int .u8 12, .int .u8 5, .int .u8 63, .int .u8 55, .int .u8 48, .int .u8 27, .int .u8 60, .int .u8 41, .int .u8 37, .int .u8 16, .int .u8 46, .int .u8 35, .int .u8 44, .int .u8 21, .int .u8 52, .int .u8 32, .int .u8 23, .int .u8 11, .int .u8 54, .int .u8 26, .int .u8 40, .int .u8 15, .int .u8 34, .int .u8 20, .int .u8 31, .int .u8 10, .int .u8 25, .int .u8 14, .int .u8 19, .int .u8 9, .int .u8 13, .int .u8 8, .int .u8 7, .int .u8 6]
theorem t1 {W : World} {g' t' fu : Nat} {cs : Array Value} {p : List MemPlace} (hg' : Tryz.prog.globalNamed "math/bits.deBruijn64tab" = some g') (ht' : (Tryz.prog.globals[g']?).map (·.type) = some t') (hv : W.var? Tryz.prog "math/bits.deBruijn64tab" = some cs)
    (hr : DataW.trod (fun _ => ()) Tryz.prog W 0 (fun _ => true) false fu t' cs.toList = some (Rows.laid_math_bits_deBruijn64tab, p)) : 2 < W.heap.size ∧ ∀ w' : World, w'.heap[2]? = W.heap[2]? → ∀ i v, l1[i]? = some v → w'.cell? ⟨2, i, none⟩ = some v :=
  tab_cells (t := 400) (n := 64) (e := 5) (k := .u8) (ns := n1) (by kernel_rfl) (by kernel_rfl) (by kernel_rfl) (by kernel_rfl) (by kernel_rfl) (by kernel_rfl) (by kernel_rfl) hg' ht' hv hr

def n2 : List Int := [1, 10, 100, 1000, 10000, 100000, 1000000, 10000000, 100000000, 1000000000, 10000000000, 100000000000, 1000000000000, 10000000000000, 100000000000000, 1000000000000000, 10000000000000000, 100000000000000000, 1000000000000000000, 10000000000000000000]
def l2 : List Value := [.int .u64 1, .int .u64 10, .int .u64 100, .int .u64 1000, .int .u64 10000, .int .u64 100000, .int .u64 1000000, .int .u64 10000000, .int .u64 100000000, .int .u64 1000000000, .int .u64 10000000000, .int .u64 100000000000, .int .u64 1000000000000, .int .u64 10000000000000, .int .u64 100000000000000, .int .u64 1000000000000000, .int .u64 10000000000000000, .int .u64 100000000000000000, .int .u64 1000000000000000000, .int .u64 10000000000000000000]
theorem t2 {W : World} {g' t' fu : Nat} {cs : Array Value} {p : List MemPlace} (hg' : Tryz.prog.globalNamed "internal/strconv.uint64pow10" = some g') (ht' : (Tryz.prog.globals[g']?).map (·.type) = some t') (hv : W.var? Tryz.prog "internal/strconv.uint64pow10" = some cs)
    (hr : DataW.trod (fun _ => ()) Tryz.prog W 0 (fun _ => true) false fu t' cs.toList = some (Rows.laid_internal_strconv_uint64pow10, p)) : 0 < W.heap.size ∧ ∀ w' : World, w'.heap[0]? = W.heap[0]? → ∀ i v, l2[i]? = some v → w'.cell? ⟨0, i, none⟩ = some v :=
  tab_cells (t := 386) (n := 20) (e := 56) (k := .u64) (ns := n2) (by kernel_rfl) (by kernel_rfl) (by kernel_rfl) (by kernel_rfl) (by kernel_rfl) (by kernel_rfl) (by kernel_rfl) hg' ht' hv hr

instance tabs : Ax.Tabs := ⟨fun g => cond (Nat.beq g 1) (some l0) (cond (Nat.beq g 2) (some l1) (cond (Nat.beq g 0) (some l2) (none)))⟩
theorem tabs_ok {W : World} (h : laidMetH Tryz.prog Rows.marksNamesRow.laid W) : Ax.TabsOK W.heap.size W := by
  rw [MakeChecks.laidMetH_plain _ _ _ (by kernel_rfl)] at h
  obtain ⟨ps, hL, _, _⟩ := h
  obtain ⟨g0, ty0, cs0, fu0, p0, q0, a0, b0, c0, d0, hL, _⟩ := hL
  obtain ⟨g1, ty1, cs1, fu1, p1, q1, a1, b1, c1, d1, hL, _⟩ := hL
  obtain ⟨g2, ty2, cs2, fu2, p2, q2, a2, b2, c2, d2, hL, _⟩ := hL
  intro g l hg
  have hg : cond (Nat.beq g 1) (some l0) (cond (Nat.beq g 2) (some l1) (cond (Nat.beq g 0) (some l2) (none))) = some l := hg
  cases h0 : Nat.beq g 1 with
  | true =>
    rw [h0, cond_true] at hg
    obtain rfl := Option.some.inj hg
    obtain rfl := Nat.eq_of_beq_eq_true h0
    exact t0 a0 b0 c0 d0
  | false =>
  rw [h0, cond_false] at hg
  cases h1 : Nat.beq g 2 with
  | true =>
    rw [h1, cond_true] at hg
    obtain rfl := Option.some.inj hg
    obtain rfl := Nat.eq_of_beq_eq_true h1
    exact t1 a1 b1 c1 d1
  | false =>
  rw [h1, cond_false] at hg
  cases h2 : Nat.beq g 0 with
  | true =>
    rw [h2, cond_true] at hg
    obtain rfl := Option.some.inj hg
    obtain rfl := Nat.eq_of_beq_eq_true h2
    exact t2 a2 b2 c2 d2
  | false =>
  rw [h2, cond_false] at hg
  cases hg
end Go.Proofs.YthomkiindjhdmaaGreatDoor.marksNames
