/-
  The tables that viewport/viewportlaw01.ClassParts's row lists, as they lie in memory. No condition but the row's own.
-/
import Derived.Test.YtdjkjpmcmpihgaaDoorRows
import Derived.Test.YtdjkjpmcmpihgaaDoorTabsClassParts
import Derived.LaidMore
import Derived.OpenShut
import Derived.FnData
import Derived.MakeChecks
import Derived.KernelRfl
set_option linter.unusedSimpArgs false
set_option linter.unusedVariables false
namespace Go.Proofs.YtdjkjpmcmpihgaaDoor.classParts
open Go Go.Proofs Go.Proofs.YtdjkjpmcmpihgaaDoor

theorem tab_cells {P : Program} {W : World} {name : String} {g t n e : Nat} {k : IntKind} {ns : List Int} {l : List Value} {d : DataW Unit} (hg : P.globalNamed name = some g) (ht : (P.globals[g]?).map (·.type) = some t) (hu : P.underlying t = some (.array n e)) (he : P.underlying e = some (.int k)) (hc : P.cellsOf e = 1)
    (hd : d = .agg (ns.map fun i => .lit (.int k i))) (hl : l = ns.map (Value.int k)) {g' t' fu : Nat} {cs : Array Value} {p : List MemPlace} (hg' : P.globalNamed name = some g') (ht' : (P.globals[g']?).map (·.type) = some t') (hv : W.var? P name = some cs)
    (hr : DataW.trod (fun _ => ()) P W 0 (fun _ => true) false fu t' cs.toList = some (d, p)) : g < W.heap.size ∧ ∀ w' : World, w'.heap[g]? = W.heap[g]? → ∀ i v, l[i]? = some v → w'.cell? ⟨g, i, none⟩ = some v := by
  obtain rfl := Option.some.inj (hg.symm.trans hg')
  obtain rfl := Option.some.inj (ht.symm.trans ht')
  subst hd hl
  obtain ⟨xs, m, rfl, hx, hlen, hn, hel⟩ := DataW.trod_array hu hr
  simp only [Prod.mk.injEq, DataW.agg.injEq] at hx
  have hcell : ∀ i, W.cell? ⟨g, i, none⟩ = cs[i]? := World.var?_cell hg hv
  have hsz : g < W.heap.size := by
    simp only [World.var?, hg, Option.bind_some] at hv
    cases hh : W.heap[g]? with
    | none => rw [hh] at hv; cases hv
    | some o => exact (Array.getElem?_eq_some_iff.1 hh).1
  refine ⟨hsz, fun w' hw i v hi => ?_⟩
  have e1 : w'.cell? ⟨g, i, none⟩ = W.cell? ⟨g, i, none⟩ := by simp [World.cell?, hw]
  rw [e1, hcell]
  obtain ⟨z, hz, rfl⟩ : ∃ z, ns[i]? = some z ∧ Value.int k z = v := by simpa using hi
  have hxi : (xs.map (·.1))[i]? = some (.lit (.int k z)) := by rw [← hx.1]; simp [hz]
  obtain ⟨x, hxs, hx1⟩ : ∃ x, xs[i]? = some x ∧ x.1 = .lit (.int k z) := by simpa using hxi
  have hin : i < n := by
    rw [← hn]
    exact (List.getElem?_eq_some_iff.1 hxs).1
  have h1 := hel i hin
  rw [hxs, hc] at h1
  obtain ⟨y, e2, e3, _⟩ := DataW.trod_int he h1
  rw [e3] at hx1
  have hy : y = z := by simpa using hx1
  subst hy
  rw [Nat.mul_one] at e2
  have e4 : cs.toList[i]? = some (.int k y) := by
    have := congrArg (fun l => l[0]?) e2
    simpa [List.getElem?_take, List.getElem?_drop] using this
  simpa using e4

theorem t0 {W : World} {g' t' fu : Nat} {cs : Array Value} {p : List MemPlace} (hg' : Tryd.prog.globalNamed "math/bits.deBruijn64tab" = some g') (ht' : (Tryd.prog.globals[g']?).map (·.type) = some t') (hv : W.var? Tryd.prog "math/bits.deBruijn64tab" = some cs)
    (hr : DataW.trod (fun _ => ()) Tryd.prog W 0 (fun _ => true) false fu t' cs.toList = some (Rows.laid_math_bits_deBruijn64tab, p)) : 0 < W.heap.size ∧ ∀ w' : World, w'.heap[0]? = W.heap[0]? → ∀ i v, l0[i]? = some v → w'.cell? ⟨0, i, none⟩ = some v :=
  tab_cells (t := 60) (n := 64) (e := 5) (k := .u8) (ns := n0) (by kernel_rfl) (by kernel_rfl) (by kernel_rfl) (by kernel_rfl) (by kernel_rfl) (by kernel_rfl) (by kernel_rfl) hg' ht' hv hr

theorem tabs_ok {W : World} (h : laidMetH Tryd.prog Rows.classPartsRow.laid W) : Ax.TabsOK W.heap.size W := by
  rw [MakeChecks.laidMetH_plain _ _ _ (by kernel_rfl)] at h
  obtain ⟨ps, hL, _, _⟩ := h
  obtain ⟨g0, ty0, cs0, fu0, p0, q0, a0, b0, c0, d0, hL, _⟩ := hL
  refine ⟨?_, fun j b d l h => (nomatch (show (none : Option (Nat × Nat × List Value)) = some (b, d, l) from h))⟩
  intro g l hg
  have hg : cond (Nat.beq g 0) (some l0) (none) = some l := hg
  cases h0 : Nat.beq g 0 with
  | true =>
    rw [h0, cond_true] at hg
    obtain rfl := Option.some.inj hg
    obtain rfl := Nat.eq_of_beq_eq_true h0
    exact t0 a0 b0 c0 d0
  | false =>
  rw [h0, cond_false] at hg
  cases hg
end Go.Proofs.YtdjkjpmcmpihgaaDoor.classParts
