/-
  EngineNames: what its row says of the program, fact by fact.
-/
import Derived.Test.YthapchfdablbeaaGreatDoorRows
import Derived.Test.YthapchfdablbeaaGreatDoorCards
import Derived.Test.YthapchfdablbeaaGreatDoorTie
import Derived.WalkKit
import Derived.ProofKit
import Derived.OpenShut
import Derived.ShutString
import Derived.ChangeOld
import Derived.Below
import Derived.LaidMore
import Derived.SevenTiedAt
import Derived.Stop.Joined
import Derived.Lib.SmallJoins
import Derived.Test.YthapchfdablbeaaGreatDoorChecked
set_option linter.unusedSimpArgs false
set_option linter.unusedVariables false
namespace Go.Proofs.YthapchfdablbeaaGreatDoor.engineNames
open Go.ChangeShapes Go.WideShapes Go.ChangeAt Go.RowKit Go.Joins
open Go.ChangeMaps (open_string shut_string)
theorem and2 {a b : Bool} (ha : a = true) (hb : b = true) : (a && b) = true := by rw [ha, hb]; rfl
theorem j0 : Rows.engineNamesRow.wf (OpenSpec.ofChange Rows.engineNamesSpec) = true := by kernel_rfl
theorem j1 : laidOutB Tryz.prog = true := by kernel_rfl
theorem j2 : mapsRowed Tryz.prog = true := by kernel_rfl
theorem j3 : Tryz.f3.params.all (Tryz.prog.readableRec ·) = true := by kernel_rfl
theorem j4 : namedTie Tryz.prog Rows.engineNamesRow.named Rows.engineNamesSpec.vars = true := by kernel_rfl
theorem j5 : (Rows.engineNamesRow.stops == []) = true := by kernel_rfl
theorem j6 : (Tryz.prog.stops == []) = true := by kernel_rfl
theorem j7 : (Rows.engineNamesRow.knobs == []) = true := by kernel_rfl
theorem j8 : (Tryz.prog.stopKnobs == []) = true := by kernel_rfl
theorem j9 : (Rows.engineNamesRow.inPlace == Tryz.prog.inPlace 3) = true := by kernel_rfl
theorem j10 : (Rows.engineNamesRow.unfollowed == Tryz.prog.unfollowed 3) = true := by kernel_rfl
theorem j11 : (Rows.engineNamesRow.recurses == Tryz.prog.recurses 3) = true := by kernel_rfl
theorem j12 : (Rows.engineNamesRow.named == Tryz.prog.varsNamed 3) = true := by kernel_rfl
theorem j13 : (Rows.engineNamesRow.maps == (Tryz.f3.params.toList ++ Rows.engineNamesSpec.plain.varTypes Tryz.prog).any (Tryz.prog.mapsRec ·)) = true := by kernel_rfl
theorem j14 : (Rows.engineNamesRow.ifaces == (Tryz.f3.params.toList ++ Rows.engineNamesSpec.plain.varTypes Tryz.prog).any (Tryz.prog.ifacesRec ·)) = true := by kernel_rfl
theorem j15 : (Rows.engineNamesRow.mapsOut == Tryz.prog.mapsAmong Tryz.f3.resultTypes.toList) = true := by kernel_rfl
theorem j16 : (Rows.engineNamesRow.loops == (Tryz.f3.params.toList ++ Rows.engineNamesSpec.plain.varTypes Tryz.prog).any (Tryz.prog.loopsFrom ·)) = true := by kernel_rfl
theorem j17 : (Rows.engineNamesRow.wideKeys == (Tryz.f3.params.toList ++ Rows.engineNamesSpec.plain.varTypes Tryz.prog ++ Tryz.f3.resultTypes.toList).any (Tryz.prog.wideKeysFrom ·)) = true := by kernel_rfl
theorem j18 : Rows.engineNamesSpec.vars.all (Tryz.prog.varReadable ·) = true := by kernel_rfl
theorem j19 : Tryz.f3.resultTypes.all (fun t => Tryz.prog.readableRec t && decide (t < Tryz.prog.types.size)) = true := by kernel_rfl
theorem j20 : (Rows.engineNamesRow.ifacesOut == Tryz.f3.resultTypes.toList.any (Tryz.prog.ifacesRec ·)) = true := by kernel_rfl
theorem j21 : (Rows.engineNamesRow.loopsOut == Tryz.f3.resultTypes.toList.any (Tryz.prog.loopsFrom ·)) = true := by kernel_rfl
theorem j22 : (Rows.engineNamesRow.plainKeys == Tryz.prog.plainKeys) = true := by kernel_rfl
theorem j23 : Rows.engineNamesRow.shortTexts.isNone = true := by kernel_rfl
theorem j24 : Tryz.prog.stopsHeard = true := by kernel_rfl
theorem j25 : Tryz.prog.mayEnter = true := by kernel_rfl
theorem j26 : (Rows.engineNamesRow.lifted == Tryz.prog.liftsFinal) = true := by kernel_rfl
theorem j27 : (Tryz.prog.make == some Rows.engineNamesRow.make) = true := by kernel_rfl
theorem j29 : (Rows.engineNamesRow.pinned == Rows.engineNamesRow.pinnedBy) = true := by kernel_rfl
theorem j30 : (Rows.engineNamesRow.veiled == (Tryz.f3.params.toList ++ Rows.engineNamesSpec.plain.varTypes Tryz.prog ++ Tryz.f3.resultTypes.toList).any (Tryz.prog.veiledRec ·)) = true := by kernel_rfl
theorem j31 : Rows.engineNamesRow.veiledFits Tryz.prog Tryz.f3.params.toList (Tryz.f3.params.toList ++ Rows.engineNamesSpec.plain.varTypes Tryz.prog ++ Tryz.f3.resultTypes.toList) = true := by kernel_rfl
theorem joined : joinedFacts Tryz.prog 3 Tryz.f3 Rows.engineNamesSpec Rows.engineNamesRow = true := and2 (and2 (and2 (and2 (and2 (and2 (and2 (and2 (and2 (and2 (and2 (and2 (and2 (and2 (and2 (and2 (and2 (and2 (and2 (and2 (and2 (and2 (and2 (and2 (and2 (and2 (and2 (and2 (and2 (and2 (and2 j0 j1) j2) j3) j4) j5) j6) j7) j8) j9) j10) j11) j12) j13) j14) j15) j16) j17) j18) j19) j20) j21) j22) j23) j24) j25) j26) j27) (by kernel_rfl)) j29) j30) j31
theorem funcIs : Tryz.prog.funcNamed "viewport/viewportlaw27.EngineNames" = some 3 := by kernel_rfl
theorem inst : Tryz.f3.isInstance Tryz.prog Rows.engineNamesRow.origin Rows.engineNamesRow.targs := of_decide_eq_true (by kernel_rfl)
theorem wrap : Tryz.f3.isWrapper Tryz.prog Rows.engineNamesRow.wrapper Rows.engineNamesRow.mainSum := by unfold Func.isWrapper; first | (rw [if_pos (by decide +kernel)]; kernel_rfl) | (rw [if_neg (by decide +kernel)]; exact ⟨rfl, rfl⟩)
noncomputable def noGo (P : Program) (a n : Nat) : Bool := @Nat.rec (fun _ => Bool) true (fun i ih => !((P.funcs[a + i]?).any Func.goes) && ih) n
theorem noGo_ok {P : Program} {a : Nat} : ∀ {n : Nat}, noGo P a n = true → ∀ i, i < n → (P.funcs[a + i]?).any Func.goes = false
  | 0, _, i, hi => absurd hi (Nat.not_lt_zero _)
  | n + 1, h, i, hi => by
    have h : (!((P.funcs[a + n]?).any Func.goes) && noGo P a n) = true := h
    simp only [Bool.and_eq_true, Bool.not_eq_true'] at h
    rcases Nat.lt_or_ge i n with hl | hl
    · exact noGo_ok h.2 i hl
    · obtain rfl : i = n := by omega
      exact h.1
theorem noGo_at {P : Program} {a n : Nat} (h : noGo P a n = true) (g : Nat) (h1 : a ≤ g) (h2 : g < a + n) : (P.funcs[g]?).any Func.goes = false := by
  have := noGo_ok h (g - a) (by omega)
  rwa [Nat.add_sub_cancel' h1] at this
theorem none_at {P : Program} {n g : Nat} (h : P.funcs.size = n) (h1 : n ≤ g) : (P.funcs[g]?).any Func.goes = false := by
  rw [Array.getElem?_eq_none (by rw [h]; exact h1)]; rfl
theorem goes_none {P : Program} (h : ∀ g : Nat, (P.funcs[g]?).any Func.goes = false) (f : FuncId) : P.goes f = false := by
  unfold Program.goes
  have h1 : ((P.closure f).any fun g => (P.funcs[g]?).any Func.goes) = false := List.any_eq_false.2 fun g _ => by rw [h g]; exact Bool.false_ne_true
  have h2 : P.funcs.any Func.goes = false := by
    rw [Array.any_eq_false]
    intro i hi
    have := h i
    rw [Array.getElem?_eq_getElem hi] at this
    simpa using this
  rw [h1, h2, Bool.and_false]
  rfl
theorem goesBy_none {P : Program} {c : OpenClaim} (h : ∀ g : Nat, (P.funcs[g]?).any Func.goes = false) (hs : c.start = .entering) : false = c.goesBy P := by
  unfold OpenClaim.goesBy Program.goesAt Program.goesFrom
  rw [hs]
  cases P.funcNamed c.func with
  | none => rfl
  | some f =>
    show false = (P.goes f || false)
    rw [goes_none h f]
    rfl
theorem go0 : noGo Tryz.prog 0 60 = true := by kernel_rfl
theorem go1 : noGo Tryz.prog 60 60 = true := by kernel_rfl
theorem go2 : noGo Tryz.prog 120 60 = true := by kernel_rfl
theorem go3 : noGo Tryz.prog 180 60 = true := by kernel_rfl
theorem go4 : noGo Tryz.prog 240 60 = true := by kernel_rfl
theorem go5 : noGo Tryz.prog 300 60 = true := by kernel_rfl
theorem go6 : noGo Tryz.prog 360 60 = true := by kernel_rfl
theorem go7 : noGo Tryz.prog 420 60 = true := by kernel_rfl
theorem go8 : noGo Tryz.prog 480 60 = true := by kernel_rfl
theorem go9 : noGo Tryz.prog 540 15 = true := by kernel_rfl
theorem fsize : Tryz.prog.funcs.size = 555 := by kernel_rfl
theorem noGoAt (g : Nat) : (Tryz.prog.funcs[g]?).any Func.goes = false := by
  rcases Nat.lt_or_ge g 555 with h | h
  · by_cases h0 : 0 ≤ g ∧ g < 60
    · exact noGo_at go0 g h0.1 h0.2
    by_cases h1 : 60 ≤ g ∧ g < 120
    · exact noGo_at go1 g h1.1 h1.2
    by_cases h2 : 120 ≤ g ∧ g < 180
    · exact noGo_at go2 g h2.1 h2.2
    by_cases h3 : 180 ≤ g ∧ g < 240
    · exact noGo_at go3 g h3.1 h3.2
    by_cases h4 : 240 ≤ g ∧ g < 300
    · exact noGo_at go4 g h4.1 h4.2
    by_cases h5 : 300 ≤ g ∧ g < 360
    · exact noGo_at go5 g h5.1 h5.2
    by_cases h6 : 360 ≤ g ∧ g < 420
    · exact noGo_at go6 g h6.1 h6.2
    by_cases h7 : 420 ≤ g ∧ g < 480
    · exact noGo_at go7 g h7.1 h7.2
    by_cases h8 : 480 ≤ g ∧ g < 540
    · exact noGo_at go8 g h8.1 h8.2
    by_cases h9 : 540 ≤ g ∧ g < 555
    · exact noGo_at go9 g h9.1 h9.2
    omega
  · exact none_at fsize h
theorem goesNot : false = Rows.engineNamesRow.goesBy Tryz.prog := goesBy_none noGoAt rfl
theorem looksIs : true = Tryz.prog.looks [] := by kernel_rfl
end Go.Proofs.YthapchfdablbeaaGreatDoor.engineNames
