/-
  The pure side. No condition.
-/
import Derived.Test.YtpbhdiapgeiopaaGramPure
import Derived.Test.YtpbhdiapgeiopaaGroundedTold
import Derived.IntWalk
set_option linter.unusedSimpArgs false
set_option linter.unusedVariables false
set_option linter.unusedSectionVars false
set_option linter.unnecessarySimpa false
namespace Go.Proofs.Ytpbhdiapgeiopaa.gramw
open Go Go.Proofs.Ytpbhdiapgeiopaa Ax
variable [Args]



theorem set_same {L : List Bool} {k : Nat} {b : Bool} (hk : k < L.length) (h : L.getD k false = b) : L.set k b = L := by
  refine List.ext_getElem (by simp) fun i h1 h2 => ?_
  rw [List.getElem_set]
  split
  · rename_i e
    subst e
    rw [← h]; simp [List.getD_eq_getElem?_getD, hk]
  · rfl
/-! a step of each -/
def updD (T : Int) (tm : Bool) (L : List Bool) (p : Int × NL) : List Bool := L.set p.1.toNat (L.getD p.1.toNat false || allB T tm L p.2.l)
def AtD (T : Int) (tm : Bool) (L : List Bool) (p : Int × NL) : Prop := allB T tm L p.2.l = true → L.getD p.1.toNat false = true
structure GoD (T N : Int) (tm : Bool) (L : List Bool) (C : Prop) (M : List Bool) : Prop where
  inv : InvD T N tm M
  prog : (M = L ∧ C) ∨ M.count false < L.count false
  stay : ClosedD T tm L → M = L
theorem GoD.step {gT gN gK : Int} {tm : Bool} {L M : List Bool} {C : Prop} (g : Good gT gN gK) (h : GoD gT gN tm L C M) {p : Int × NL} (hp : p ∈ Args.G) : GoD gT gN tm L (C ∧ AtD gT tm L p) (updD gT tm M p) := by
  have hl := g.left p hp
  have hN := g.n1
  have hk : p.1.toNat < M.length := by rw [h.inv.len]; omega
  unfold updD
  by_cases a1 : M.getD p.1.toNat false = true
  · rw [a1, Bool.true_or, set_same hk a1]
    refine ⟨h.inv, ?_, h.stay⟩
    rcases h.prog with ⟨rfl, hc⟩ | hc
    · exact .inl ⟨rfl, hc, fun _ => a1⟩
    · exact .inr hc
  · rw [show M.getD p.1.toNat false = false by simpa using a1, Bool.false_or]
    by_cases a2 : allB gT tm M p.2.l = true
    · rw [a2]
      refine ⟨h.inv.set g hp a2, .inr ?_, fun hcl => ?_⟩
      · have hc := count_set_lt hk a1
        rcases h.prog with ⟨rfl, _⟩ | hc2
        · exact hc
        · exact Nat.lt_trans hc hc2
      · obtain rfl := h.stay hcl
        exact absurd (hcl p hp a2) a1
    · rw [show allB gT tm M p.2.l = false by simpa using a2, set_same hk (by simpa using a1)]
      refine ⟨h.inv, ?_, h.stay⟩
      rcases h.prog with ⟨rfl, hc⟩ | hc
      · exact .inl ⟨rfl, hc, fun h => absurd h a2⟩
      · exact .inr hc
structure GoR (T N : Int) (L : List Bool) (C : Prop) (K : Prop) (M : List Bool) : Prop where
  inv : InvR T N M
  prog : (M = L ∧ C) ∨ M.count false < L.count false
  stay : K → M = L
theorem gr3_ok {n : Nat} {gT gN gK : Int} {L Nl Pr : List Bool} {x k : Int} (hn : 1000 ≤ n) (g : Good gT gN gK) (hL : InvR gT gN L) {p : Int × NL} (hp : p ∈ Args.G) :
    ∃ M, m_viewportlaw11GramGrounded_3 n gT gN gK Nl gN.toNat Pr x k p.1 p.2 (L, 0) = some M ∧ GoR gT gN L (ClosedAt gT L p) (ClosedAt gT L p) M := by
  have h8 := g.len p hp
  have hlf := g.left p hp
  obtain ⟨M, hM, hloop⟩ := hoare (B := B_viewportlaw11GramGrounded_3 n gT gN gK Nl gN.toNat Pr x k p.1 p.2) (σ := List Bool) (fun s i => (s, i))
    (fun i s => GoR gT gN L (∀ j, j < i → L.getD p.1.toNat false = true → gT ≤ p.2.l.getD j 0 → L.getD (p.2.l.getD j 0 - gT).toNat false = true) (ClosedAt gT L p) s)
    (fun M => GoR gT gN L (ClosedAt gT L p) (ClosedAt gT L p) M) p.2.l.length
    (fun i s hi hI => by
      have hm := getD_mem (d := (0 : Int)) hi
      have hs := g.sym p hp _ hm
      have hT1 := g.t1
      have hT2 := g.t2
      have hN := g.n1
      have hN2 := g.n2
      have hlen := hI.inv.len
      unfold B_viewportlaw11GramGrounded_3
      dsimp only
      rw [if_pos (by omega), if_pos (by omega), if_pos (by omega), Int.toNat_natCast, w64_inc (by omega)]
      have keep : ∀ (hc : s.getD p.1.toNat false = true → gT ≤ p.2.l.getD i 0 → s.getD (p.2.l.getD i 0 - gT).toNat false = true), GoR gT gN L (∀ j, j < i + 1 → L.getD p.1.toNat false = true → gT ≤ p.2.l.getD j 0 → L.getD (p.2.l.getD j 0 - gT).toNat false = true) (ClosedAt gT L p) s := fun hc => by
        refine ⟨hI.inv, ?_, hI.stay⟩
        rcases hI.prog with ⟨rfl, h2⟩ | h2
        · refine .inl ⟨rfl, fun j hj => ?_⟩
          rcases Nat.lt_or_ge j i with h | h
          · exact h2 j h
          · obtain rfl : j = i := by omega
            exact hc
        · exact .inr h2
      by_cases a1 : s.getD p.1.toNat false = true
      · rw [if_pos a1, if_pos (by omega), if_pos hi]
        by_cases a2 : p.2.l.getD i 0 ≥ gT
        · rw [if_pos a2, w64_sm (by omega) (by omega), if_pos (by omega), if_pos (by omega)]
          by_cases a3 : s.getD (p.2.l.getD i 0 - gT).toNat false = true
          · rw [set_same (by omega) a3]
            exact .inl ⟨s, keep (fun _ _ => a3), rfl⟩
          · refine .inl ⟨_, ⟨hI.inv.set g hp a1 hm a2, .inr ?_, fun hcl => ?_⟩, rfl⟩
            · have hc := count_set_lt (L := s) (i := (p.2.l.getD i 0 - gT).toNat) (by omega) a3
              rcases hI.prog with ⟨rfl, _⟩ | h2
              · exact hc
              · exact Nat.lt_trans hc h2
            · obtain rfl := hI.stay hcl
              exact absurd (hcl a1 _ hm a2) a3
        · rw [if_neg a2]
          exact .inl ⟨s, keep (fun _ h => absurd h a2), rfl⟩
      · rw [if_neg a1]
        refine .inr ⟨s, ⟨hI.inv, ?_, hI.stay⟩, rfl⟩
        rcases hI.prog with ⟨rfl, _⟩ | h2
        · exact .inl ⟨rfl, fun h => absurd h a1⟩
        · exact .inr h2)
    (fun s hI => by
      unfold B_viewportlaw11GramGrounded_3
      dsimp only
      rw [if_neg (by omega)]
      refine ⟨s, ⟨hI.inv, ?_, hI.stay⟩, rfl⟩
      rcases hI.prog with ⟨q1, q2⟩ | h2
      · refine .inl ⟨q1, fun ha s hs => ?_⟩
        obtain ⟨j, hj, rfl⟩ := mem_getD 0 hs
        exact q2 j hj ha
      · exact .inr h2) n 0 L (Nat.zero_le _) ⟨hL, .inl ⟨rfl, fun j hj => absurd hj (Nat.not_lt_zero _)⟩, fun _ => rfl⟩ (by omega)
  exact ⟨M, hloop, hM⟩
theorem GoR.join {T N : Int} {L M M' : List Bool} {C C' K K' : Prop} (h : GoR T N L C K M) (h' : GoR T N M C' K' M') (hk : K → M = L → K') : GoR T N L (C ∧ (M = L → C')) K M' := by
  refine ⟨h'.inv, ?_, fun k => ?_⟩
  · rcases h.prog with ⟨rfl, hc⟩ | hc
    · rcases h'.prog with ⟨rfl, hc'⟩ | hc'
      · exact .inl ⟨rfl, hc, fun _ => hc'⟩
      · exact .inr hc'
    · rcases h'.prog with ⟨rfl, hc'⟩ | hc'
      · exact .inr hc
      · exact .inr (Nat.lt_trans hc' hc)
  · have e := h.stay k
    rw [← e]
    exact h'.stay (hk k e)
theorem GoD.weak {T N : Int} {tm : Bool} {L M : List Bool} {C C' : Prop} (h : GoD T N tm L C M) (hc : C → C') : GoD T N tm L C' M := ⟨h.inv, h.prog.imp (fun h => ⟨h.1, hc h.2⟩) id, h.stay⟩
theorem GoR.weak {T N : Int} {L M : List Bool} {C C' K : Prop} (h : GoR T N L C K M) (hc : M = L → C → C') : GoR T N L C' K M := ⟨h.inv, h.prog.imp (fun h => ⟨h.1, hc h.1 h.2⟩) id, h.stay⟩
theorem all_step {q : Nat → Prop} {i : Nat} (h : (∀ j, j < i → q j) ∧ q i) : ∀ j, j < i + 1 → q j := fun j hj => by
  rcases Nat.lt_or_ge j i with hl | hl
  · exact h.1 j hl
  · obtain rfl : j = i := by omega
    exact h.2
theorem gr2_ok {n : Nat} {gT gN gK : Int} {A P R : List Bool} {x : Int} (hn : 1000 ≤ n) (g : Good gT gN gK) (hA : InvD gT gN false A) (hP : InvD gT gN true P) (hR : InvR gT gN R) :
    ∃ A' P' R', m_viewportlaw11GramGrounded_2 n gT gN gK gN.toNat x (A, P, R, 0) = some (A', P', R') ∧ GoD gT gN false A (ClosedD gT false A) A' ∧ GoD gT gN true P (ClosedD gT true P) P' ∧ GoR gT gN R (ClosedR gT R) (ClosedR gT R) R' := by
  have hG := g.g2
  obtain ⟨r, hr, hloop⟩ := hoare (B := B_viewportlaw11GramGrounded_2 n gT gN gK gN.toNat x) (σ := List Bool × List Bool × List Bool) (fun s i => (s.1, s.2.1, s.2.2, i))
    (fun i s => GoD gT gN false A (∀ j, j < i → AtD gT false A (Args.G.getD j (0, nl0))) s.1 ∧ GoD gT gN true P (∀ j, j < i → AtD gT true P (Args.G.getD j (0, nl0))) s.2.1 ∧ GoR gT gN R (∀ j, j < i → ClosedAt gT R (Args.G.getD j (0, nl0))) (ClosedR gT R) s.2.2)
    (fun s => GoD gT gN false A (ClosedD gT false A) s.1 ∧ GoD gT gN true P (ClosedD gT true P) s.2.1 ∧ GoR gT gN R (ClosedR gT R) (ClosedR gT R) s.2.2) Args.G.length
    (fun i s hi hI => by
      obtain ⟨a, p, r⟩ := s
      obtain ⟨h1, h2, h3⟩ := hI
      dsimp only at h1 h2 h3
      have hm := getD_mem (d := ((0 : Int), nl0)) hi
      have hlf := g.left _ hm
      have hN := g.n1
      have q1 := (h1.step g hm).weak fun h => all_step h
      have q2 := (h2.step g hm).weak fun h => all_step h
      have hla := h1.inv.len
      have hlp := h2.inv.len
      have e1 := holds_ok (tm := false) hn g h1.inv.len hm
      have e2 := holds_ok (tm := true) hn g h2.inv.len hm
      have e3 : ∀ {Nl Pr : List Bool} {x k : Int}, ∃ M, m_viewportlaw11GramGrounded_3 n gT gN gK Nl gN.toNat Pr x k (Args.G.getD i (0, nl0)).1 (Args.G.getD i (0, nl0)).2 (r, 0) = some M ∧ GoR gT gN R (∀ j, j < i + 1 → ClosedAt gT R (Args.G.getD j (0, nl0))) (ClosedR gT R) M := fun {Nl Pr x k} => by
        obtain ⟨M, m1, m2⟩ := gr3_ok (Nl := Nl) (Pr := Pr) (x := x) (k := k) hn g h3.inv hm
        refine ⟨M, m1, (h3.join m2 (fun hk e => by rw [e]; exact hk _ hm)).weak fun e h => all_step ⟨h.1, ?_⟩⟩
        have e' : r = R := by
          rcases h3.prog with ⟨e', _⟩ | hc
          · exact e'
          · rcases m2.prog with ⟨e2, _⟩ | hc2
            · rw [← e2, e]
            · rw [e] at hc2; omega
        have := h.2 e'
        rwa [e'] at this
      generalize hq : Args.G.getD i (0, nl0) = q at *
      unfold B_viewportlaw11GramGrounded_2
      dsimp only
      rw [if_pos (by omega), if_pos (by omega), Int.toNat_natCast, hq, if_pos (by omega), if_pos (by omega), w64_inc (by omega)]
      have hlp2 : q.1.toNat < p.length := by omega
      simp only [if_pos hlp2]
      by_cases a1 : a.getD q.1.toNat false = true
      · have u1 : a.set q.1.toNat true = updD gT false a q := by unfold updD; rw [a1, Bool.true_or]
        rw [if_pos a1]
        by_cases a2 : p.getD q.1.toNat false = true
        · have u2 : p.set q.1.toNat true = updD gT true p q := by unfold updD; rw [a2, Bool.true_or]
          rw [if_pos a2]
          obtain ⟨M, m1, m2⟩ := @e3 (a.set q.1.toNat true) (p.set q.1.toNat true) x i
          rw [m1]
          simp only [Option.bind_some]
          exact .inl ⟨(a.set q.1.toNat true, p.set q.1.toNat true, M), ⟨by rw [u1]; exact q1, by rw [u2]; exact q2, m2⟩, rfl⟩
        · have u2 : p.set q.1.toNat (allB gT true p q.2.l) = updD gT true p q := by unfold updD; rw [show p.getD q.1.toNat false = false by simpa using a2, Bool.false_or]
          rw [if_neg a2, e2]
          simp only [Option.bind_some]
          obtain ⟨M, m1, m2⟩ := @e3 (a.set q.1.toNat true) (p.set q.1.toNat (allB gT true p q.2.l)) x i
          rw [m1]
          simp only [Option.bind_some]
          exact .inl ⟨(a.set q.1.toNat true, p.set q.1.toNat (allB gT true p q.2.l), M), ⟨by rw [u1]; exact q1, by rw [u2]; exact q2, m2⟩, rfl⟩
      · have u1 : a.set q.1.toNat (allB gT false a q.2.l) = updD gT false a q := by unfold updD; rw [show a.getD q.1.toNat false = false by simpa using a1, Bool.false_or]
        rw [if_neg a1, e1]
        simp only [Option.bind_some]
        by_cases a2 : p.getD q.1.toNat false = true
        · have u2 : p.set q.1.toNat true = updD gT true p q := by unfold updD; rw [a2, Bool.true_or]
          rw [if_pos a2]
          obtain ⟨M, m1, m2⟩ := @e3 (a.set q.1.toNat (allB gT false a q.2.l)) (p.set q.1.toNat true) x i
          rw [m1]
          simp only [Option.bind_some]
          exact .inl ⟨(a.set q.1.toNat (allB gT false a q.2.l), p.set q.1.toNat true, M), ⟨by rw [u1]; exact q1, by rw [u2]; exact q2, m2⟩, rfl⟩
        · have u2 : p.set q.1.toNat (allB gT true p q.2.l) = updD gT true p q := by unfold updD; rw [show p.getD q.1.toNat false = false by simpa using a2, Bool.false_or]
          rw [if_neg a2, e2]
          simp only [Option.bind_some]
          obtain ⟨M, m1, m2⟩ := @e3 (a.set q.1.toNat (allB gT false a q.2.l)) (p.set q.1.toNat (allB gT true p q.2.l)) x i
          rw [m1]
          simp only [Option.bind_some]
          exact .inl ⟨(a.set q.1.toNat (allB gT false a q.2.l), p.set q.1.toNat (allB gT true p q.2.l), M), ⟨by rw [u1]; exact q1, by rw [u2]; exact q2, m2⟩, rfl⟩)
    (fun s hI => by
      obtain ⟨a, p, r⟩ := s
      obtain ⟨h1, h2, h3⟩ := hI
      dsimp only at h1 h2 h3
      unfold B_viewportlaw11GramGrounded_2
      dsimp only
      rw [if_neg (by omega)]
      refine ⟨(a, p, r), ⟨h1.weak fun h p hp => ?_, h2.weak fun h p hp => ?_, h3.weak fun _ h p hp => ?_⟩, rfl⟩
      all_goals (obtain ⟨j, hj, rfl⟩ := mem_getD (0, nl0) hp; exact h j hj)) n 0 (A, P, R) (Nat.zero_le _) ⟨⟨hA, .inl ⟨rfl, fun j hj => absurd hj (Nat.not_lt_zero _)⟩, fun _ => rfl⟩, ⟨hP, .inl ⟨rfl, fun j hj => absurd hj (Nat.not_lt_zero _)⟩, fun _ => rfl⟩, ⟨hR, .inl ⟨rfl, fun j hj => absurd hj (Nat.not_lt_zero _)⟩, fun _ => rfl⟩⟩ (by omega)
  obtain ⟨A', P', R'⟩ := r
  exact ⟨A', P', R', hloop, hr⟩
theorem gr1_ok {n : Nat} {gT gN gK : Int} {A P R : List Bool} (hn : 1000 ≤ n) (g : Good gT gN gK) (hA : InvD gT gN false A) (hP : InvD gT gN true P) (hR : InvR gT gN R) :
    ∃ A' P' R', m_viewportlaw11GramGrounded_1 n gT gN gK gN.toNat (A, P, R, 0) = some (A', P', R') ∧ InvD gT gN false A' ∧ ClosedD gT false A' ∧ InvD gT gN true P' ∧ ClosedD gT true P' ∧ InvR gT gN R' ∧ ClosedR gT R' := by
  have hN := g.n1
  have hN2 := g.n2
  have cnt : ∀ {L : List Bool}, L.length = gN.toNat → L.count false ≤ gN.toNat := fun h => by rw [← h]; exact List.count_le_length
  obtain ⟨r, hr, hloop⟩ := hoare (B := B_viewportlaw11GramGrounded_1 n gT gN gK gN.toNat) (σ := List Bool × List Bool × List Bool) (fun s i => (s.1, s.2.1, s.2.2, i))
    (fun i s => (InvD gT gN false s.1 ∧ (ClosedD gT false s.1 ∨ s.1.count false + i ≤ gN.toNat)) ∧ (InvD gT gN true s.2.1 ∧ (ClosedD gT true s.2.1 ∨ s.2.1.count false + i ≤ gN.toNat)) ∧ (InvR gT gN s.2.2 ∧ (ClosedR gT s.2.2 ∨ s.2.2.count false + i ≤ gN.toNat)))
    (fun s => InvD gT gN false s.1 ∧ ClosedD gT false s.1 ∧ InvD gT gN true s.2.1 ∧ ClosedD gT true s.2.1 ∧ InvR gT gN s.2.2 ∧ ClosedR gT s.2.2) (gN.toNat + 1)
    (fun i s hi hI => by
      obtain ⟨a, p, r⟩ := s
      obtain ⟨⟨h1, c1⟩, ⟨h2, c2⟩, ⟨h3, c3⟩⟩ := hI
      dsimp only at h1 h2 h3 c1 c2 c3
      obtain ⟨A', P', R', e, q1, q2, q3⟩ := gr2_ok (x := (i : Int)) hn g h1 h2 h3
      unfold B_viewportlaw11GramGrounded_1
      dsimp only
      rw [if_pos (by omega), e, w64_inc (by omega)]
      simp only [Option.bind_some]
      refine .inl ⟨(A', P', R'), ⟨⟨q1.inv, ?_⟩, ⟨q2.inv, ?_⟩, ⟨q3.inv, ?_⟩⟩, rfl⟩
      · show ClosedD gT false A' ∨ A'.count false + (i + 1) ≤ gN.toNat
        rcases c1 with c | c
        · have e := q1.stay c; rw [e]; exact .inl c
        · rcases q1.prog with ⟨e, c'⟩ | c'
          · rw [e]; exact .inl c'
          · exact .inr (by omega)
      · show ClosedD gT true P' ∨ P'.count false + (i + 1) ≤ gN.toNat
        rcases c2 with c | c
        · have e := q2.stay c; rw [e]; exact .inl c
        · rcases q2.prog with ⟨e, c'⟩ | c'
          · rw [e]; exact .inl c'
          · exact .inr (by omega)
      · show ClosedR gT R' ∨ R'.count false + (i + 1) ≤ gN.toNat
        rcases c3 with c | c
        · have e := q3.stay c; rw [e]; exact .inl c
        · rcases q3.prog with ⟨e, c'⟩ | c'
          · rw [e]; exact .inl c'
          · exact .inr (by omega))
    (fun s hI => by
      obtain ⟨a, p, r⟩ := s
      obtain ⟨⟨h1, c1⟩, ⟨h2, c2⟩, ⟨h3, c3⟩⟩ := hI
      dsimp only at h1 h2 h3 c1 c2 c3
      unfold B_viewportlaw11GramGrounded_1
      dsimp only
      rw [if_neg (by omega)]
      exact ⟨(a, p, r), ⟨h1, c1.resolve_right (by omega), h2, c2.resolve_right (by omega), h3, c3.resolve_right (by omega)⟩, rfl⟩) n 0 (A, P, R) (Nat.zero_le _) ⟨⟨hA, .inr (cnt hA.len)⟩, ⟨hP, .inr (cnt hP.len)⟩, ⟨hR, .inr (cnt hR.len)⟩⟩ (by omega)
  obtain ⟨A', P', R'⟩ := r
  exact ⟨A', P', R', hloop, hr⟩
theorem same_ok {n k : Nat} {L K : List Bool} (hn : 1000 ≤ n) (hk : k ≤ 100) (hL : L.length = k) (hK : K.length = k) (h : ∀ i, L.getD i false = true ↔ K.getD i false = true) : m_viewportkitSamebool n k k L K = some true := by
  have hloop : m_viewportkitSamebool_1 n L K k k 0 = some (if (List.range k).all (fun _ => true) = true then .inr () else .inl ()) :=
    scan (B := B_viewportkitSamebool_1 n L K k k) k (fun _ => true) () () (fun i hi => by
      unfold B_viewportkitSamebool_1
      dsimp only
      rw [if_pos (by omega), if_pos (by omega), Int.toNat_natCast, if_pos (by omega), if_pos (by omega), if_pos (by omega), w64_inc (by omega)]
      by_cases a : L.getD i false = true
      · rw [if_pos a, if_pos ((h i).1 a)]; rfl
      · rw [if_neg a, if_neg (fun q => a ((h i).2 q))]; rfl) (by
      unfold B_viewportkitSamebool_1
      dsimp only
      rw [if_neg (by omega)]) n (by omega)
  unfold m_viewportkitSamebool
  rw [if_pos rfl, hloop, if_pos (by simp)]
theorem grounded_true (gT gN gK : Int) : ∃ n, m_viewportlaw11GramGrounded n gT gN gK = some true := by
  refine ⟨1000, ?_⟩
  have hn : 1000 ≤ 1000 := Nat.le_refl _
  unfold m_viewportlaw11GramGrounded m_viewportlaw11lives
  simp only [Option.bind_some]
  obtain ⟨b, e1, e2⟩ := light_ok (gT := gT) (gN := gN) (gK := gK) hn
  rw [e1]
  simp only [Option.bind_some]
  cases b with
  | false => rw [if_neg (by simp)]
  | true =>
    rw [if_pos rfl]
    obtain ⟨e, e3, e4⟩ := check_ok (gT := gT) (gN := gN) (gK := gK) hn (e2 rfl)
    rw [e3]
    simp only [Option.bind_some]
    by_cases he : e = 0
    case neg => rw [if_neg he]
    subst he
    rw [if_pos rfl]
    have g := e4 rfl
    have hN1 := g.n1
    have hN2 := g.n2
    obtain ⟨Nl, n1, n2, n3⟩ := Nullable_ok hn e3 g
    obtain ⟨Pr, p1, p2, p3⟩ := Productive_ok hn e3 g
    obtain ⟨R, r1, r2, r3⟩ := Reachable_ok hn e3 g
    have hI : InvR gT gN ((List.replicate gN.toNat false).set 0 true) := reach_start g
    obtain ⟨A', P', R', g1, a1, a2, b1, b2, c1, c2⟩ := gr1_ok hn g (InvD.start (T := gT) (N := gN) (tm := false)) (InvD.start (T := gT) (N := gN) (tm := true)) hI
    rw [if_pos (by omega), if_pos (by omega), if_pos (by omega), if_pos (by simp; omega), show ((0 : Int)).toNat = 0 from rfl, g1]
    simp only [Option.bind_some]
    rw [n1]
    simp only [Option.bind_some]
    rw [same_ok hn (by omega) n2.len a1.len fun i => ⟨n2.least A' false id a2 i, a1.least Nl false id n3 i⟩]
    simp only [Option.bind_some]
    rw [if_pos trivial, p1]
    simp only [Option.bind_some]
    rw [same_ok hn (by omega) p2.len b1.len fun i => ⟨p2.least P' true id b2 i, b1.least Pr true id p3 i⟩]
    simp only [Option.bind_some]
    rw [if_pos trivial, r1]
    simp only [Option.bind_some]
    rw [same_ok hn (by omega) r2.len c1.len fun i => ⟨r2.least R' c1.zero c2 i, c1.least R r2.zero r3 i⟩]
    rfl

end Go.Proofs.Ytpbhdiapgeiopaa.gramw
