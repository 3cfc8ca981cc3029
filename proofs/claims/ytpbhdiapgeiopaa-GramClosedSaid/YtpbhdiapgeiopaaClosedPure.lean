/-
  The pure side. No condition.
-/
import Derived.Test.YtpbhdiapgeiopaaGramPure
import Derived.Test.YtpbhdiapgeiopaaClosedTold
import Derived.IntWalk
set_option linter.unusedSimpArgs false
set_option linter.unusedVariables false
set_option linter.unusedSectionVars false
set_option linter.unnecessarySimpa false
namespace Go.Proofs.Ytpbhdiapgeiopaa.gramw
open Go Go.Proofs.Ytpbhdiapgeiopaa Ax
variable [Args]
theorem of_ok {n : Nat} {gT gN gK x : Int} (hn : 1000 ≤ n) (hc : m_gramCheck n gT gN gK = some 0) (g : Good gT gN gK) :
    ∃ l, m_gramOf n gT gN gK x = some l ∧ l.length ≤ 64 ∧ (∀ k ∈ l, 0 ≤ k ∧ k < (Args.G.length : Int) ∧ (Args.G.getD k.toNat (0, nl0)).1 = x) ∧ ∀ p ∈ Args.G, p.1 = x → ∃ k ∈ l, Args.G.getD k.toNat (0, nl0) = p := by
  have hG := g.g2
  obtain ⟨r, hr, hloop⟩ := hoare (B := B_gramOf_1 n x ((Args.G.length : Nat) : Int)) (σ := List Int) (fun s i => (s, i))
    (fun i s => s.length ≤ i ∧ (∀ k ∈ s, 0 ≤ k ∧ k < (Args.G.length : Int) ∧ (Args.G.getD k.toNat (0, nl0)).1 = x) ∧ ∀ j, j < i → (Args.G.getD j (0, nl0)).1 = x → (j : Int) ∈ s)
    (fun s => s.length ≤ Args.G.length ∧ (∀ k ∈ s, 0 ≤ k ∧ k < (Args.G.length : Int) ∧ (Args.G.getD k.toNat (0, nl0)).1 = x) ∧ ∀ j, j < Args.G.length → (Args.G.getD j (0, nl0)).1 = x → (j : Int) ∈ s) Args.G.length
    (fun i s hi hI => by
      obtain ⟨h1, h2, h3⟩ := hI
      have next : ∀ (ha : (Args.G.getD i (0, nl0)).1 = x), (s ++ [(i : Int)]).length ≤ i + 1 ∧ (∀ k ∈ s ++ [(i : Int)], 0 ≤ k ∧ k < (Args.G.length : Int) ∧ (Args.G.getD k.toNat (0, nl0)).1 = x) ∧ ∀ j, j < i + 1 → (Args.G.getD j (0, nl0)).1 = x → (j : Int) ∈ s ++ [(i : Int)] := fun ha => by
        refine ⟨by simp; exact h1, fun k hk => ?_, fun j hj hx => ?_⟩
        · rcases List.mem_append.1 hk with hk | hk
          · exact h2 k hk
          · obtain rfl := List.mem_singleton.1 hk
            exact ⟨by omega, by omega, by rw [Int.toNat_natCast]; exact ha⟩
        · rcases Nat.lt_or_ge j i with h | h
          · exact List.mem_append_left _ (h3 j h hx)
          · obtain rfl : j = i := by omega
            simp
      have stay : ∀ (ha : ¬ (Args.G.getD i (0, nl0)).1 = x), s.length ≤ i + 1 ∧ (∀ k ∈ s, 0 ≤ k ∧ k < (Args.G.length : Int) ∧ (Args.G.getD k.toNat (0, nl0)).1 = x) ∧ ∀ j, j < i + 1 → (Args.G.getD j (0, nl0)).1 = x → (j : Int) ∈ s := fun ha => by
        refine ⟨by omega, h2, fun j hj hx => ?_⟩
        rcases Nat.lt_or_ge j i with h | h
        · exact h3 j h hx
        · obtain rfl : j = i := by omega
          exact absurd hx ha
      unfold B_gramOf_1
      dsimp only
      cases s with
      | nil =>
        dsimp only
        rw [if_pos (by omega), if_pos (by omega), Int.toNat_natCast, w64_inc (by omega)]
        by_cases ha : (Args.G.getD i (0, nl0)).1 = x
        · rw [if_pos ha]; exact .inl ⟨[(i : Int)], next ha, rfl⟩
        · rw [if_neg ha]; exact .inl ⟨[], stay ha, rfl⟩
      | cons a t =>
        dsimp only
        rw [if_pos (by omega), if_pos (by omega), Int.toNat_natCast, w64_inc (by omega)]
        by_cases ha : (Args.G.getD i (0, nl0)).1 = x
        · rw [if_pos ha, if_pos (by omega)]; exact .inl ⟨_, next ha, rfl⟩
        · rw [if_neg ha]; exact .inl ⟨_, stay ha, rfl⟩)
    (fun s hI => by
      unfold B_gramOf_1
      dsimp only
      cases s with
      | nil => dsimp only; rw [if_neg (by omega)]; exact ⟨_, hI, rfl⟩
      | cons a t => dsimp only; rw [if_neg (by omega)]; exact ⟨_, hI, rfl⟩) n 0 [] (Nat.zero_le _) ⟨by simp, by simp, fun j hj => absurd hj (Nat.not_lt_zero _)⟩ (by omega)
  have hloop : m_gramOf_1 n x ((Args.G.length : Nat) : Int) (([] : List Int), 0) = some r := hloop
  refine ⟨r, ?_, by omega, hr.2.1, fun p hp hx => ?_⟩
  · unfold m_gramOf
    rw [hc]
    simp only [Option.bind_some]
    rw [if_pos trivial, hloop]
    simp only [Option.bind_some]
    cases r <;> rfl
  · obtain ⟨j, hj, rfl⟩ := mem_getD (0, nl0) hp
    exact ⟨_, hr.2.2 j hj hx, by rw [Int.toNat_natCast]⟩



theorem any_step {p : Bool} {q : Nat → Prop} {c : Prop} {k : Nat} (h : p = true ↔ ∃ j, j < k ∧ q j) (b : Bool) (hb : b = true ↔ q k) (hp : p = false) : b = true ↔ ∃ j, j < k + 1 ∧ q j := by
  rw [hb]
  constructor
  · exact fun hq => ⟨k, by omega, hq⟩
  · rintro ⟨j, hj, hq⟩
    rcases Nat.lt_or_ge j k with hl | hl
    · have := h.2 ⟨j, hl, hq⟩
      rw [hp] at this; cases this
    · obtain rfl : j = k := by omega
      exact hq
theorem any_keep {p : Bool} {q : Nat → Prop} {k : Nat} (h : p = true ↔ ∃ j, j < k ∧ q j) (hp : p = true) : p = true ↔ ∃ j, j < k + 1 ∧ q j := by
  obtain ⟨j, hj, hq⟩ := h.1 hp
  exact ⟨fun _ => ⟨j, by omega, hq⟩, fun _ => hp⟩
theorem closed3_ok {n : Nat} {gT gN gK : Int} {R Nl Pr : List Bool} {x : Int} {a b : Bool} {l : List Int} {k : Int} (hn : 1000 ≤ n) (g : Good gT gN gK) (hR : InvR gT gN R) (hC : ClosedR gT R) {p : Int × NL} (hp : p ∈ Args.G) (hx : p.1 = x) :
    m_viewportlaw11GramClosed_3 n gT gN gK Nl gN.toNat Pr R x a b l k p.2 0 = some () := by
  have hlf := g.left p hp
  have h8 := g.len p hp
  obtain ⟨r, hr, hloop⟩ := hoare (B := B_viewportlaw11GramClosed_3 n gT gN gK Nl gN.toNat Pr R x a b l k p.2) (σ := Unit) (fun _ i => i) (fun _ _ => True) (fun _ => True) p.2.l.length
    (fun i s hi _ => by
      have hm := getD_mem (d := (0 : Int)) hi
      have hs := g.sym p hp _ hm
      have hT1 := g.t1
      have hT2 := g.t2
      have hN := g.n1
      have hN2 := g.n2
      have hlen := hR.len
      unfold B_viewportlaw11GramClosed_3
      dsimp only
      rw [if_pos (by omega), if_pos (by omega), if_pos (by omega), w64_inc (by omega)]
      by_cases a1 : R.getD x.toNat false = true
      · rw [if_pos a1, if_pos (by omega), Int.toNat_natCast, if_pos hi]
        by_cases a2 : p.2.l.getD i 0 ≥ gT
        · rw [if_pos a2, w64_sm (by omega) (by omega), if_pos (by omega), if_pos (by omega), if_pos (hC p hp (by rw [hx]; exact a1) _ hm a2)]
          exact .inl ⟨(), trivial, rfl⟩
        · rw [if_neg a2]
          exact .inl ⟨(), trivial, rfl⟩
      · rw [if_neg a1]
        exact .inl ⟨(), trivial, rfl⟩)
    (fun s _ => by
      unfold B_viewportlaw11GramClosed_3
      dsimp only
      rw [if_neg (by omega)]
      exact ⟨_, trivial, rfl⟩) n 0 () (Nat.zero_le _) trivial (by omega)
  exact hloop
theorem closed2_ok {n : Nat} {gT gN gK : Int} {R Nl Pr : List Bool} {x : Int} {l : List Int} (hn : 1000 ≤ n) (g : Good gT gN gK) (hR : InvR gT gN R) (hC : ClosedR gT R) (hNl : Nl.length = gN.toNat) (hPr : Pr.length = gN.toNat) (hl : l.length ≤ 64)
    (h2 : ∀ k ∈ l, 0 ≤ k ∧ k < (Args.G.length : Int) ∧ (Args.G.getD k.toNat (0, nl0)).1 = x) :
    ∃ a b, m_viewportlaw11GramClosed_2 n gT gN gK Nl gN.toNat Pr R x (false, false, l, 0) = some (a, b) ∧ (a = true ↔ ∃ j, j < l.length ∧ allB gT false Nl (Args.G.getD (l.getD j 0).toNat (0, nl0)).2.l = true) ∧ (b = true ↔ ∃ j, j < l.length ∧ allB gT true Pr (Args.G.getD (l.getD j 0).toNat (0, nl0)).2.l = true) := by
  obtain ⟨r, hr, hloop⟩ := hoare (B := B_viewportlaw11GramClosed_2 n gT gN gK Nl gN.toNat Pr R x) (σ := Bool × Bool) (fun s i => (s.1, s.2, l, i))
    (fun i s => (s.1 = true ↔ ∃ j, j < i ∧ allB gT false Nl (Args.G.getD (l.getD j 0).toNat (0, nl0)).2.l = true) ∧ (s.2 = true ↔ ∃ j, j < i ∧ allB gT true Pr (Args.G.getD (l.getD j 0).toNat (0, nl0)).2.l = true))
    (fun s => (s.1 = true ↔ ∃ j, j < l.length ∧ allB gT false Nl (Args.G.getD (l.getD j 0).toNat (0, nl0)).2.l = true) ∧ (s.2 = true ↔ ∃ j, j < l.length ∧ allB gT true Pr (Args.G.getD (l.getD j 0).toNat (0, nl0)).2.l = true)) l.length
    (fun i s hi hI => by
      obtain ⟨a, b⟩ := s
      obtain ⟨h3, h4⟩ := hI
      dsimp only at h3 h4
      obtain ⟨k1, k2, k3⟩ := h2 _ (getD_mem (d := (0 : Int)) hi)
      have hm := getD_mem (l := Args.G) (i := (l.getD i 0).toNat) (d := ((0 : Int), nl0)) (by omega)
      unfold B_viewportlaw11GramClosed_2
      dsimp only
      cases l with
      | nil => exact absurd hi (Nat.not_lt_zero _)
      | cons z t =>
        dsimp only
        rw [if_pos (by omega), if_pos (by omega), Int.toNat_natCast, if_pos (by omega), w64_inc (by omega)]
        rw [holds_ok hn g hNl hm, holds_ok hn g hPr hm]
        simp only [closed3_ok hn g hR hC hm k3, Option.bind_some]
        cases a with
        | true =>
          rw [if_pos rfl]
          cases b with
          | true =>
            rw [if_pos rfl]
            exact .inl ⟨(true, true), ⟨any_keep h3 rfl, any_keep h4 rfl⟩, rfl⟩
          | false =>
            rw [if_neg (by simp)]
            exact .inl ⟨(true, _), ⟨any_keep h3 rfl, any_step (c := True) h4 _ Iff.rfl rfl⟩, rfl⟩
        | false =>
          rw [if_neg (by simp)]
          cases b with
          | true =>
            rw [if_pos rfl]
            exact .inl ⟨(_, true), ⟨any_step (c := True) h3 _ Iff.rfl rfl, any_keep h4 rfl⟩, rfl⟩
          | false =>
            rw [if_neg (by simp)]
            exact .inl ⟨(_, _), ⟨any_step (c := True) h3 _ Iff.rfl rfl, any_step (c := True) h4 _ Iff.rfl rfl⟩, rfl⟩)
    (fun s hI => by
      obtain ⟨a, b⟩ := s
      unfold B_viewportlaw11GramClosed_2
      dsimp only
      cases l with
      | nil => dsimp only; rw [if_neg (by simp)]; exact ⟨_, hI, rfl⟩
      | cons z t => dsimp only; rw [if_neg (by omega)]; exact ⟨_, hI, rfl⟩) n 0 (false, false) (Nat.zero_le _) ⟨by simp, by simp⟩ (by omega)
  exact ⟨r.1, r.2, hloop, hr⟩
theorem closed1_ok {n : Nat} {gT gN gK : Int} {R Nl Pr : List Bool} (hn : 1000 ≤ n) (hc : m_gramCheck n gT gN gK = some 0) (g : Good gT gN gK) (hR : InvR gT gN R) (hC : ClosedR gT R) (hNl : InvD gT gN false Nl) (hNc : ClosedD gT false Nl) (hPr : InvD gT gN true Pr) (hPc : ClosedD gT true Pr) :
    m_viewportlaw11GramClosed_1 n gT gN gK Nl gN.toNat Pr R 0 = some () := by
  have hN1 := g.n1
  have hN2 := g.n2
  obtain ⟨r, hr, hloop⟩ := hoare (B := B_viewportlaw11GramClosed_1 n gT gN gK Nl gN.toNat Pr R) (σ := Unit) (fun _ i => i) (fun _ _ => True) (fun _ => True) gN.toNat
    (fun i s hi _ => by
      have hlt : (i : Int) < gN := by omega
      have hlt2 : 0 ≤ (i : Int) ∧ (i : Int) < ((gN.toNat : Nat) : Int) := by omega
      have hlN : i < Nl.length := by rw [hNl.len]; exact hi
      have hlP : i < Pr.length := by rw [hPr.len]; exact hi
      have hw : w64 ((i : Int) + 1) = ((i + 1 : Nat) : Int) := w64_inc (by omega)
      obtain ⟨l, e1, e2, e3, e4⟩ := of_ok (x := (i : Int)) hn hc g
      obtain ⟨a, b, e5, e6, e7⟩ := closed2_ok hn g hR hC hNl.len hPr.len e2 e3
      have ha : a = true ↔ Nl.getD i false = true := by
        rw [e6]
        constructor
        · rintro ⟨j, hj, hq⟩
          obtain ⟨k1, k2, k3⟩ := e3 _ (getD_mem (d := (0 : Int)) hj)
          have := hNc _ (getD_mem (l := Args.G) (i := (l.getD j 0).toNat) (d := ((0 : Int), nl0)) (by omega)) hq
          rwa [k3, Int.toNat_natCast] at this
        · intro h
          obtain ⟨p, p1, p2, p3⟩ := hNl.by_ i h
          have := g.left p p1
          obtain ⟨k, k1, k2⟩ := e4 p p1 (by omega)
          obtain ⟨j, j1, j2⟩ := mem_getD 0 k1
          exact ⟨j, j1, by rw [j2, k2]; exact p3⟩
      have hb : b = true ↔ Pr.getD i false = true := by
        rw [e7]
        constructor
        · rintro ⟨j, hj, hq⟩
          obtain ⟨k1, k2, k3⟩ := e3 _ (getD_mem (d := (0 : Int)) hj)
          have := hPc _ (getD_mem (l := Args.G) (i := (l.getD j 0).toNat) (d := ((0 : Int), nl0)) (by omega)) hq
          rwa [k3, Int.toNat_natCast] at this
        · intro h
          obtain ⟨p, p1, p2, p3⟩ := hPr.by_ i h
          have := g.left p p1
          obtain ⟨k, k1, k2⟩ := e4 p p1 (by omega)
          obtain ⟨j, j1, j2⟩ := mem_getD 0 k1
          exact ⟨j, j1, by rw [j2, k2]; exact p3⟩
      have hnp : Nl.getD i false = true → Pr.getD i false = true := hNl.least Pr true (fun _ => rfl) hPc i
      have l1 := hNl.len
      have l2 := hPr.len
      have fin : ∀ {A : Option (Int ⊕ Unit)}, (A = if a = true then (if Nl.getD i false = true then (if b = true then (if Pr.getD i false = true then some (.inl ((i + 1 : Nat) : Int)) else none) else (if Pr.getD i false = true then none else none)) else none) else (if Nl.getD i false = true then none else (if b = true then (if Pr.getD i false = true then some (.inl ((i + 1 : Nat) : Int)) else none) else (if Pr.getD i false = true then none else some (.inl ((i + 1 : Nat) : Int)))))) → A = some (.inl ((i + 1 : Nat) : Int)) := by
        intro A hA
        rw [hA]
        by_cases q1 : Nl.getD i false = true
        · have q2 := hnp q1
          rw [if_pos (ha.2 q1), if_pos q1, if_pos (hb.2 q2), if_pos q2]
        · rw [if_neg (fun h => q1 (ha.1 h)), if_neg q1]
          by_cases q2 : Pr.getD i false = true
          · rw [if_pos (hb.2 q2), if_pos q2]
          · rw [if_neg (fun h => q2 (hb.1 h)), if_neg q2]
      refine .inl ⟨(), trivial, ?_⟩
      unfold B_viewportlaw11GramClosed_1
      dsimp only
      rw [if_pos hlt, e1]
      simp only [Option.bind_some]
      cases l with
      | nil =>
        dsimp only
        rw [e5]
        simp only [Option.bind_some]
        simp only [if_pos hlt2, Int.toNat_natCast, if_pos hlN, hw, if_pos hlP]
        exact fin rfl
      | cons z t =>
        dsimp only
        rw [e5]
        simp only [Option.bind_some]
        simp only [if_pos hlt2, Int.toNat_natCast, if_pos hlN, hw, if_pos hlP]
        exact fin rfl)
    (fun s _ => by
      unfold B_viewportlaw11GramClosed_1
      dsimp only
      rw [if_neg (by omega)]
      exact ⟨_, trivial, rfl⟩) n 0 () (Nat.zero_le _) trivial (by omega)
  exact hloop
theorem reduced_ok {n : Nat} {gT gN gK : Int} {R Pr : List Bool} (hn : 1000 ≤ n) (hc : m_gramCheck n gT gN gK = some 0) (g : Good gT gN gK) (hR : R.length = gN.toNat) (hP : Pr.length = gN.toNat) (e1 : m_gramProductive n gT gN gK = some Pr) (e2 : m_gramReachable n gT gN gK = some R) :
    ∃ bad ok, m_gramReduced n gT gN gK = some (bad, ok) ∧ ((ok = true ∧ bad = 0 ∧ ∀ j, j < gN.toNat → Pr.getD j false = true ∧ R.getD j false = true) ∨ (ok = false ∧ ∃ k : Nat, bad = k ∧ k < gN.toNat ∧ ¬ (Pr.getD k false = true ∧ R.getD k false = true) ∧ ∀ j, j < k → Pr.getD j false = true ∧ R.getD j false = true)) := by
  have hN1 := g.n1
  have hN2 := g.n2
  obtain ⟨r, hr, hloop⟩ := hoare (B := B_gramReduced_1 n Pr gN.toNat R gN) (σ := Unit) (fun _ i => i) (fun i _ => ∀ j, j < i → Pr.getD j false = true ∧ R.getD j false = true) (fun r => match r with | .inl b => ∃ k : Nat, b = k ∧ k < gN.toNat ∧ ¬ (Pr.getD k false = true ∧ R.getD k false = true) ∧ ∀ j, j < k → Pr.getD j false = true ∧ R.getD j false = true | .inr _ => ∀ j, j < gN.toNat → Pr.getD j false = true ∧ R.getD j false = true) gN.toNat
    (fun i s hi hI => by
      unfold B_gramReduced_1
      dsimp only
      rw [if_pos (by omega), if_pos (by omega), Int.toNat_natCast, if_pos (by omega), w64_inc (by omega)]
      by_cases a1 : Pr.getD i false = true
      · rw [if_pos a1, if_pos (by omega)]
        by_cases a2 : R.getD i false = true
        · rw [if_pos a2]
          refine .inl ⟨(), fun j hj => ?_, rfl⟩
          rcases Nat.lt_or_ge j i with h | h
          · exact hI j h
          · obtain rfl : j = i := by omega
            exact ⟨a1, a2⟩
        · rw [if_neg a2]
          exact .inr ⟨.inl (i : Int), ⟨i, rfl, hi, fun h => a2 h.2, hI⟩, rfl⟩
      · rw [if_neg a1]
        exact .inr ⟨.inl (i : Int), ⟨i, rfl, hi, fun h => a1 h.1, hI⟩, rfl⟩)
    (fun s hI => by
      unfold B_gramReduced_1
      dsimp only
      rw [if_neg (by omega)]
      exact ⟨.inr (), hI, rfl⟩) n 0 () (Nat.zero_le _) (fun j hj => absurd hj (Nat.not_lt_zero _)) (by omega)
  have hloop : m_gramReduced_1 n Pr gN.toNat R gN 0 = some r := hloop
  unfold m_gramReduced
  rw [hc]
  simp only [Option.bind_some]
  rw [if_pos trivial, e1]
  simp only [Option.bind_some]
  rw [e2]
  simp only [Option.bind_some]
  rw [hloop]
  rcases r with b | _
  · exact ⟨b, false, rfl, .inr ⟨rfl, hr⟩⟩
  · exact ⟨0, true, rfl, .inl ⟨rfl, rfl, hr⟩⟩
theorem closed_true (gT gN gK : Int) : ∃ n, m_viewportlaw11GramClosed n gT gN gK = some () := by
  refine ⟨1000, ?_⟩
  have hn : 1000 ≤ 1000 := Nat.le_refl _
  unfold m_viewportlaw11GramClosed m_viewportlaw11lives
  simp only [Option.bind_some]
  obtain ⟨b, e1, e2⟩ := light_ok (gT := gT) (gN := gN) (gK := gK) hn
  rw [e1]
  simp only [Option.bind_some]
  cases b with
  | false => rw [if_neg (by simp)]
  | true =>
    rw [if_pos rfl]
    obtain ⟨e, e3, e4⟩ := check_ok (gT := gT) (gN := gN) (gK := gK) hn (e2 rfl)
    rw [e3]
    simp only [Option.bind_some]
    by_cases he : e = 0
    case neg => rw [if_neg he]
    subst he
    rw [if_pos rfl]
    have g := e4 rfl
    have hN1 := g.n1
    have hN2 := g.n2
    obtain ⟨Nl, n1, n2, n3⟩ := Nullable_ok hn e3 g
    obtain ⟨Pr, p1, p2, p3⟩ := Productive_ok hn e3 g
    obtain ⟨R, r1, r2, r3⟩ := Reachable_ok hn e3 g
    obtain ⟨bad, ok, d1, d2⟩ := reduced_ok hn e3 g r2.len p2.len p1 r1
    have l1 := r2.len
    have l2 := p2.len
    rw [n1, p1, r1]
    simp only [Option.bind_some]
    rw [if_pos (by omega), if_pos (by omega), show ((0 : Int)).toNat = 0 from rfl, if_pos (by omega), if_pos r2.zero, closed1_ok hn e3 g r2 r3 n2 n3 p2 p3, d1]
    simp only [Option.bind_some]
    obtain ⟨r, hr, hloop⟩ := hoare (B := B_viewportlaw11GramClosed_4 1000 gT gN gK Pr gN.toNat R bad ok) (σ := Unit) (fun _ i => i) (fun i _ => ∀ j, j < i → Pr.getD j false = true ∧ R.getD j false = true) (fun r => match r with | .inl _ => True | .inr _ => ok = true ∧ bad = 0) gN.toNat
      (fun i s hi hI => by
        have stop : ¬ (Pr.getD i false = true ∧ R.getD i false = true) → ok = false ∧ bad = (i : Int) := fun h => by
          rcases d2 with ⟨_, _, d⟩ | ⟨d, k, q1, q2, q3, q4⟩
          · exact absurd (d i hi) h
          · refine ⟨d, ?_⟩
            rcases Nat.lt_trichotomy i k with h1 | h1 | h1
            · exact absurd (q4 i h1) h
            · rw [q1, h1]
            · exact absurd (hI k h1) q3
        unfold B_viewportlaw11GramClosed_4
        dsimp only
        rw [if_pos (by omega), if_pos (by omega), Int.toNat_natCast, if_pos (by omega), w64_inc (by omega)]
        by_cases a1 : Pr.getD i false = true
        · rw [if_pos a1, if_pos (by omega)]
          by_cases a2 : R.getD i false = true
          · rw [if_pos a2]
            refine .inl ⟨(), fun j hj => ?_, rfl⟩
            rcases Nat.lt_or_ge j i with h | h
            · exact hI j h
            · obtain rfl : j = i := by omega
              exact ⟨a1, a2⟩
          · obtain ⟨s1, s2⟩ := stop fun h => a2 h.2
            rw [if_neg a2, if_neg (by rw [s1]; simp), if_pos s2]
            exact .inr ⟨.inl (), trivial, rfl⟩
        · obtain ⟨s1, s2⟩ := stop fun h => a1 h.1
          rw [if_neg a1, if_neg (by rw [s1]; simp), if_pos s2]
          exact .inr ⟨.inl (), trivial, rfl⟩)
      (fun s hI => by
        unfold B_viewportlaw11GramClosed_4
        dsimp only
        rw [if_neg (by omega)]
        refine ⟨.inr (), ?_, rfl⟩
        rcases d2 with ⟨d, d', _⟩ | ⟨d, k, q1, q2, q3, q4⟩
        · exact ⟨d, d'⟩
        · exact absurd (hI k q2) q3) 1000 0 () (Nat.zero_le _) (fun j hj => absurd hj (Nat.not_lt_zero _)) (by omega)
    have hloop : m_viewportlaw11GramClosed_4 1000 gT gN gK Pr gN.toNat R bad ok 0 = some r := hloop
    rw [hloop]
    rcases r with _ | _
    · rfl
    · obtain ⟨s1, s2⟩ := hr
      dsimp only
      rw [if_pos s1, if_pos s2]

end Go.Proofs.Ytpbhdiapgeiopaa.gramw
