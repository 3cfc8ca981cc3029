/-
  A region that draws its order: the proof. Own work, plain lemmas.
-/
import Derived.Test.YthomkiindjhdmaaAxV
set_option linter.unusedSimpArgs false
set_option linter.unusedVariables false
set_option linter.unnecessarySimpa false
set_option linter.deprecated false
set_option linter.unusedSectionVars false
namespace Go.Proofs.Ythomkiindjhdmaa.Ax
open Go.RowKit
variable [Tabs]

theorem looks_operand {ops : Array Oper} {o : Oper} {t : Nat} (h : Operand.tmp t ∈ o.op.operands) : t ∈ o.looksAt ops :=
  List.mem_append_left _ (List.mem_filterMap.2 ⟨.tmp t, by simpa using h, rfl⟩)
theorem looks_guard {ops : List Oper} {o : Oper} {g : Nat} {b : Bool} (hg : o.guard = some (g, b)) {d : Nat} (hd : dstOf ops g = some d) : d ∈ o.looksAt ⟨ops⟩ := by
  refine List.mem_append_right _ ?_
  have : ((⟨ops⟩ : Array Oper)[g]?).bind (·.dst) = some d := by simpa [dstOf] using hd
  rw [hg]
  simp only [this]
  simp
theorem guardOk_congr {ops : List Oper} {o : Oper} {T T' : Tr Value} (h : ∀ t ∈ o.looksAt ⟨ops⟩, tget T t = tget T' t) : guardOk ops o T = guardOk ops o T' := by
  unfold guardOk
  cases hg : o.guard with
  | none => rfl
  | some g =>
    obtain ⟨j, b⟩ := g
    simp only [oc_some]
    cases hd : dstOf ops j with
    | none => rfl
    | some d =>
      simp only [oc_some]
      rw [h d (looks_guard hg hd)]
theorem wantedA_congr {ops : List Oper} {o : Oper} {T T' : Tr Value} (h : ∀ t ∈ o.looksAt ⟨ops⟩, tget T t = tget T' t) : wantedA ops o T = wantedA ops o T' := by
  unfold wantedA
  cases hg : o.guard with
  | none => rfl
  | some g =>
    obtain ⟨j, b⟩ := g
    simp only [oc_some]
    cases hd : dstOf ops j with
    | none => rfl
    | some d =>
      simp only [oc_some]
      rw [h d (looks_guard hg hd)]

/-- the numbers that are kept for what has not come -/
def Kept (X : Nat → Prop) (base wd : Nat) (S : Nat → Bool) (b : Nat) : Prop := X b ∨ ∃ f, f < wd ∧ S f = false ∧ b = base + f
theorem Kept.less {X : Nat → Prop} {base wd j : Nat} {S : Nat → Bool} {b : Nat} (h : Kept X base wd (withJ S j) b) : Kept X base wd S b := by
  rcases h with h | ⟨f, h1, h2, h3⟩
  · exact .inl h
  · refine .inr ⟨f, h1, ?_, h3⟩
    unfold withJ at h2
    by_cases e : f = j
    · rw [if_pos e] at h2; cases h2
    · rwa [if_neg e] at h2
structure Inv (P : Program) (n : Base) (X : Nat → Prop) (N base : Nat) (ops : List Oper) (p : Plan) (v : Nat → Value) (G : Nat → AH) (B : Nat → Option ABlk) (R : Nat → List Nat) (T0 : Tr Value) (σ0 : Ren) (w0 : World) (D : List Deferred) (S : Nat → Bool) (σ : Ren) (c lo : Nat) (a : Act) (w : World) : Prop where
  tmps : TR σ N (TS ops v T0 S ops.length) a.tmps
  heap : ∀ k, lo ≤ k → k ≤ c → HR ⟨n, Kept X base p.wd S⟩ σ (wideB (G k)) w
  cur : HR ⟨n, Kept X base p.wd S⟩ σ (G c) w
  step : Step ⟨n, X⟩ σ0 w0 (G c).low σ w
  defs : a.defers = D
  pre : ∀ i, i < ops.length → chgAt ops i = true → (S i = true ↔ p.n i < c)
  loc : lo ≤ c
  lov : ∀ j o, ops[j]? = some o → S j = false → isMem P o.op = true → wantedA ops o (Tseq ops v T0 j) = true → lo ≤ p.c j ∨ HR ⟨n, Kept X base p.wd S⟩ σ (oneB (R j) (addFs B base (p.f j) (G (p.c j)))) w
  whole : ∀ f x, f < ops.length → S f = true → B f = some x → ¬ Seen p ops f lo → Whole n σ w (base + f) x
  closed : ∀ j o, S j = true → ops[j]? = some o → ∀ e ∈ o.after.toList, Region.binds .any e = true → S e.on = true
  cn : c ≤ p.n ops.length
  nx : (G c).next ≤ big

/-- one more has come -/
theorem Inv.next_ok {P : Program} {F : Fence} {nn : Nat} {n : Base} {X : Nat → Prop} {N base : Nat} {call : Nat → CallT} (hcall : ∀ j, CallOK P n.n (call j)) (hF : WideF F) {ops : List Oper} {p : Plan} {v : Nat → Value} {G : Nat → AH} {B : Nat → Option ABlk} {R : Nat → List Nat} {T0 : Tr Value} {σ0 : Ren} {w0 : World} {D : List Deferred} {S : Nat → Bool} {σ : Ren} {c lo : Nat} {a : Act} {w : World}
    (hrow : ∀ j, j < ops.length → ∃ o, ops[j]? = some o ∧ Row p ops j o) (h0 : p.n 0 = 0) (hall : opersOk N ops = true) (hfacts : ∀ j o, ops[j]? = some o → Fact P call ops p base v G B R T0 j o) (inv : Inv P n X N base ops p v G B R T0 σ0 w0 D S σ c lo a w)
    (hXb : ∀ b, X b → b < base) {j : Nat} (hj : j < ops.length) {o : Oper} (ho : ops[j]? = some o) (hS : S j = false) (hed : ∀ e ∈ o.after.toList, Region.binds .any e = true → S e.on = true)
    {K : Act → World → Prop} {Q : Exit → Act → World → Prop} (hK : ∀ a' w' σ' c' lo', Inv P n X N base ops p v G B R T0 σ0 w0 D (withJ S j) σ' c' lo' a' w' → K a' w') :
    guardOk ops o (TS ops v T0 S ops.length) = true ∧ if wantedA ops o (TS ops v T0 S ops.length) = true then o.wpIn F nn P a w K Q else K (a.put o.dst undef) w := by
  have fact := hfacts j o ho
  obtain ⟨o', ho', row⟩ := hrow j hj
  rw [ho] at ho'
  obtain rfl := Option.some.inj ho'
  have hok := opersOk_mem hall o (List.mem_of_getElem? ho)
  simp only [operOk, Bool.and_eq_true] at hok
  have hdst : dstOf ops j = o.dst := by simp [dstOf, ho]
  have hco : chgAt ops j = isChg o.op := by simp [chgAt, ho]
  have hbef : ∀ i, p.before i j = true → S i = true := before_listed hrow inv.closed j hj (fun o' ho' => by rw [ho] at ho'; obtain rfl := Option.some.inj ho'; exact hed)
  -- whoever is behind j has not come
  have hbeh : ∀ i, i < ops.length → p.before j i = true → S i = false := fun i hi hb => by
    cases hs : S i with
    | false => rfl
    | true =>
      have := before_listed hrow inv.closed i hi (fun o' ho' => inv.closed i o' hs ho') j hb
      rw [hS] at this; cases this
  have hpair : ∀ i, i < ops.length → i ≠ j → (∃ oi, ops[i]? = some oi ∧ ((i < j ∧ (S i = true ∨ Oper.apart ⟨ops⟩ oi o = true)) ∨ (j < i ∧ (S i = false ∨ Oper.apart ⟨ops⟩ o oi = true)))) := by
    intro i hi hij
    obtain ⟨oi, hoi, ri⟩ := hrow i hi
    refine ⟨oi, hoi, ?_⟩
    rcases Nat.lt_or_ge i j with h | h
    · refine .inl ⟨h, ?_⟩
      rcases (row.pair i h).1 with hb | hap
      · exact .inl (hbef i hb)
      · refine .inr ?_
        simpa [apartAt, hoi, ho] using hap
    · have hlt : j < i := by omega
      refine .inr ⟨hlt, ?_⟩
      rcases (ri.pair j hlt).1 with hb | hap
      · exact .inl (hbeh i hi hb)
      · refine .inr ?_
        simpa [apartAt, hoi, ho] using hap
  have hlook : ∀ t ∈ o.looksAt ⟨ops⟩, tget (TS ops v T0 S ops.length) t = tget (Tseq ops v T0 j) t := by
    intro t ht
    refine TS_agree (Nat.le_of_lt hj) fun i hi hd => ?_
    by_cases hij : i = j
    · subst hij; rw [hS]; exact ⟨fun h => (by cases h), fun h => absurd h (Nat.lt_irrefl _)⟩
    · obtain ⟨oi, hoi, hcase⟩ := hpair i hi hij
      have hdi : oi.dst = some t := by simpa [dstOf, hoi] using hd
      rcases hcase with ⟨h1, h2⟩ | ⟨h1, h2⟩
      · rcases h2 with h2 | h2
        · exact ⟨fun _ => h1, fun _ => h2⟩
        · exact absurd ht ((Oper.apart_spec h2).1 t hdi)
      · rcases h2 with h2 | h2
        · rw [h2]; exact ⟨fun h => (by cases h), fun h => (by omega)⟩
        · exact absurd ht ((Oper.apart_spec h2).2.2 t hdi)
  have hwant := wantedA_congr hlook
  refine ⟨(guardOk_congr hlook).trans fact.gok, ?_⟩
  have hev : ∀ H, evalOp P (call j) o.op o.type (TS ops v T0 S ops.length) H = evalOp P (call j) o.op o.type (Tseq ops v T0 j) H := fun H =>
    evalOp_congr fun x hx => ev_congr fun t e => hlook t (looks_operand (e ▸ hx))
  -- the temporaries behind
  have htm : ∀ {σ' : Ren} {v' : Value}, σ.Ext σ' → VR σ' (v j) v' → TR σ' N (TS ops v T0 (withJ S j) ops.length) (a.put o.dst v').tmps := fun hx hv => by
    refine TR.congr (putO_ok (inv.tmps.mono hx) hok.2 hv) fun t => ?_
    rw [TS_next hj fun i h1 h2 h3 h4 => ?_, hdst]
    obtain ⟨oi, hoi, hcase⟩ := hpair i h2 (by omega)
    rcases hcase with ⟨h, _⟩ | ⟨_, h⟩
    · omega
    · rcases h with h | h
      · exact h
      · have hdi : oi.dst = some t := by simpa [dstOf, hoi] using h3
        exact absurd hdi ((Oper.apart_spec h).2.1 t (by rw [← hdst]; exact h4))
  have hcl : ∀ j' o', withJ S j j' = true → ops[j']? = some o' → ∀ e ∈ o'.after.toList, Region.binds .any e = true → withJ S j e.on = true := by
    intro j' o' hs ho' e he hb
    unfold withJ at hs ⊢
    by_cases e1 : e.on = j
    · rw [if_pos e1]
    · rw [if_neg e1]
      by_cases e2 : j' = j
      · subst e2
        rw [ho] at ho'
        obtain rfl := Option.some.inj ho'
        exact hed e he hb
      · rw [if_neg e2] at hs
        exact inv.closed j' o' hs ho' e he hb
  have hX : ∀ b, Kept X base p.wd (withJ S j) b → Kept X base p.wd S b := fun b h => h.less
  have hSj : ∀ i, withJ S j i = false → i ≠ j ∧ S i = false := fun i h => by
    unfold withJ at h
    by_cases e : i = j
    · rw [if_pos e] at h; cases h
    · rw [if_neg e] at h; exact ⟨e, h⟩
  have hlov : ∀ j' o', ops[j']? = some o' → withJ S j j' = false → isMem P o'.op = true → wantedA ops o' (Tseq ops v T0 j') = true → lo ≤ p.c j' ∨ HR ⟨n, Kept X base p.wd (withJ S j)⟩ σ (oneB (R j') (addFs B base (p.f j') (G (p.c j')))) w := fun j' o' h1 h2 h3 hw3 =>
    (inv.lov j' o' h1 (hSj j' h2).2 h3 hw3).imp id fun h => h.setX hX
  have hcc : p.c j ≤ c := by
    rcases Nat.lt_or_ge c (p.c j) with h | h
    · obtain ⟨i, h1, h2, h3⟩ := n_hit hrow h0 (j := j) (Nat.le_of_lt hj) (c := c) (Nat.lt_of_lt_of_le h row.le)
      have := hbef i (((row.pair i h1).2 h2).2 (by omega))
      have := (inv.pre i (by omega) h2).1 this
      omega
    · exact h
  -- what is new to j stands whole
  have hnew : lo ≤ p.c j → ∀ f ∈ p.f j, ∀ x, B f = some x → Whole n σ w (base + f) x := fun hl f hf x hx => by
    obtain ⟨h1, h2, h3⟩ := row.news f hf
    refine inv.whole f x (by omega) (hbef f h2) hx fun hs => h3 ?_
    obtain ⟨i, g1, g2, g3, g4⟩ := hs
    exact ⟨i, g1, g2, Nat.lt_of_lt_of_le g3 hl, g4⟩
  -- an operation that leaves memory
  have stay : isChg o.op = false → B j = none → ∀ {v' : Value}, VR σ (v j) v' → Inv P n X N base ops p v G B R T0 σ0 w0 D (withJ S j) σ c lo (a.put o.dst v') w := fun hc hb v' hv =>
    ⟨htm (.refl σ) hv, fun k h1 h2 => (inv.heap k h1 h2).setX hX, inv.cur.setX hX, inv.step, by rw [Act.put_defers']; exact inv.defs, fun i hi hci => by
      have hij : i ≠ j := fun e => by subst e; rw [hco, hc] at hci; cases hci
      unfold withJ; rw [if_neg hij]; exact inv.pre i hi hci, inv.loc, hlov, fun f x hf hs hx hseen => by
      by_cases e : f = j
      · rw [e, hb] at hx; cases hx
      · unfold withJ at hs
        rw [if_neg e] at hs
        exact inv.whole f x hf hs hx hseen, hcl, inv.cn, inv.nx⟩
  -- an operation that makes memory stands at its own heap
  have hcn : isChg o.op = true → c = p.n j := fun hc => by
    have h1 : c ≤ p.n j := by
      rcases Nat.lt_or_ge (p.n j) c with h | h
      · have := (inv.pre j hj (by rw [hco]; exact hc)).2 h
        rw [hS] at this; cases this
      · exact h
    have h2 := row.full hc
    omega
  have hpre : isChg o.op = true → ∀ i, i < ops.length → chgAt ops i = true → (withJ S j i = true ↔ p.n i < c + 1) := fun hc i hi hci => by
    have hcj := hcn hc
    unfold withJ
    by_cases e : i = j
    · subst e; rw [if_pos rfl]; exact ⟨fun _ => by omega, fun _ => rfl⟩
    · rw [if_neg e, inv.pre i hi hci]
      have hne : p.n i ≠ c := by
        rcases Nat.lt_or_ge i j with h | h
        · have := n_lt hrow h (Nat.le_of_lt hj) hci; omega
        · have := n_lt hrow (i := j) (j := i) (by omega) (Nat.le_of_lt hi) (by rw [hco]; exact hc); omega
      omega
  have hcn1 : isChg o.op = true → c + 1 ≤ p.n ops.length := fun hc => by
    have := n_lt hrow hj (Nat.le_refl _) (by rw [hco]; exact hc)
    have := hcn hc
    omega
  by_cases hw : wantedA ops o (TS ops v T0 S ops.length) = true
  · rw [if_pos hw]
    rw [hwant] at hw
    cases hfl : isFlt o.op with
    | true =>
      obtain ⟨r, h1, h2, h3⟩ := fact.flt hw hfl
      have hc : isChg o.op = false := by
        cases e : isChg o.op with
        | false => rfl
        | true => rw [chg_not_flt e] at hfl; cases hfl
      rw [← fltOp_congr (P := P) (X := base + j) fun x hx => ev_congr fun t e => hlook t (looks_operand (e ▸ hx))] at h1
      have hkept : Kept X base p.wd S (base + j) := .inr ⟨j, row.wide hfl, hS, rfl⟩
      have hne : ∀ b, Kept X base p.wd (withJ S j) b → Kept X base p.wd S b ∧ b ≠ base + j := fun b h => by
        refine ⟨hX b h, fun e => ?_⟩
        rcases h with h | ⟨f, h1, h2, h3⟩
        · have := hXb b h; omega
        · have : f = j := by omega
          rw [this] at h2
          simp [withJ] at h2
      obtain ⟨hd, x', m, v', r2, r3, hbr⟩ := flt_ok (w := w) inv.tmps hok.1 (inv.cur.hol _ hkept).2 h1
      have hext := ext_kept (inv.cur.hol _ hkept).2 (w.heap.size, 0, m)
      refine ⟨fun f _ => hF.fn f, ?_⟩
      rw [Oper.semAt_eq F.round a.eval o hd, r2]
      refine hK _ _ (σ.put (base + j) (w.heap.size, 0, m)) c lo ⟨htm hext (by rw [h2]; exact r3), fun k g1 g2 => (inv.heap k g1 g2).kept hkept _ _ hne, inv.cur.kept hkept _ _ hne,
        inv.step.trans (Step.kept inv.cur hkept _ _ _) (Nat.le_refl _), by rw [Act.put_defers']; exact inv.defs, fun i hi hci => ?_, inv.loc, fun j' o' g1 g2 g3 g4 => ?_, fun f x hf hs hx hseen => ?_, hcl, inv.cn, inv.nx⟩
      · have hij : i ≠ j := fun e => by subst e; rw [hco, hc] at hci; cases hci
        unfold withJ; rw [if_neg hij]; exact inv.pre i hi hci
      · exact (inv.lov j' o' g1 (hSj j' g2).2 g3 g4).imp id fun h => h.kept hkept _ _ hne
      · by_cases e : f = j
        · subst e
          rw [h3] at hx
          obtain rfl := Option.some.inj hx
          exact Whole.new inv.cur _ _ hbr
        · unfold withJ at hs
          rw [if_neg e] at hs
          exact (inv.whole f x hf hs hx hseen).kept inv.cur hkept _ _
    | false =>
    have hnb := fact.nofb hfl
    cases hc : isChg o.op with
    | false =>
      cases hm : isMem P o.op with
      | false =>
        obtain ⟨H0, H1, h1⟩ := fact.pur hw hfl hc hm
        rw [← hev] at h1
        obtain ⟨_, hd, v', r1, r2⟩ := still_ok (P := P) inv.tmps inv.cur hok.1 hc hfl (pure_any hc hfl hm h1 (G c))
        refine ⟨fun f _ => hF.fn f, ?_⟩
        rw [Oper.semAt_eq F.round a.eval o hd, r1]
        exact hK _ _ σ c lo (stay hc hnb r2)
      | true =>
        obtain ⟨⟨H1, h1⟩, _⟩ := fact.mem hw hfl hc hm
        rw [← hev] at h1
        have hone : HR ⟨n, Kept X base p.wd S⟩ σ (oneB (R j) (addFs B base (p.f j) (G (p.c j)))) w := by
          rcases inv.lov j o ho hS hm hw with hl | h
          · exact (((inv.heap (p.c j) hl hcc).addFs (hnew hl)).small (Nat.le_refl _) (R j)).congr (fun _ => rfl) rfl
          · exact h
        obtain ⟨_, hd, v', r1, r2⟩ := still_ok (P := P) inv.tmps hone hok.1 hc hfl h1
        refine ⟨fun f _ => hF.fn f, ?_⟩
        rw [Oper.semAt_eq F.round a.eval o hd, r1]
        exact hK _ _ σ c lo (stay hc hnb r2)
    | true =>
      obtain ⟨H1, h1, h2, h3, h4⟩ := fact.chg hw hc
      have hcj := hcn hc
      have hl : lo ≤ p.c j := by rw [row.full hc, ← hcj]; exact inv.loc
      rw [← hcj] at h1 h2 h4
      rw [← hev] at h1
      have hcur0 := (inv.cur.addFs (hnew hl)).fresh'
      rcases (show ((G c).next ≤ H1.low ∨ barrier P p ops base j (addFs B base (p.f j) (G c)) = true) ∨ _ from (by
        rcases h4 with h | h | h
        · exact .inl (.inl h)
        · exact .inl (.inr h)
        · exact .inr h)) with h4 | h4
      case inr =>
        obtain ⟨bb, e1, eR, eh, e3⟩ := h4
        have e1' : exB o.op (TS ops v T0 S ops.length) = some bb := by
          rw [← e1]
          exact exB_congr fun x hx => ev_congr fun t' e => hlook t' (looks_operand (e ▸ hx))
        obtain ⟨hd, k, d, m, w', v', σ', g1, ⟨z, g2⟩, r1, r2, g3, g4, g5, g6⟩ := exactOp_ok (P := P) inv.tmps hcur0 hok.1 e1' eh h1
        have hsz := g4.below.size
        have hcur : HR ⟨n, Kept X base p.wd (withJ S j)⟩ σ' (G (c + 1)) w' := by rw [h2]; exact (g3.back _).setX hX
        have hnx : (G (c + 1)).next ≤ big := by rw [h2]; exact h3
        have hst : Step ⟨n, X⟩ σ0 w0 (G (c + 1)).low σ' w' := by
          rw [h2]
          exact (inv.step.lower (Nat.min_le_left _ _)).trans (g4.setX.lower (Nat.min_le_right _ _)) (Nat.le_refl _)
        have hall' : ∀ i, i < ops.length → pairSt P p ops base R j bb (addFs B base (p.f j) (G c)) i = true := fun i hi => List.all_eq_true.1 e3 i (by simpa using hi)
        have hdb : ∀ b t, σ' b = some t → b < big := fun b t h => Nat.lt_of_lt_of_le (g3.dom b t h) h3
        -- what is looked at elsewhere is as it was
        have keepR : ∀ i oi, ops[i]? = some oi → S i = false → isMem P oi.op = true → wantedA ops oi (Tseq ops v T0 i) = true → p.c i ≤ c → (∀ b' ∈ R i, b' ≠ bb ∧ hasB (addFs B base (p.f j) (G c)) b' = true) → (∀ f ∈ p.f i, p.before f j = true) →
            HR ⟨n, Kept X base p.wd (withJ S j)⟩ σ' (oneB (R i) (addFs B base (p.f i) (G (p.c i)))) w' := by
          intro i oi hoi hSi hrel hwi hci hrd hff
          have h5 : i < ops.length := by
            rcases Nat.lt_or_ge i ops.length with h | h
            · exact h
            · rw [List.getElem?_eq_none h] at hoi; cases hoi
          obtain ⟨oi', hoi', ri⟩ := hrow i h5
          have hone : HR ⟨n, Kept X base p.wd S⟩ σ (oneB (R i) (addFs B base (p.f i) (G (p.c i)))) w := by
            rcases inv.lov i oi hoi hSi hrel hwi with hl | h
            · refine (((inv.heap (p.c i) hl hci).addFs fun f hf y hy => ?_).small (Nat.le_refl _) (R i)).congr (fun _ => rfl) rfl
              obtain ⟨q1, q2, q3⟩ := ri.news f hf
              refine inv.whole f y (by omega) (hbef f (hff f hf)) hy fun hs => q3 ?_
              obtain ⟨i', g1, g2, g3, g4⟩ := hs
              exact ⟨i', g1, g2, Nat.lt_of_lt_of_le g3 hl, g4⟩
            · exact h
          refine HR.aside2 hone g4.below.block g4.ext g5 hsz (fun b y c' d' m' hb hs ek => ?_) (fun b t h => hdb b t h) g3.img (fun b h => ⟨Nat.lt_of_lt_of_le (g3.hol b (hX b h)).1 h3, (g3.hol b (hX b h)).2⟩)
          obtain ⟨hbi, hbg⟩ := pickB_get hb
          obtain ⟨hq1, hq2⟩ := hrd b hbi
          cases hz : (addFs B base (p.f j) (G c)).blocks.get b with
          | none => simp only [hasB, hz] at hq2; exact absurd hq2 Bool.noConfusion
          | some y' =>
            subst ek
            exact hq1 (hcur0.inj b bb y' z c' d' m' d m hz g2 hs g1)
        have main : Inv P n X N base ops p v G B R T0 σ0 w0 D (withJ S j) σ' (c + 1) (c + 1) (a.put o.dst v') w' := by
          refine ⟨htm g4.ext r2, fun k hk1 hk2 => ?_, hcur, hst, by rw [Act.put_defers']; exact inv.defs, hpre hc, Nat.le_refl _, fun i oi hoi h6 hrel hwi => ?_, fun f x hf hs hx hseen => ?_, hcl, hcn1 hc, hnx⟩
          · have : k = c + 1 := by omega
            subst this; exact hcur.wide hnx
          · obtain ⟨hij, hSi⟩ := hSj i h6
            have h5 : i < ops.length := by
              rcases Nat.lt_or_ge i ops.length with h | h
              · exact h
              · rw [List.getElem?_eq_none h] at hoi; cases hoi
            have hp := hall' i h5
            unfold pairSt at hp
            rw [hoi] at hp
            simp only [Bool.or_eq_true] at hp
            rcases hp with ((hp | hp) | hp) | hp
            · exact absurd (Nat.eq_of_beq_eq_true hp) hij
            · rw [hbef i hp] at hSi; cases hSi
            · left
              obtain ⟨oi', hoi', ri⟩ := hrow i h5
              rcases Nat.lt_or_ge i j with h | h
              · have := before_lt hrow i h5 j hp
                omega
              · have := ((ri.pair j (by omega)).2 (by rw [hco]; exact hc)).1 hp
                omega
            · simp only [Bool.and_eq_true, Bool.or_eq_true, hrel, Bool.not_true, Bool.false_eq_true, false_or] at hp
              obtain ⟨hp, _⟩ := hp
              obtain ⟨oi', hoi', ri⟩ := hrow i h5
              rcases hp with hlt | ⟨⟨hlt, hrd⟩, hff⟩
              · -- behind it in the text
                have hlt := blt_lt hlt
                obtain ⟨nf1, nf2⟩ := mem_not hrel
                obtain ⟨_, late⟩ := (hfacts i oi hoi).mem hwi nf1 nf2 hrel
                rcases late j hlt (by rw [hco]; exact hc) (by rw [eR]; exact List.cons_ne_nil _ _) with hb | ⟨l1, l2⟩
                · left
                  have := ((ri.pair j hlt).2 (by rw [hco]; exact hc)).1 hb
                  omega
                · by_cases hbf : p.before j i = true
                  · left
                    have := ((ri.pair j hlt).2 (by rw [hco]; exact hc)).1 hbf
                    omega
                  · right
                    have hci : p.c i ≤ c := by
                      rcases Nat.lt_or_ge (p.n j) (p.c i) with h | h
                      · exact absurd (((ri.pair j hlt).2 (by rw [hco]; exact hc)).2 h) hbf
                      · omega
                    refine keepR i oi hoi hSi hrel hwi hci (fun b' hb' => ?_) l2
                    obtain ⟨q1, q2⟩ := l1 b' hb'
                    rw [eR] at q1
                    rw [← hcj] at q2
                    exact ⟨fun e => q1 (by rw [e]; exact List.mem_cons_self ..), q2⟩
              · right
                have hlt := blt_lt hlt
                have hci : p.c i ≤ c := by
                  have := n_mono hrow (Nat.le_of_lt hlt) (Nat.le_of_lt hj)
                  have := ri.le
                  omega
                refine keepR i oi hoi hSi hrel hwi hci (fun b' hb' => ?_) (fun f hf => List.all_eq_true.1 hff f hf)
                have hq := List.all_eq_true.1 hrd b' hb'
                simp only [Bool.and_eq_true, Bool.not_eq_true'] at hq
                refine ⟨fun e => ?_, hq.2⟩
                have hq1 := hq.1
                rw [e, Nat.beq_refl] at hq1
                cases hq1
          · have hfj : f ≠ j := fun e => by rw [e, hnb] at hx; cases hx
            unfold withJ at hs
            rw [if_neg hfj] at hs
            have hof := List.getElem?_eq_getElem hf
            have hff : isFlt (ops[f]).op = true := by
              have ff := hfacts f _ hof
              cases e : isFlt (ops[f]).op with
              | true => rfl
              | false => rw [ff.nofb e] at hx; cases hx
            have hp := hall' f hf
            unfold pairSt at hp
            rw [hof] at hp
            simp only [Bool.or_eq_true] at hp
            rcases hp with ((hp | hp) | hp) | hp
            · exact absurd (Nat.eq_of_beq_eq_true hp) hfj
            · exact absurd ⟨j, hj, by rw [hco]; exact hc, by omega, hp⟩ hseen
            · rw [hbeh f hf hp] at hs; cases hs
            · simp only [Bool.and_eq_true, hff, Bool.true_and, Bool.not_eq_true'] at hp
              have hwh := inv.whole f x hf hs hx fun hs' => hseen (by
                obtain ⟨i', g1, g2, g3, g4⟩ := hs'
                exact ⟨i', g1, g2, by have := inv.loc; omega, g4⟩)
              refine hwh.aside2 g4.ext g5 hsz g1 (fun e => ?_) g6
              have hb := hp.2
              rw [e] at hb
              have := Nat.beq_refl (base + f)
              rw [show Nat.add base f = base + f from rfl, this] at hb
              cases hb
        refine ⟨fun f _ => hF.fn f, ?_⟩
        rw [Oper.semAt_eq F.round a.eval o hd]
        rcases r1 with r1 | ⟨r1, rfl⟩
        · rw [r1]; exact hK _ _ _ _ _ main
        · rw [r1]; exact hK _ _ _ _ _ main
      -- new things that j does not know: nobody touches them
      obtain ⟨Qn, hQn⟩ : ∃ Qn : Nat → Prop, Qn = fun cf => (barrier P p ops base j (addFs B base (p.f j) (G c)) = true) ∧ ∃ f x m, f < ops.length ∧ S f = true ∧ B f = some x ∧ ¬ Seen p ops f lo ∧ p.before f j = false ∧ σ (base + f) = some (cf, 0, m) := ⟨_, rfl⟩
      have hcurQ : HR ⟨⟨n.n, fun cf => n.Q cf ∨ Qn cf⟩, Kept X base p.wd S⟩ σ (addFs B base (p.f j) (G c)).fresh w := by
        refine HR.addQ (Q := n.Q) hcur0 (fun cf hq => ?_) (fun b x cf d m hb hs hq => ?_)
        · rw [hQn] at hq
          obtain ⟨_, f, x, m, _, _, _, _, _, h⟩ := hq
          exact inv.cur.img _ _ _ _ h
        · rw [hQn] at hq
          obtain ⟨hbar, f, y, m', q1, q2, q3, q4, q5, q6⟩ := hq
          obtain ⟨cf', m'', w1, _, _, _, w5⟩ := inv.whole f y q1 q2 q3 q4
          rw [q6] at w1
          injection w1 with w1
          injection w1 with w1 _
          subst w1
          obtain rfl := w5 _ _ _ hs
          have hof := List.getElem?_eq_getElem q1
          have hfl : fltAt ops f = true := by
            have ff := hfacts f _ hof
            unfold fltAt
            rw [hof]
            simp only
            cases e : isFlt (ops[f]).op with
            | true => rfl
            | false => rw [ff.nofb e] at q3; cases q3
          unfold barrier at hbar
          simp only [Bool.and_eq_true] at hbar
          have hh := List.all_eq_true.1 hbar.2 f (by simpa using q1)
          simp only [Bool.or_eq_true, hfl, Bool.not_true, q5, Bool.false_eq_true, false_or] at hh
          rcases hh with hh | hh
          · rw [hbeh f q1 hh] at q2; cases q2
          · have hb' : (addFs B base (p.f j) (G c)).blocks.get (base + f) = some x := hb
            rw [show Nat.add base f = base + f from rfl] at hh
            simp only [hasB, hb'] at hh
            cases hh
      refine Oper.wpIn_mono ?_ (op_ok (n0 := ⟨⟨n.n, fun cf => n.Q cf ∨ Qn cf⟩, Kept X base p.wd S⟩) (hcall j) hF inv.tmps hcurQ hok.1 h1)
      rintro a' w' ⟨v', σ', rfl, q1, q2Q, q3Q⟩
      have q2 : HR ⟨n, Kept X base p.wd S⟩ σ' H1 w' := q2Q.setQ (Q := n.Q) fun c h => .inl h
      have q3 : Step ⟨n, Kept X base p.wd S⟩ σ w H1.low σ' w' := q3Q.setQ (Q := n.Q) fun c h => .inl h
      have hcur : HR ⟨n, Kept X base p.wd (withJ S j)⟩ σ' (G (c + 1)) w' := by rw [h2]; exact (q2.back _).setX hX
      have hnx : (G (c + 1)).next ≤ big := by rw [h2]; exact h3
      have hst : Step ⟨n, X⟩ σ0 w0 (G (c + 1)).low σ' w' := by
        rw [h2]
        exact (inv.step.lower (Nat.min_le_left _ _)).trans (q3.setX.lower (Nat.min_le_right _ _)) (Nat.le_refl _)
      rcases h4 with h4 | h4
      · refine hK _ _ σ' (c + 1) lo ⟨htm q3.ext q1, fun k hk1 hk2 => ?_, hcur, hst, by rw [Act.put_defers']; exact inv.defs, hpre hc, by have := inv.loc; omega, fun i oi hoi h6 hrel hwi => ?_, fun f x hf hs hx hseen => ?_, hcl, hcn1 hc, hnx⟩
        · by_cases e : k = c + 1
          · subst e; exact hcur.wide hnx
          · refine HR.calm (inv.heap k hk1 (by omega)) q3 (fun b t h => ?_) (fun b t h => ?_) q2.img (fun b h => ?_)
            · exact Nat.lt_of_lt_of_le (inv.cur.dom b t h) h4
            · exact Nat.lt_of_lt_of_le (q2.dom b t h) h3
            · exact ⟨Nat.lt_of_lt_of_le (q2.hol b h.less).1 h3, (q2.hol b h.less).2⟩
        · refine (inv.lov i oi hoi (hSj i h6).2 hrel hwi).imp id fun hone => ?_
          refine HR.calm hone q3 (fun b t h => ?_) (fun b t h => ?_) q2.img (fun b h => ?_)
          · exact Nat.lt_of_lt_of_le (inv.cur.dom b t h) h4
          · exact Nat.lt_of_lt_of_le (q2.dom b t h) h3
          · exact ⟨Nat.lt_of_lt_of_le (q2.hol b h.less).1 h3, (q2.hol b h.less).2⟩
        · by_cases e : f = j
          · rw [e, hnb] at hx; cases hx
          · unfold withJ at hs
            rw [if_neg e] at hs
            have hwh := inv.whole f x hf hs hx hseen
            obtain ⟨cf, m, g1, _⟩ := id hwh
            exact hwh.calm q3 (Nat.lt_of_lt_of_le (inv.cur.dom _ _ g1) h4)
      · have h4b := h4
        unfold barrier at h4
        simp only [Bool.and_eq_true] at h4
        obtain ⟨⟨h4a, h4c⟩, _⟩ := h4
        refine hK _ _ σ' (c + 1) (c + 1) ⟨htm q3.ext q1, fun k hk1 hk2 => ?_, hcur, hst, by rw [Act.put_defers']; exact inv.defs, hpre hc, Nat.le_refl _, fun j' oj' hoj' h6 hrel _ => ?_, fun f x hf hs hx hseen => ?_, hcl, hcn1 hc, hnx⟩
        · have : k = c + 1 := by omega
          subst this; exact hcur.wide hnx
        · have h5 : j' < ops.length := by
            rcases Nat.lt_or_ge j' ops.length with h | h
            · exact h
            · rw [List.getElem?_eq_none h] at hoj'; cases hoj'
          have hr : relN P ops j' = true := by
            simp only [relN, hoj']
            simp [hrel]
          left
          unfold withJ at h6
          by_cases e : j' = j
          · rw [if_pos e] at h6; cases h6
          · rw [if_neg e] at h6
            rcases Nat.lt_or_ge j' j with h | h
            · have hh := List.all_eq_true.1 h4a j' (by simpa using h)
              simp only [hr, Bool.not_true, Bool.false_or] at hh
              have := hbef j' hh
              rw [h6] at this; cases this
            · have hjj : j < j' := by omega
              obtain ⟨oj'', hoj'', rj'⟩ := hrow j' h5
              have hb : p.before j j' = true := by
                have hh := List.all_eq_true.1 h4c j' (by simpa using h5)
                simp only [hr, Bool.not_true, Bool.or_false, Bool.or_eq_true] at hh
                rcases hh with h | h
                · exact absurd (ble_le h) (by omega)
                · exact h
              have := ((rj'.pair j hjj).2 (by rw [hco]; exact hc)).1 hb
              omega
        · by_cases e : f = j
          · rw [e, hnb] at hx; cases hx
          · unfold withJ at hs
            rw [if_neg e] at hs
            have hlo : ¬ Seen p ops f lo := fun hs' => hseen (by
              obtain ⟨i', g1, g2, g3, g4⟩ := hs'
              exact ⟨i', g1, g2, by have := inv.loc; omega, g4⟩)
            have hnb' : p.before f j = false := by
              cases hb : p.before f j with
              | false => rfl
              | true => exact absurd ⟨j, hj, by rw [hco]; exact hc, by omega, hb⟩ hseen
            exact (inv.whole f x hf hs hx hlo).safe q3Q fun cf m hcf => .inr (by
              rw [hQn]
              exact ⟨h4b, f, x, m, hf, hs, hx, hlo, hnb', hcf⟩)
  · rw [if_neg hw]
    have hw' : wantedA ops o (Tseq ops v T0 j) = false := by rw [← hwant]; simpa using hw
    obtain ⟨hv, hnb, hG⟩ := fact.skip hw'
    have hvr : VR σ (v j) undef := by rw [hv]; exact vr_undef σ
    cases hc : isChg o.op with
    | false => exact hK _ _ σ c lo (stay hc hnb hvr)
    | true =>
      have hcj := hcn hc
      have hG := hG hc
      have hl : lo ≤ p.c j := by rw [row.full hc, ← hcj]; exact inv.loc
      rw [← hcj] at hG
      have hcur : HR ⟨n, Kept X base p.wd (withJ S j)⟩ σ (G (c + 1)) w := by rw [hG]; exact (inv.cur.addFs (hnew hl)).setX hX
      have hnx : (G (c + 1)).next ≤ big := by rw [hG]; exact inv.nx
      refine hK _ _ σ (c + 1) lo ⟨htm (.refl σ) hvr, fun k hk1 hk2 => ?_, hcur, by rw [hG]; exact inv.step, by rw [Act.put_defers']; exact inv.defs, hpre hc, by have := inv.loc; omega, hlov, fun f x hf hs hx hseen => ?_, hcl, hcn1 hc, hnx⟩
      · by_cases e : k = c + 1
        · subst e; exact hcur.wide hnx
        · exact (inv.heap k hk1 (by omega)).setX hX
      · by_cases e : f = j
        · rw [e, hnb] at hx; cases hx
        · unfold withJ at hs
          rw [if_neg e] at hs
          exact inv.whole f x hf hs hx hseen

/-- how many have not come -/
def left (S : Nat → Bool) : Nat → Nat
  | 0 => 0
  | m + 1 => (if S m = true then 0 else 1) + left S m
theorem left_zero {S : Nat → Bool} : ∀ {m : Nat}, left S m = 0 → ∀ i, i < m → S i = true
  | 0, _, i, hi => by omega
  | m + 1, h, i, hi => by
    unfold left at h
    by_cases hs : S m = true
    · by_cases e : i = m
      · subst e; exact hs
      · exact left_zero (m := m) (by omega) i (by omega)
    · rw [if_neg hs] at h; omega
theorem left_with {S : Nat → Bool} {j : Nat} (hS : S j = false) : ∀ {m : Nat}, left (withJ S j) m + (if j < m then 1 else 0) = left S m
  | 0 => by simp [left]
  | m + 1 => by
    have ih := left_with (m := m) hS
    unfold left
    by_cases e : m = j
    · subst e
      have h1 : withJ S m m = true := by simp [withJ]
      rw [if_pos h1, hS]
      rw [if_neg (Nat.lt_irrefl _)] at ih
      simp
      omega
    · have h1 : withJ S j m = S m := by simp [withJ, e]
      rw [h1]
      by_cases hjm : j < m
      · rw [if_pos hjm] at ih
        rw [if_pos (show j < m + 1 from by omega)]
        omega
      · rw [if_neg hjm] at ih
        rw [if_neg (show ¬ (j < m + 1) from by omega)]
        omega
theorem least_left {S : Nat → Bool} : ∀ {m : Nat}, left S m ≠ 0 → ∃ j, j < m ∧ S j = false ∧ ∀ i, i < j → S i = true
  | 0, h => by simp [left] at h
  | m + 1, h => by
    by_cases h' : left S m = 0
    · have hs : S m = false := by
        cases hs : S m with
        | false => rfl
        | true => unfold left at h; rw [if_pos hs, h'] at h; exact absurd rfl h
      exact ⟨m, by omega, hs, left_zero h'⟩
    · obtain ⟨j, h1, h2, h3⟩ := least_left h'
      exact ⟨j, by omega, h2, h3⟩
def listS (listed : Array Bool) (n i : Nat) : Bool := listed.getD i false

theorem any_ok {P : Program} {F : Fence} {nn : Nat} {n : Base} {X : Nat → Prop} {N base : Nat} {call : Nat → CallT} (hcall : ∀ j, CallOK P n.n (call j)) (hF : WideF F) {ops : List Oper} {p : Plan} {v : Nat → Value} {G : Nat → AH} {B : Nat → Option ABlk} {R : Nat → List Nat} {T0 : Tr Value} {σ0 : Ren} {w0 : World} {D : List Deferred}
    (hrow : ∀ j, j < ops.length → ∃ o, ops[j]? = some o ∧ Row p ops j o) (h0 : p.n 0 = 0) (hall : opersOk N ops = true) (hfact : ∀ j o, ops[j]? = some o → Fact P call ops p base v G B R T0 j o) (hfin : ∀ f ∈ p.fin, f < ops.length ∧ ¬ Seen p ops f (p.n ops.length)) (hXb : ∀ b, X b → b < base)
    {Q : Exit → Act → World → Prop} (hQ : ∀ a' w', At ⟨n, X⟩ N σ0 w0 (Tseq ops v T0 ops.length) (addFs B base p.fin (G (p.n ops.length))) D a' w' → Q .normal a' w') :
    ∀ (fuel : Nat) (listed : Array Bool) (σ : Ren) (c lo : Nat) (a : Act) (w : World), listed.size = ops.length → left (fun i => listed.getD i false) ops.length ≤ fuel → Inv P n X N base ops p v G B R T0 σ0 w0 D (fun i => listed.getD i false) σ c lo a w →
      wpAnyIn F nn P .any ⟨ops⟩ Q fuel listed a w := by
  intro fuel
  have hdone : ∀ (listed : Array Bool) (σ : Ren) (c lo : Nat) (a : Act) (w : World), left (fun i => listed.getD i false) ops.length = 0 → Inv P n X N base ops p v G B R T0 σ0 w0 D (fun i => listed.getD i false) σ c lo a w → Q .normal a w := by
    intro listed σ c lo a w hz inv
    have hS := left_zero hz
    have hc : c = p.n ops.length := by
      rcases Nat.lt_or_ge c (p.n ops.length) with h | h
      · obtain ⟨i, h1, h2, h3⟩ := n_hit hrow h0 (Nat.le_refl _) h
        have := (inv.pre i h1 h2).1 (hS i h1)
        omega
      · have := inv.cn; omega
    subst hc
    refine hQ a w ⟨σ, TR.congr inv.tmps fun t => ?_, inv.defs, (inv.cur.addFs fun f hf x hx => ?_).setX fun b hb => .inl hb, inv.step⟩
    · exact (TS_agree (Nat.le_refl _) fun i hi _ => ⟨fun _ => hi, fun _ => hS i hi⟩).symm
    · obtain ⟨h1, h2⟩ := hfin f hf
      refine inv.whole f x h1 (hS f h1) hx fun hs => h2 ?_
      obtain ⟨i, g1, g2, g3, g4⟩ := hs
      exact ⟨i, g1, g2, Nat.lt_of_lt_of_le g3 inv.loc, g4⟩
  have hnone : ∀ (listed : Array Bool), listed.size = ops.length → Region.ready .any ⟨ops⟩ listed = [] → left (fun i => listed.getD i false) ops.length = 0 := by
    intro listed hsz hr
    rcases Nat.eq_zero_or_pos (left (fun i => listed.getD i false) ops.length) with h | h
    · exact h
    · obtain ⟨j, h1, h2, h3⟩ := least_left (Nat.pos_iff_ne_zero.1 h)
      obtain ⟨o, ho, row⟩ := hrow j h1
      have : j ∈ Region.ready .any ⟨ops⟩ listed := mem_ready.2 ⟨by
        have hlt : j < listed.size := by omega
        simpa [hlt] using h2, o, by simpa using ho, fun e he hb => h3 e.on (row.edge e (by simpa using he) hb)⟩
      rw [hr] at this
      cases this
  induction fuel with
  | zero =>
    intro listed σ c lo a w hsz hl inv
    have hz : left (fun i => listed.getD i false) ops.length = 0 := by omega
    refine ⟨?_, hdone listed σ c lo a w hz inv⟩
    cases hr : Region.ready .any ⟨ops⟩ listed with
    | nil => rfl
    | cons i l =>
      have hi : i ∈ Region.ready .any ⟨ops⟩ listed := by rw [hr]; exact .head _
      obtain ⟨h1, o, h2, _⟩ := mem_ready.1 hi
      have hlt : i < ops.length := by
        have := (Array.getElem?_eq_some_iff.1 h2).1
        simpa using this
      have := left_zero hz i hlt
      have hlt2 : i < listed.size := by omega
      simp [hlt2] at h1 this
      rw [h1] at this; cases this
  | succ fuel ih =>
    intro listed σ c lo a w hsz hl inv
    refine ⟨fun hr => hdone listed σ c lo a w (hnone listed hsz hr) inv, fun j hj => ?_⟩
    obtain ⟨h1, o, h2, h3⟩ := mem_ready.1 hj
    have hlt : j < ops.length := by
      have := (Array.getElem?_eq_some_iff.1 h2).1
      simpa using this
    have hlt2 : j < listed.size := by omega
    have hS : listed.getD j false = false := by simp [hlt2] at h1 ⊢; exact h1
    have ho : ops[j]? = some o := by simpa using h2
    have hset : (fun i => (listed.setIfInBounds j true).getD i false) = withJ (fun i => listed.getD i false) j := by
      funext i
      unfold withJ
      by_cases e : i = j
      · subst e; rw [if_pos rfl]; simp [hlt2]
      · rw [if_neg e]; exact getD_set_ne false (Ne.symm e)
    have key := Inv.next_ok (F := F) (nn := nn) hcall hF hrow h0 hall hfact inv hXb hlt ho hS (fun e he hb => h3 e (by simpa using he) hb) (K := wpAnyIn F nn P .any ⟨ops⟩ Q fuel (listed.setIfInBounds j true)) (Q := Q)
      (fun a' w' σ' c' lo' inv' => ih (listed.setIfInBounds j true) σ' c' lo' a' w' (by simp [hsz]) (by
        rw [hset]
        have := left_with (S := fun i => listed.getD i false) (m := ops.length) hS
        rw [if_pos hlt] at this
        omega) (by rw [hset]; exact inv'))
    unfold wpOpIn
    rw [h2]
    simp only
    rw [wantedA_ok (ops := ⟨ops⟩) inv.tmps hall o key.1]
    replace key := key.2
    by_cases hw : wantedA ops o (TS ops v T0 (fun i => listed.getD i false) ops.length) = true
    · rw [if_pos hw] at key
      rw [if_pos hw]; exact key
    · rw [if_neg hw] at key
      rw [if_neg hw]; exact ⟨fun f _ => hF.fn f, key⟩

theorem regDrawF_ok {P : Program} (hm : P.follows .mixedOrders = true) {n0 : Nat} {QQ X : Nat → Prop} {call : Nat → CallT} (hcall : ∀ j, CallOK P n0 (call j)) {F : Fence} (hF : WideF F) {nn N id : Nat} {ops : Array Oper} {T T' : Tr Value} {H H' : AH} {σ : Ren} {w : World} {a : Act}
    (h : regDrawF P call N ops.toList T H = some (T', H')) (hT : TR σ N T a.tmps) (hr : HR ⟨⟨n0, QQ⟩, X⟩ σ H w) {Q : Exit → Act → World → Prop} (hQ : ∀ a' w', At ⟨⟨n0, QQ⟩, X⟩ N σ w T' H' a.defers a' w' → Q .normal a' w') : (Code.region id ops true).wpIn F nn P Q a w := by
  obtain ⟨hok, h⟩ := sel_none h
  obtain ⟨hbg, h⟩ := sel_none h
  obtain ⟨⟨T1, H1, F1⟩, hgo, h⟩ := oc_eq_some h
  obtain ⟨rfl, rfl⟩ := Prod.mk.inj (Option.some.inj h)
  simp only [drawOk, Bool.and_eq_true] at hok
  obtain ⟨⟨⟨hall, hn0⟩, hrows⟩, hfin⟩ := hok
  have hn0 := Nat.eq_of_beq_eq_true hn0
  have hrow' : ∀ j, j < ops.toList.length → rowOk (planOf ops.toList) ops.toList j = true := fun j hj => List.all_eq_true.1 hrows j (by simpa using hj)
  have hfin' : ∀ f ∈ (planOf ops.toList).fin, f < ops.toList.length ∧ ¬ Seen (planOf ops.toList) ops.toList f ((planOf ops.toList).n ops.toList.length) := fun f hf => by
    have := List.all_eq_true.1 hfin f hf
    simp only [finOk, Bool.and_eq_true, Bool.not_eq_true'] at this
    exact ⟨blt_lt this.1, seenBy_not this.2⟩
  generalize hp : planOf ops.toList = p at *
  obtain ⟨v, G, B, R, _, _, e2, _, e4, e5, e6, e7⟩ := drawGo_facts hrow' (T0 := T) ops.toList 0 T _ _ .nil .nil [] (fun _ => undef) (fun _ => ⟨H.blocks, Nat.add H.next p.wd, H.low⟩) (fun _ => none) (fun _ => []) rfl (Nat.zero_le _) rfl rfl (fun c hc => by
    have : c = 0 := by omega
    subst this
    simp [hn0]) (fun f => by simp [Tr.get_nil]) (fun i hi => absurd hi (Nat.not_lt_zero _)) (fun i _ => Tr.get_nil i) (fun i hi => absurd hi (Nat.not_lt_zero _)) hgo
  have hG0 : G 0 = ⟨H.blocks, Nat.add H.next p.wd, H.low⟩ := e2 0 (Nat.zero_le _)
  refine wpIn_region_any hm ?_
  have e : ops = ⟨ops.toList⟩ := rfl
  have hrep : ∀ i, (Array.replicate ops.size false).getD i false = false := fun i => by
    simp only [Array.getD_eq_getD_getElem?]
    by_cases hi : i < ops.size
    · simp [hi]
    · simp [hi]
  refine any_ok (n := ⟨n0, QQ⟩) (ops := ops.toList) (D := a.defers) (σ0 := σ) (w0 := w) (X := X) (base := H.next) hcall hF (fun j hj => row_of (hrow' j hj)) hn0 hall (fun j o ho => e7 j o (Nat.zero_le _) ho) hfin' (fun b hb => (hr.hol b hb).1) (fun a' w' hat => ?_) ops.size _ σ 0 0 a _ (by simp) ?_ ?_
  · refine hQ a' w' ?_
    show At ⟨⟨n0, QQ⟩, X⟩ N σ w T1 (addFs F1.get H.next p.fin H1) a.defers a' w'
    rw [e4, e5, addFs_congr fun f hf => e6 f (hfin' f hf).1]; exact hat
  · have : ∀ m, left (fun i => (Array.replicate ops.size false).getD i false) m ≤ m := fun m => by
      induction m with
      | zero => exact Nat.le_refl _
      | succ m ih => unfold left; split <;> omega
    simpa using this ops.toList.length
  · have hcur : HR ⟨⟨n0, QQ⟩, Kept X H.next p.wd (fun i => (Array.replicate ops.size false).getD i false)⟩ σ (G 0) w.drew := by
      rw [hG0]
      have hd := hr.drew
      refine ⟨hd.base, hd.blk, hd.inj, fun b t h => Nat.lt_of_lt_of_le (hd.dom b t h) (Nat.le_add_right _ _), hd.img, fun b hb => ?_⟩
      rcases hb with hb | ⟨f, h1, h2, h3⟩
      · exact ⟨Nat.lt_of_lt_of_le (hd.hol b hb).1 (Nat.le_add_right _ _), (hd.hol b hb).2⟩
      · refine ⟨by rw [h3]; exact Nat.add_lt_add_left h1 _, ?_⟩
        cases hs : σ b with
        | none => rfl
        | some t =>
          have := hd.dom b t hs
          omega
    have hnx : (G 0).next ≤ big := by rw [hG0]; exact ble_le hbg
    have hTS : ∀ t, tget (TS ops.toList v T (fun i => (Array.replicate ops.size false).getD i false) ops.toList.length) t = tget T t := fun t => by
      have : ∀ m, TS ops.toList v T (fun i => (Array.replicate ops.size false).getD i false) m = T := fun m => by
        induction m with
        | zero => rfl
        | succ m ih => unfold TS; rw [if_neg (by rw [hrep]; exact Bool.false_ne_true), ih]
      rw [this]
    refine ⟨TR.congr hT hTS, fun k h1 h2 => ?_, hcur, ?_, rfl, fun i hi hc => ?_, Nat.le_refl _, fun _ _ _ _ _ _ => .inl (Nat.zero_le _), fun f x hf hs => ?_, fun j o hs => ?_, Nat.zero_le _, hnx⟩
    · have : k = 0 := by omega
      subst this
      exact hcur.wide hnx
    · exact Step.drew σ w _
    · rw [hrep]; exact ⟨fun h => (by cases h), fun h => absurd h (Nat.not_lt_zero _)⟩
    · have hs : (Array.replicate ops.size false).getD f false = true := hs
      rw [hrep] at hs; cases hs
    · have hs : (Array.replicate ops.size false).getD j false = true := hs
      rw [hrep] at hs; cases hs

theorem regDraw_ok {P : Program} (hm : P.follows .mixedOrders = true) (n0 : Nat) : RdOK P n0 (regDraw P) := by
  intro QQ X call hcall F hF nn N id ops T T' H H' σ w a h hT hr Q hQ
  exact regDrawF_ok hm (fun _ => hcall) hF h hT hr hQ

end Go.Proofs.Ythomkiindjhdmaa.Ax
