/-
  One operation, whatever it is. Own work, plain lemmas.
-/
import Derived.Test.YthomkiindjhdmaaAxM
set_option linter.unusedSimpArgs false
set_option linter.unusedVariables false
set_option linter.unnecessarySimpa false
set_option linter.deprecated false
set_option linter.unusedSectionVars false
namespace Go.Proofs.Ythomkiindjhdmaa.Ax
open Go.RowKit
variable [Tabs]

/-- the operands that the run in order asks for are temporaries, plain constants, functions -/
def callOpds (c : Call) : Bool :=
  match c.callee with
  | .value f => opdOk f && opdsOk c.args.toList
  | .builtin _ => opdsOk c.args.toList
  | .invoke _ _ => false
def opOk (op : Op) : Bool :=
  match op with
  | .move x => opdOk x
  | .assign x => opdOk x
  | .pick c a b => opdOk c && opdOk a && opdOk b
  | .alloc _ => true
  | .box _ x => opdOk x
  | .build _ ps => opdsOk (ps.toList.map (·.2))
  | .buildSlice _ _ ps => opdsOk (ps.toList.map (·.2))
  | .load _ a => opdOk a
  | .store _ a x => opdOk a && opdOk x
  | .nilCheck x => opdOk x
  | .binOp _ _ x y _ => opdOk x && opdOk y
  | .unOp _ _ x => opdOk x
  | .convert _ _ x => opdOk x
  | .makeFunc _ first cap => opdsOk first.toList && opdsOk cap.toList
  | .makeSlice _ l c => opdOk l && opdOk c
  | .slice _ x lo hi mx => opdOk x && optOk lo && optOk hi && optOk mx
  | .fieldAddr _ x _ => opdOk x
  | .field _ x _ => opdOk x
  | .indexAddr _ x i => opdOk x && opdOk i
  | .index _ x i => opdOk x && opdOk i
  | .extract x _ => opdOk x
  | .call c => callOpds c
  | .insert _ x k v => opdOk x && opdOk k && opdOk v
  | .mapUpdate _ x k v => opdOk x && opdOk k && opdOk v
  | .lookup _ x k _ => opdOk x && opdOk k
  | .makeMap _ r => optOk r
  | .range _ x => opdOk x
  | .entry x => opdOk x
  | .next x _ => opdOk x
  | _ => false

theorem fnVal_vr {σ : Ren} {f f' : Value} {args args' : List Value} {p : Fn × List Value} (h : fnVal f args = some p) (hf : VR σ f f') (ha : VRs σ args args') :
    ∃ (fn : Fn) (first cap : Array Value), f' = .func fn first cap ∧ FnR σ p.1 fn ∧ ((∃ g, fn = .func g ∧ VRs σ p.2 (first.toList ++ args' ++ cap.toList)) ∨ (∃ l, fn = .yield l ∧ VRs σ p.2 (first.toList ++ args'))) := by
  unfold fnVal at h
  split at h
  · rename_i g first cap
    obtain rfl := Option.some.inj h
    cases hf with
    | func hfn hx hxs hy hys =>
      cases hfn
      exact ⟨_, _, _, rfl, .func _, .inl ⟨_, rfl, ((VRs.arr hx hxs).append ha).append (VRs.arr hy hys)⟩⟩
  · rename_i l first cap
    obtain rfl := Option.some.inj h
    cases hf with
    | func hfn hx hxs hy hys =>
      cases hfn with
      | yield hl => exact ⟨_, _, _, rfl, .yield hl, .inr ⟨_, rfl, (VRs.arr hx hxs).append ha⟩⟩
  · cases h

theorem call_ok {P : Program} {F : Fence} {n N : Nat} {n0 : Bs} {σ : Ren} {H H' : AH} {w : World} {call : CallT} (hcall : CallOK P n0.n.n call) (hF : WideF F) {o : Oper} {c : Call} (ho : o.op = .call c) {a : Act} {T : Tr Value} (hT : TR σ N T a.tmps) (hr : HR n0 σ H w)
    (hop : callOpds c = true) {v : Value} (h : opCall P call c o.type T H = some (v, H')) {Q : Exit → Act → World → Prop} : o.wpIn F n P a w (After n0 σ w o.dst a v H') Q := by
  have hd : ∀ c', o.op ≠ .defer c' := fun c' e => by rw [ho] at e; cases e
  unfold opCall at h
  unfold callOpds at hop
  cases hc : c.callee with
  | invoke r m => rw [hc] at h; cases h
  | builtin b =>
    rw [hc] at h hop
    simp only at h hop
    have hl := evL_ok (a := a) hT hop
    have hl' : VRs σ (evL T c.args.toList) (c.args.map a.eval).toList := by simpa using hl
    obtain ⟨s, e1, e2⟩ := builtin_ok hr h hl'
    refine wp_of_gives hF hd ?_ e2
    simp [execOp, ho, resolve, hc, invoke, e1]
  | value f =>
    rw [hc] at h hop
    simp only [Bool.and_eq_true] at hop
    simp only at h
    obtain ⟨p, hp, h⟩ := oc_eq_some h
    have hl := evL_ok (a := a) hT hop.2
    obtain ⟨fn, first, cap, hfv, hfn, hcase⟩ := fnVal_vr hp (ev_ok (a := a) hT hop.1) hl
    cases hex : extF P p.1 with
    | some k =>
      rw [hex, oc_some] at h
      have hfn0 := hfn
      rcases hcase with ⟨g, rfl, hargs⟩ | ⟨l, rfl, hargs⟩
      · have hargs' : VRs σ p.2 (first ++ c.args.map a.eval ++ cap).toList := by simpa using hargs
        obtain ⟨g', hg', v', σ', w', r1, r2, r3, r4⟩ := ext_ok hr hex h hargs'
        rw [hg'] at hfn0
        obtain rfl : g' = g := by cases hfn0; rfl
        refine ⟨fun f _ => hF.fn f, ?_⟩
        rw [Oper.semAt_eq F.round a.eval o hd]
        have he : (execOp a.eval o).run P w = .ok (.value v') w' := by
          have : first ++ c.args.map a.eval ++ cap = first ++ (c.args.map a.eval ++ cap) := by simp
          rw [this] at r1
          simp [execOp, ho, resolve, hc, hfv, Deferred.ofValue, invoke, r1]
        rw [he]
        exact ⟨v', σ', rfl, r2, r3, r4⟩
      · have hne : ∃ l', p.1 = .yield l' := by
          generalize p.1 = q at hfn0
          cases hfn0
          exact ⟨_, rfl⟩
        obtain ⟨l', hl'⟩ := hne
        rw [hl'] at hex; cases hex
    | none =>
    rw [hex, oc_none] at h
    rcases hcase with ⟨g, rfl, hargs⟩ | ⟨l, rfl, hargs⟩
    · have hargs' : VRs σ p.2 (first ++ c.args.map a.eval ++ cap).toList := by simpa using hargs
      obtain ⟨⟨fd, hfd, hnm, hbd⟩, hgo⟩ := hcall n0.n.Q n0.X p.1 p.2 H v H' h σ w _ _ hfn hargs' hr
      have hnm' : ¬ fd.name = "runtime.NumGoroutine" := by simpa using hnm
      have hbd' : ¬ fd.body = none := fun e => by rw [e] at hbd; cases hbd
      refine ⟨fun f _ => hF.fn f, ?_⟩
      rw [Oper.semAt_eq F.round a.eval o hd]
      have he : (execOp a.eval o).run P w = .ok (.enter g (first ++ c.args.map a.eval ++ cap)) w := by
        simp [execOp, ho, resolve, hc, hfv, Deferred.ofValue, invoke, callFunc, program, Sem.run, Sem.run_bind, hfd, hnm', hbd']
      rw [he]
      refine ⟨hF.depth, CallsIn.mono (hF.calls (hgo (n - 1))) ?_⟩
      rintro e w' ⟨v', σ', rfl, r1, r2, r3⟩
      exact ⟨v', σ', rfl, r1, r2, r3⟩
    · have hargs' : VRs σ p.2 (first ++ c.args.map a.eval).toList := by simpa using hargs
      obtain ⟨g, ts, as, bd, hy, hgo⟩ := hcall n0.n.Q n0.X p.1 p.2 H v H' h σ w _ _ hfn hargs' hr
      refine ⟨fun f _ => hF.fn f, ?_⟩
      rw [Oper.semAt_eq F.round a.eval o hd]
      have he : (execOp a.eval o).run P w = .ok (.round l g ts as bd) w := by
        simp [execOp, ho, resolve, hc, hfv, Deferred.ofValue, invoke, Sem.run_bind]
        exact hy
      rw [he]
      refine ⟨hF.depth, RoundIn.mono (hF.rounds (hgo (n - 1))) ?_⟩
      rintro e w' ⟨v', σ', rfl, r1, r2, r3⟩
      exact ⟨v', σ', rfl, r1, r2, r3⟩

theorem nil_run {P : Program} {σ : Ren} {w : World} {o : Oper} {x : Operand} {ρ : Operand → Value} {u : Value} (hn : nilOk u = true) (hv : VR σ u (ρ x)) (ho : o.op = .nilCheck x) : (execOp ρ o).run P w = .ok (.value (ρ x)) w := by
  generalize hq : ρ x = q at hv
  unfold nilOk at hn
  split at hn
  · cases hv <;> simp [execOp, ho, hq]
  · cases hv with
    | func hf _ _ _ _ => cases hf; simp [execOp, ho, hq]
  · cases hv with
    | func hf _ _ _ _ => cases hf; simp [execOp, ho, hq]
  · cases hn

theorem op_ok {P : Program} {F : Fence} {n N : Nat} {n0 : Bs} {σ : Ren} {H H' : AH} {w : World} {call : CallT} (hcall : CallOK P n0.n.n call) (hF : WideF F) {o : Oper} {a : Act} {T : Tr Value} (hT : TR σ N T a.tmps) (hr : HR n0 σ H w)
    (hop : opOk o.op = true) {v : Value} (h : evalOp P call o.op o.type T H = some (v, H')) {Q : Exit → Act → World → Prop} : o.wpIn F n P a w (After n0 σ w o.dst a v H') Q := by
  obtain ⟨dst, op, ty, pos, after, guard⟩ := o
  cases op with
  | move x =>
    obtain ⟨rfl, rfl⟩ := Prod.mk.inj (Option.some.inj h)
    exact wp_of_pure hr hF (fun c => by simp) (by simp [execOp]) (ev_ok (a := a) hT hop)
  | assign x =>
    obtain ⟨rfl, rfl⟩ := Prod.mk.inj (Option.some.inj h)
    exact wp_of_pure hr hF (fun c => by simp) (by simp [execOp]) (ev_ok (a := a) hT hop)
  | pick c x y =>
    simp only [opOk, Bool.and_eq_true] at hop
    obtain ⟨g, hg, h⟩ := oc_eq_some h
    obtain ⟨rfl, rfl⟩ := Prod.mk.inj (Option.some.inj h)
    have hc := ev_ok (a := a) hT hop.1.1
    have hx := ev_ok (a := a) hT hop.1.2
    have hy := ev_ok (a := a) hT hop.2
    rw [asB_eq hg] at hc
    generalize hcv : a.eval c = cv at hc
    cases hc
    refine wp_of_pure (v' := if g then a.eval x else a.eval y) hr hF (fun c => by simp) ?_ ?_
    · simp [execOp, hcv, asBool]
    · cases g
      · exact hy
      · exact hx
  | alloc e => exact wp_of_gives hF (fun c => by simp) rfl (alloc_ok hr h)
  | box e x => exact wp_of_gives hF (fun c => by simp) rfl (box_ok hr h (ev_ok (a := a) hT hop))
  | build t ps => exact wp_of_gives hF (fun c => by simp) rfl (GivesP.gives hr <| build_ok hr h (by simpa using evP_ok (a := a) hT hop))
  | buildSlice t k ps =>
    obtain ⟨hk, h⟩ := sel_none h
    exact wp_of_gives hF (fun c => by simp) rfl (buildSlice_ok hr h (by simpa using evP_ok (a := a) hT hop) (blt_lt hk))
  | load t x => exact wp_of_gives hF (fun c => by simp) rfl (GivesP.gives hr <| load_ok hr h (ev_ok (a := a) hT hop))
  | insert t x y z =>
    simp only [opOk, Bool.and_eq_true] at hop
    obtain ⟨rfl, hg⟩ := update_ok (P := P) hr h (ev_ok (a := a) hT hop.1.1) (ev_ok (a := a) hT hop.1.2) (ev_ok (a := a) hT hop.2)
    exact wp_of_unit hF (fun c => by simp) rfl hg
  | mapUpdate t x y z =>
    simp only [opOk, Bool.and_eq_true] at hop
    obtain ⟨rfl, hg⟩ := update_ok (P := P) hr h (ev_ok (a := a) hT hop.1.1) (ev_ok (a := a) hT hop.1.2) (ev_ok (a := a) hT hop.2)
    exact wp_of_unit hF (fun c => by simp) rfl hg
  | lookup t x y ok =>
    simp only [opOk, Bool.and_eq_true] at hop
    exact wp_of_gives hF (fun c => by simp) rfl (GivesP.gives hr <| lookup_ok hr h (ev_ok (a := a) hT hop.1) (ev_ok (a := a) hT hop.2))
  | range t x => exact wp_of_gives hF (fun c => by simp) rfl (range_ok hr h (ev_ok (a := a) hT hop))
  | entry x => cases h
  | makeMap t r => exact wp_of_gives hF (fun c => by simp) rfl (makeMap_ok hr (fun e => by cases r <;> first | rfl | cases e) h)
  | store t x y =>
    simp only [opOk, Bool.and_eq_true] at hop
    obtain ⟨rfl, hg⟩ := store_ok (P := P) hr h (ev_ok (a := a) hT hop.1) (ev_ok (a := a) hT hop.2)
    exact wp_of_unit hF (fun c => by simp) rfl hg
  | nilCheck x =>
    obtain ⟨hn, h⟩ := sel_none h
    obtain ⟨rfl, rfl⟩ := Prod.mk.inj (Option.some.inj h)
    have hv := ev_ok (a := a) hT hop
    exact wp_of_pure hr hF (fun c => by simp) (nil_run hn hv rfl) hv
  | binOp op t x y yt =>
    simp only [opOk, Bool.and_eq_true] at hop
    exact wp_of_gives hF (fun c => by simp) rfl (GivesP.gives hr <| bin_ok hr h (ev_ok (a := a) hT hop.1) (ev_ok (a := a) hT hop.2))
  | unOp op t x => exact wp_of_gives hF (fun c => by simp) rfl (GivesP.gives hr <| un_ok hr h (ev_ok (a := a) hT hop))
  | convert s d x => exact wp_of_gives hF (fun c => by simp) rfl (GivesP.gives hr <| conv_ok hr h (ev_ok (a := a) hT hop))
  | makeFunc fn first cap =>
    simp only [opOk, Bool.and_eq_true] at hop
    obtain ⟨hf, h⟩ := sel_none h
    obtain ⟨rfl, rfl⟩ := Prod.mk.inj (Option.some.inj h)
    refine wp_of_pure (v' := .func fn (first.map a.eval) (cap.map a.eval)) hr hF (fun c => by simp) (by simp [execOp, Instr.makeFunc]) ?_
    exact VRs.func (fnOk_vr hf σ) (by simpa using evL_ok (a := a) hT hop.1) (by simpa using evL_ok (a := a) hT hop.2)
  | makeSlice t x y =>
    simp only [opOk, Bool.and_eq_true] at hop
    exact wp_of_gives hF (fun c => by simp) rfl (makeSlice_ok hr h (ev_ok (a := a) hT hop.1) (ev_ok (a := a) hT hop.2))
  | slice t x lo hi mx =>
    simp only [opOk, Bool.and_eq_true] at hop
    exact wp_of_gives hF (fun c => by simp) rfl (GivesP.gives hr <| slice_ok hr h (ev_ok (a := a) hT hop.1.1.1) (evO_ok (a := a) hT hop.1.1.2) (evO_ok (a := a) hT hop.1.2) (evO_ok (a := a) hT hop.2))
  | fieldAddr t x f => exact wp_of_gives hF (fun c => by simp) rfl (GivesP.gives hr <| fieldAddr_ok hr h (ev_ok (a := a) hT hop))
  | field t x f => exact wp_of_gives hF (fun c => by simp) rfl (GivesP.gives hr <| field_ok hr h (ev_ok (a := a) hT hop))
  | indexAddr t x y =>
    simp only [opOk, Bool.and_eq_true] at hop
    exact wp_of_gives hF (fun c => by simp) rfl (GivesP.gives hr <| indexAddr_ok hr h (ev_ok (a := a) hT hop.1) (ev_ok (a := a) hT hop.2))
  | index t x y =>
    simp only [opOk, Bool.and_eq_true] at hop
    exact wp_of_gives hF (fun c => by simp) rfl (GivesP.gives hr <| index_ok hr h (ev_ok (a := a) hT hop.1) (ev_ok (a := a) hT hop.2))
  | extract x i => exact wp_of_gives hF (fun c => by simp) rfl (GivesP.gives hr <| extract_ok hr h (ev_ok (a := a) hT hop))
  | call c => exact call_ok hcall hF rfl hT hr hop h
  | _ => cases h

end Go.Proofs.Ythomkiindjhdmaa.Ax
