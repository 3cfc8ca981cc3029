/-
  A region that draws its order: what is asked of it, its run in the order of the text. Own work, plain lemmas.
-/
import Derived.Test.YthomkiindjhdmaaAxY
import Derived.Test.YthomkiindjhdmaaAx4
set_option linter.unusedSimpArgs false
set_option linter.unusedVariables false
set_option linter.unnecessarySimpa false
set_option linter.deprecated false
set_option linter.unusedSectionVars false
namespace Go.Proofs.Ythomkiindjhdmaa.Ax
open Go.RowKit
variable [Tabs]

def edgeMask (ms : List Nat) : List Edge → Nat
  | [] => 0
  | e :: l => cond (Region.binds .any e) ((2 ^ e.on ||| ms.getD e.on 0) ||| edgeMask ms l) (edgeMask ms l)
def maskGo : List Oper → List Nat → List Nat
  | [], ms => ms
  | o :: l, ms => maskGo l (ms ++ [edgeMask ms o.after.toList])
def countGo : List Oper → Nat → List Nat
  | [], c => [c]
  | o :: l, c => c :: countGo l (cond (isChg o.op) (c + 1) c)
def inMask (m : Nat) : List Oper → Nat → Nat
  | [], _ => 0
  | o :: l, i => cond (isChg o.op && m.testBit i) (inMask m l (i + 1) + 1) (inMask m l (i + 1))
def chgAt (ops : List Oper) (i : Nat) : Bool :=
  match ops[i]? with
  | some o => isChg o.op
  | none => false
def fltAt (ops : List Oper) (i : Nat) : Bool :=
  match ops[i]? with
  | some o => isFlt o.op
  | none => false
noncomputable def relAt (P : Program) (ops : List Oper) (i : Nat) : Bool :=
  match ops[i]? with
  | some o => isChg o.op || isMem P o.op || isFlt o.op
  | none => false
def apartAt (ops : List Oper) (i j : Nat) : Bool :=
  match ops[i]?, ops[j]? with
  | some x, some y => Oper.apart ⟨ops⟩ x y
  | _, _ => false
def maskBefore (ms : List Nat) (i j : Nat) : Bool := (ms.getD j 0).testBit i
def newFs (ms : List Nat) (ops : List Oper) (j : Nat) : List Nat :=
  (List.range j).filter fun f => fltAt ops f && maskBefore ms f j && !((List.range j).any fun i => chgAt ops i && maskBefore ms i j && maskBefore ms f i)
def finFs (ms : List Nat) (ops : List Oper) : List Nat :=
  (List.range ops.length).filter fun f => fltAt ops f && !((List.range ops.length).any fun i => chgAt ops i && maskBefore ms f i)
def widthGo : List Oper → Nat → Nat → Nat
  | [], _, w => w
  | o :: l, i, w => widthGo l (i + 1) (cond (isFlt o.op) (i + 1) w)
/-- who comes before whom (as bits), how many change memory ahead, how many of these must have come, which new things are seen first -/
structure Plan where
  ms : List Nat
  ns : List Nat
  cs : List Nat
  fs : List (List Nat)
  fin : List Nat
  wd : Nat
def planOf (ops : List Oper) : Plan := ⟨maskGo ops [], countGo ops 0, (maskGo ops []).map fun m => inMask m ops 0, (List.range ops.length).map (newFs (maskGo ops []) ops), finFs (maskGo ops []) ops, widthGo ops 0 0⟩
def Plan.m (p : Plan) (j : Nat) : Nat := p.ms.getD j 0
def Plan.n (p : Plan) (j : Nat) : Nat := p.ns.getD j 0
def Plan.c (p : Plan) (j : Nat) : Nat := p.cs.getD j 0
def Plan.f (p : Plan) (j : Nat) : List Nat := p.fs.getD j []
def Plan.before (p : Plan) (i j : Nat) : Bool := (p.m j).testBit i

def pairOk (p : Plan) (ops : List Oper) (j i : Nat) : Bool :=
  (p.before i j || apartAt ops i j) && (!(chgAt ops i) || (p.before i j == Nat.blt (p.n i) (p.c j)))
def edgesOk (j : Nat) (l : List Edge) : Bool := l.all fun e => !(Region.binds .any e) || Nat.blt e.on j
def seenBy (p : Plan) (ops : List Oper) (f c : Nat) : Bool := (List.range ops.length).any fun i => chgAt ops i && Nat.blt (p.n i) c && p.before f i
def newOk (p : Plan) (ops : List Oper) (j f : Nat) : Bool := Nat.blt f j && p.before f j && !(seenBy p ops f (p.c j))
def rowOk (p : Plan) (ops : List Oper) (j : Nat) : Bool :=
  match ops[j]? with
  | none => false
  | some o => edgesOk j o.after.toList && Nat.beq (p.m j) (edgeMask p.ms o.after.toList) && Nat.beq (p.n (j + 1)) (cond (isChg o.op) (p.n j + 1) (p.n j)) && Nat.ble (p.c j) (p.n j) && (!(isChg o.op) || Nat.beq (p.c j) (p.n j)) && (List.range j).all (pairOk p ops j) && (p.f j).all (newOk p ops j) && (!(isFlt o.op) || Nat.blt j p.wd)
def finOk (p : Plan) (ops : List Oper) (f : Nat) : Bool := Nat.blt f ops.length && !(seenBy p ops f (p.n ops.length))
def drawOk (p : Plan) (N : Nat) (ops : List Oper) : Bool := opersOk N ops && Nat.beq (p.n 0) 0 && (List.range ops.length).all (rowOk p ops) && p.fin.all (finOk p ops)

noncomputable def wideB (H : AH) : AH := ⟨H.blocks, big, big⟩
/-- the new things fs are laid into memory -/
noncomputable def addB (g : Nat → Option ABlk) (base : Nat) (fs : List Nat) (B : Tr ABlk) : Tr ABlk :=
  @List.rec Nat (fun _ => Tr ABlk) B (fun f _ ih => oc (g f) ih fun x => ih.set (Nat.add base f) x) fs
noncomputable def addFs (g : Nat → Option ABlk) (base : Nat) (fs : List Nat) (H : AH) : AH := ⟨addB g base fs H.blocks, H.next, H.low⟩
theorem addB_congr {g g' : Nat → Option ABlk} {base : Nat} {B : Tr ABlk} : ∀ {fs : List Nat}, (∀ f ∈ fs, g f = g' f) → addB g base fs B = addB g' base fs B
  | [], _ => rfl
  | f :: fs, h => by
    show oc (g f) (addB g base fs B) (fun x => (addB g base fs B).set (Nat.add base f) x) = oc (g' f) (addB g' base fs B) (fun x => (addB g' base fs B).set (Nat.add base f) x)
    rw [h f (.head _), addB_congr fun x hx => h x (.tail _ hx)]
theorem addFs_congr {g g' : Nat → Option ABlk} {base : Nat} {H : AH} {fs : List Nat} (h : ∀ f ∈ fs, g f = g' f) : addFs g base fs H = addFs g' base fs H := by
  unfold addFs; rw [addB_congr h]

/-- the blocks that an operation looks at -/
def blkOf (v : Value) : List Nat :=
  match v with
  | .pointer (some a) => [a.block]
  | .slice (some a) _ _ => [a.block]
  | .map (some b) => [b]
  | _ => []
noncomputable def rdsOp (T : Tr Value) (op : Op) : List Nat :=
  match op with
  | .load _ x => blkOf (ev T x)
  | .binOp _ _ x y _ => blkOf (ev T x) ++ blkOf (ev T y)
  | .convert _ _ x => blkOf (ev T x)
  | .lookup _ x _ _ => blkOf (ev T x)
  | _ => []
noncomputable def pickB (B : Tr ABlk) (bs : List Nat) : Tr ABlk := @List.rec Nat (fun _ => Tr ABlk) .nil (fun b _ ih => oc (B.get b) ih fun x => ih.set b x) bs
noncomputable def oneB (bs : List Nat) (H : AH) : AH := ⟨pickB H.blocks bs, big, big⟩
theorem pickB_get {B : Tr ABlk} {b : Nat} {x : ABlk} : ∀ {bs : List Nat}, (pickB B bs).get b = some x → b ∈ bs ∧ B.get b = some x
  | [], h => by cases h
  | c :: bs, h => by
    have h : (oc (B.get c) (pickB B bs) fun x => (pickB B bs).set c x).get b = some x := h
    cases hc : B.get c with
    | none =>
      rw [hc] at h
      obtain ⟨h1, h2⟩ := pickB_get (bs := bs) h
      exact ⟨.tail _ h1, h2⟩
    | some y =>
      rw [hc, oc_some, Tr.get_set] at h
      by_cases e : b = c
      · rw [if_pos e] at h
        obtain rfl := Option.some.inj h
        exact ⟨by rw [e]; exact .head _, by rw [e]; exact hc⟩
      · rw [if_neg e] at h
        obtain ⟨h1, h2⟩ := pickB_get (bs := bs) h
        exact ⟨.tail _ h1, h2⟩
noncomputable def hasB (H : AH) (b : Nat) : Bool := oc (H.blocks.get b) false fun _ => true
/-- all that looks at memory, or changes it, is ordered with j; new things that are not, j does not know -/
noncomputable def relN (P : Program) (ops : List Oper) (i : Nat) : Bool :=
  match ops[i]? with
  | some o => isChg o.op || isMem P o.op
  | none => false
noncomputable def barrier (P : Program) (p : Plan) (ops : List Oper) (base j : Nat) (H : AH) : Bool :=
  ((List.range j).all (fun i => !(relN P ops i) || p.before i j) && (List.range ops.length).all fun k => Nat.ble k j || !(relN P ops k) || p.before j k) && (List.range ops.length).all fun k => !(fltAt ops k) || p.before k j || p.before j k || !(hasB H (Nat.add base k))
noncomputable def rdOf (Rd : Tr (List Nat)) (i : Nat) : List Nat := oc (Rd.get i) [] fun l => l
/-- the write of block b at j is nobody's business who is not ordered with j -/
noncomputable def pairSt (P : Program) (p : Plan) (ops : List Oper) (base : Nat) (rd : Nat → List Nat) (j b : Nat) (H : AH) (i : Nat) : Bool :=
  Nat.beq i j || p.before i j || p.before j i || (match ops[i]? with
    | none => true
    | some o => (!(isMem P o.op) || Nat.blt j i || (Nat.blt i j && (rd i).all (fun b' => !(Nat.beq b' b) && hasB H b') && (p.f i).all (fun f => p.before f j))) && !(isFlt o.op && Nat.beq b (Nat.add base i)))
noncomputable def storeOk (P : Program) (p : Plan) (ops : List Oper) (base : Nat) (rd : Nat → List Nat) (j b : Nat) (H : AH) : Bool := (List.range ops.length).all (pairSt P p ops base rd j b H)
/-- the one block of what was there that the operation may write -/
noncomputable def exCall (T : Tr Value) (b : Callee) (ts : List TypeId) (l : List Operand) : Option Nat :=
  match b, ts, l with
  | .builtin .append, [_, _], [s, _] => sliceBlk (ev T s)
  | _, _, _ => none
noncomputable def exB (op : Op) (T : Tr Value) : Option Nat :=
  match op with
  | .store _ x _ => oc (addrOf (ev T x)) none fun a => some a.1
  | .call c => exCall T c.callee c.argTypes.toList c.args.toList
  | _ => none
noncomputable def exactOk (P : Program) (p : Plan) (ops : List Oper) (base : Nat) (rd : Nat → List Nat) (o : Oper) (j : Nat) (T : Tr Value) (H : AH) : Bool :=
  oc (exB o.op T) false fun b => hasB H b && storeOk P p ops base rd j b H
noncomputable def wrB (op : Op) (T : Tr Value) : List Nat := oc (exB op T) [] fun b => [b]
theorem exactOk_spec {P : Program} {p : Plan} {ops : List Oper} {base : Nat} {rd : Nat → List Nat} {o : Oper} {j : Nat} {T : Tr Value} {H : AH} (h : exactOk P p ops base rd o j T H = true) : ∃ b, exB o.op T = some b ∧ hasB H b = true ∧ storeOk P p ops base rd j b H = true := by
  unfold exactOk at h
  cases hb : exB o.op T with
  | none => rw [hb] at h; cases h
  | some b =>
    rw [hb] at h
    have h : (hasB H b && storeOk P p ops base rd j b H) = true := h
    simp only [Bool.and_eq_true] at h
    exact ⟨b, rfl, h⟩
def nilN (l : List Nat) : Bool :=
  match l with
  | [] => true
  | _ => false
theorem nilN_eq {l : List Nat} (h : nilN l = true) : l = [] := by
  cases l with
  | nil => rfl
  | cons _ _ => cases h
/-- what looks at memory behind a write that is not ordered with it, though ahead of it in time, maybe, looks elsewhere -/
noncomputable def lateOne (p : Plan) (base : Nat) (F : Tr ABlk) (hs : List AH) (R : Tr (List Nat)) (i : Nat) (rds : List Nat) (j : Nat) : Bool :=
  p.before j i || (Nat.ble (p.n j) (p.n i) && oc (hs[Nat.sub (p.n i) (p.n j)]?) false fun G => rds.all (fun b' => (rdOf R j).all (fun b => !(Nat.beq b' b)) && hasB (addFs F.get base (p.f j) G) b') && (p.f i).all (fun f => p.before f j))
noncomputable def lateOk (p : Plan) (base : Nat) (F : Tr ABlk) (hs : List AH) (R : Tr (List Nat)) (W : List Nat) (i : Nat) (rds : List Nat) : Bool := W.all (lateOne p base F hs R i rds)
theorem storeOk_congr {P : Program} {p : Plan} {ops : List Oper} {base : Nat} {rd rd' : Nat → List Nat} {j b : Nat} {H : AH} (h : ∀ i, i < j → rd i = rd' i) : storeOk P p ops base rd j b H = storeOk P p ops base rd' j b H := by
  have : ∀ i, pairSt P p ops base rd j b H i = pairSt P p ops base rd' j b H i := fun i => by
    unfold pairSt
    cases hb : Nat.blt i j with
    | false => simp
    | true => rw [h i (blt_lt hb)]
  unfold storeOk
  rw [funext this]
noncomputable def chgStep (P : Program) (call : CallT) (p : Plan) (ops : List Oper) (base : Nat) (rd : Nat → List Nat) (o : Oper) (j : Nat) (T : Tr Value) (H : AH) : Option ((Value × AH) × List Nat) :=
  oc (evalOp P call o.op o.type T H.fresh) none fun r => sel (Nat.ble r.2.next big && (Nat.ble H.next r.2.low || barrier P p ops base j H || exactOk P p ops base rd o j T H)) (some ((r.1, r.2.back H.low), sel (Nat.ble H.next r.2.low) [] (wrB o.op T))) none
abbrev DRes := Option (Tr Value × AH × Tr ABlk)
noncomputable def drawGo (P : Program) (call : Nat → CallT) (all : List Oper) (p : Plan) (base : Nat) (l : List Oper) : Nat → Tr Value → AH → List AH → Tr ABlk → Tr (List Nat) → List Nat → DRes :=
  @List.rec Oper (fun _ => Nat → Tr Value → AH → List AH → Tr ABlk → Tr (List Nat) → List Nat → DRes) (fun _ T H hs F _ _ => some (T, H, F))
    (fun o _ ih j T H hs F R W => sel (guardOk all o T) (sel (wantedA all o T)
      (sel (isFlt o.op) (oc (fltOp P o.op T (Nat.add base j)) none fun r => ih (Nat.succ j) (putO T o.dst r.1) H hs (F.set j r.2) R W)
        (sel (isChg o.op) (oc (chgStep P (call j) p all base (rdOf R) o j T (addFs F.get base (p.f j) H)) none fun r => sel (nilN r.2) (ih (Nat.succ j) (putO T o.dst r.1.1) r.1.2 (r.1.2 :: hs) F R W) (ih (Nat.succ j) (putO T o.dst r.1.1) r.1.2 (r.1.2 :: hs) F (R.set j r.2) (j :: W)))
          (sel (isMem P o.op) (oc (hs[Nat.sub (p.n j) (p.c j)]?) none fun G => oc (evalOp P (call j) o.op o.type T (oneB (rdsOp T o.op) (addFs F.get base (p.f j) G))) none fun r => sel (lateOk p base F hs R W j (rdsOp T o.op)) (ih (Nat.succ j) (putO T o.dst r.1) H hs F (R.set j (rdsOp T o.op)) W) none)
            (oc (evalOp P (call j) o.op o.type T H) none fun r => ih (Nat.succ j) (putO T o.dst r.1) H hs F R W))))
      (sel (isChg o.op) (ih (Nat.succ j) (putO T o.dst undef) (addFs F.get base (p.f j) H) (addFs F.get base (p.f j) H :: hs) F R W) (ih (Nat.succ j) (putO T o.dst undef) H hs F R W))) none) l
theorem drawGo_cons (P : Program) (call : Nat → CallT) (all : List Oper) (p : Plan) (base : Nat) (o : Oper) (l : List Oper) (j : Nat) (T : Tr Value) (H : AH) (hs : List AH) (F : Tr ABlk) (R : Tr (List Nat)) (W : List Nat) : drawGo P call all p base (o :: l) j T H hs F R W = sel (guardOk all o T) (sel (wantedA all o T)
      (sel (isFlt o.op) (oc (fltOp P o.op T (Nat.add base j)) none fun r => drawGo P call all p base l (j + 1) (putO T o.dst r.1) H hs (F.set j r.2) R W)
        (sel (isChg o.op) (oc (chgStep P (call j) p all base (rdOf R) o j T (addFs F.get base (p.f j) H)) none fun r => sel (nilN r.2) (drawGo P call all p base l (j + 1) (putO T o.dst r.1.1) r.1.2 (r.1.2 :: hs) F R W) (drawGo P call all p base l (j + 1) (putO T o.dst r.1.1) r.1.2 (r.1.2 :: hs) F (R.set j r.2) (j :: W)))
          (sel (isMem P o.op) (oc (hs[Nat.sub (p.n j) (p.c j)]?) none fun G => oc (evalOp P (call j) o.op o.type T (oneB (rdsOp T o.op) (addFs F.get base (p.f j) G))) none fun r => sel (lateOk p base F hs R W j (rdsOp T o.op)) (drawGo P call all p base l (j + 1) (putO T o.dst r.1) H hs F (R.set j (rdsOp T o.op)) W) none)
            (oc (evalOp P (call j) o.op o.type T H) none fun r => drawGo P call all p base l (j + 1) (putO T o.dst r.1) H hs F R W))))
      (sel (isChg o.op) (drawGo P call all p base l (j + 1) (putO T o.dst undef) (addFs F.get base (p.f j) H) (addFs F.get base (p.f j) H :: hs) F R W) (drawGo P call all p base l (j + 1) (putO T o.dst undef) H hs F R W))) none := rfl
noncomputable def regDrawF (P : Program) (call : Nat → CallT) (N : Nat) (ops : List Oper) (T : Tr Value) (H : AH) : Option (Tr Value × AH) :=
  sel (drawOk (planOf ops) N ops) (sel (Nat.ble (Nat.add H.next (planOf ops).wd) big) (oc (drawGo P call ops (planOf ops) H.next ops 0 T ⟨H.blocks, Nat.add H.next (planOf ops).wd, H.low⟩ [⟨H.blocks, Nat.add H.next (planOf ops).wd, H.low⟩] .nil .nil []) none fun r => some (r.1, addFs r.2.2.get H.next (planOf ops).fin r.2.1)) none) none
noncomputable def regDraw (P : Program) : RegT := fun call N ops T H => regDrawF P (fun _ => call) N ops T H

theorem chgStep_low {P : Program} {call : CallT} {p : Plan} {ops : List Oper} {base : Nat} {rd : Nat → List Nat} {o : Oper} {j : Nat} {T : Tr Value} {H : AH} {r : (Value × AH) × List Nat} (h : chgStep P call p ops base rd o j T H = some r) : r.1.2.low ≤ H.low := by
  obtain ⟨q, _, h⟩ := oc_eq_some h
  obtain ⟨_, h⟩ := sel_none h
  obtain rfl := Option.some.inj h
  exact Nat.min_le_left _ _
theorem drawGo_low {P : Program} {call : Nat → CallT} {all : List Oper} {p : Plan} {base : Nat} : ∀ {l : List Oper} {j : Nat} {T T' : Tr Value} {H H' : AH} {hs : List AH} {F F' : Tr ABlk} {R : Tr (List Nat)} {W : List Nat}, drawGo P call all p base l j T H hs F R W = some (T', H', F') → H'.low ≤ H.low
  | [], j, T, T', H, H', hs, F, F', R, W, h => by
    have h := Option.some.inj h
    cases h
    exact Nat.le_refl _
  | o :: l, j, T, T', H, H', hs, F, F', R, W, h => by
    rw [drawGo_cons] at h
    obtain ⟨_, h⟩ := sel_none h
    rcases sel_eq_some h with ⟨_, h⟩ | ⟨_, h⟩
    · rcases sel_eq_some h with ⟨_, h⟩ | ⟨_, h⟩
      · obtain ⟨r, hr, h⟩ := oc_eq_some h
        exact drawGo_low h
      · rcases sel_eq_some h with ⟨_, h⟩ | ⟨_, h⟩
        · obtain ⟨r, hr, h⟩ := oc_eq_some h
          rcases sel_eq_some h with ⟨_, h⟩ | ⟨_, h⟩
          · exact Nat.le_trans (drawGo_low h) (chgStep_low (H := addFs F.get base (p.f j) H) hr)
          · exact Nat.le_trans (drawGo_low h) (chgStep_low (H := addFs F.get base (p.f j) H) hr)
        · rcases sel_eq_some h with ⟨_, h⟩ | ⟨_, h⟩
          · obtain ⟨G, _, h⟩ := oc_eq_some h
            obtain ⟨r, hr, h⟩ := oc_eq_some h
            obtain ⟨_, h⟩ := sel_none h
            exact drawGo_low h
          · obtain ⟨r, hr, h⟩ := oc_eq_some h
            exact drawGo_low h
    · rcases sel_eq_some h with ⟨_, h⟩ | ⟨_, h⟩
      · exact drawGo_low (H := addFs _ _ _ H) h
      · exact drawGo_low h
theorem regDraw_low (P : Program) : RdLow (regDraw P) := by
  intro call N ops T H T' H' h
  obtain ⟨_, h⟩ := sel_none h
  obtain ⟨_, h⟩ := sel_none h
  obtain ⟨⟨a, b, c⟩, hr, h⟩ := oc_eq_some h
  obtain ⟨rfl, rfl⟩ := Prod.mk.inj (Option.some.inj h)
  have := drawGo_low hr
  exact this

/-! what is known of each operation -/
noncomputable def Tseq (ops : List Oper) (v : Nat → Value) (T0 : Tr Value) : Nat → Tr Value
  | 0 => T0
  | j + 1 => putO (Tseq ops v T0 j) (dstOf ops j) (v j)
theorem Tseq_congr {ops : List Oper} {v v' : Nat → Value} {T0 : Tr Value} : ∀ {j : Nat}, (∀ i, i < j → v i = v' i) → Tseq ops v T0 j = Tseq ops v' T0 j
  | 0, _ => rfl
  | j + 1, h => by
    show putO (Tseq ops v T0 j) _ (v j) = putO (Tseq ops v' T0 j) _ (v' j)
    rw [h j (Nat.lt_succ_self j), Tseq_congr fun i hi => h i (Nat.lt_succ_of_lt hi)]
structure Fact (P : Program) (call : Nat → CallT) (ops : List Oper) (p : Plan) (base : Nat) (v : Nat → Value) (G : Nat → AH) (B : Nat → Option ABlk) (R : Nat → List Nat) (T0 : Tr Value) (j : Nat) (o : Oper) : Prop where
  gok : guardOk ops o (Tseq ops v T0 j) = true
  nofb : isFlt o.op = false → B j = none
  skip : wantedA ops o (Tseq ops v T0 j) = false → v j = undef ∧ B j = none ∧ (isChg o.op = true → G (p.n j + 1) = addFs B base (p.f j) (G (p.n j)))
  flt : wantedA ops o (Tseq ops v T0 j) = true → isFlt o.op = true → ∃ r, fltOp P o.op (Tseq ops v T0 j) (base + j) = some r ∧ v j = r.1 ∧ B j = some r.2
  pur : wantedA ops o (Tseq ops v T0 j) = true → isFlt o.op = false → isChg o.op = false → isMem P o.op = false → ∃ H0 H1, evalOp P (call j) o.op o.type (Tseq ops v T0 j) H0 = some (v j, H1)
  mem : wantedA ops o (Tseq ops v T0 j) = true → isFlt o.op = false → isChg o.op = false → isMem P o.op = true → (∃ H1, evalOp P (call j) o.op o.type (Tseq ops v T0 j) (oneB (R j) (addFs B base (p.f j) (G (p.c j)))) = some (v j, H1)) ∧
    ∀ k, k < j → chgAt ops k = true → R k ≠ [] → p.before k j = true ∨ ((∀ b' ∈ R j, b' ∉ R k ∧ hasB (addFs B base (p.f k) (G (p.n k))) b' = true) ∧ ∀ f ∈ p.f j, p.before f k = true)
  chg : wantedA ops o (Tseq ops v T0 j) = true → isChg o.op = true → ∃ H1, evalOp P (call j) o.op o.type (Tseq ops v T0 j) (addFs B base (p.f j) (G (p.n j))).fresh = some (v j, H1) ∧ G (p.n j + 1) = H1.back (G (p.n j)).low ∧ H1.next ≤ big ∧ ((G (p.n j)).next ≤ H1.low ∨ barrier P p ops base j (addFs B base (p.f j) (G (p.n j))) = true ∨ ∃ b, exB o.op (Tseq ops v T0 j) = some b ∧ R j = [b] ∧ hasB (addFs B base (p.f j) (G (p.n j))) b = true ∧ storeOk P p ops base R j b (addFs B base (p.f j) (G (p.n j))) = true)

def upd {α : Type} (f : Nat → α) (j : Nat) (x : α) : Nat → α := fun i => if i = j then x else f i
theorem upd_self {α : Type} (f : Nat → α) (j : Nat) (x : α) : upd f j x j = x := if_pos rfl
theorem upd_ne {α : Type} (f : Nat → α) {i j : Nat} (x : α) (h : i ≠ j) : upd f j x i = f i := if_neg h
theorem chg_not_flt {op : Op} (h : isChg op = true) : isFlt op = false := by cases op <;> first | rfl | cases h | (rename_i r; cases r <;> first | rfl | cases h)

theorem drawGo_facts {P : Program} {call : Nat → CallT} {ops : List Oper} {p : Plan} {base : Nat} (hrow : ∀ j, j < ops.length → rowOk p ops j = true) {T0 : Tr Value} {T' : Tr Value} {H' : AH} {F' : Tr ABlk} :
    ∀ (l : List Oper) (j : Nat) (T : Tr Value) (H : AH) (hs : List AH) (F : Tr ABlk) (R : Tr (List Nat)) (W : List Nat) (v : Nat → Value) (G : Nat → AH) (B : Nat → Option ABlk) (rd : Nat → List Nat), ops.drop j = l → j ≤ ops.length → T = Tseq ops v T0 j → H = G (p.n j) → (∀ c, c ≤ p.n j → hs[p.n j - c]? = some (G c)) → (∀ f, F.get f = if f < j then B f else none) → (∀ i, i < j → rdOf R i = rd i) → (∀ i, j ≤ i → R.get i = none) → (∀ i, i < j → chgAt ops i = true → rd i ≠ [] → i ∈ W) →
      drawGo P call ops p base l j T H hs F R W = some (T', H', F') →
      ∃ v' G' B' rd', (∀ i, i < j → rd' i = rd i) ∧ (∀ i, i < j → v' i = v i) ∧ (∀ c, c ≤ p.n j → G' c = G c) ∧ (∀ f, f < j → B' f = B f) ∧
        T' = Tseq ops v' T0 ops.length ∧ H' = G' (p.n ops.length) ∧ (∀ f, f < ops.length → F'.get f = B' f) ∧ ∀ i o, j ≤ i → ops[i]? = some o → Fact P call ops p base v' G' B' rd' T0 i o := by
  intro l
  induction l with
  | nil =>
    intro j T H hs F R W v G B rd hdrop hj hT hH hh hF hR hRn hW h
    have h := Option.some.inj h
    cases h
    have hjl : j = ops.length := by
      have := congrArg List.length hdrop
      simp at this
      omega
    subst hjl
    refine ⟨v, G, B, rd, fun _ _ => rfl, fun _ _ => rfl, fun _ _ => rfl, fun _ _ => rfl, hT, hH, fun f hf => by rw [hF, if_pos hf], fun i o hi ho => ?_⟩
    rw [List.getElem?_eq_none hi] at ho; cases ho
  | cons o l ih =>
    intro j T H hs F R W v G B rd hdrop hj hT hH hh hF hR hRn hW h
    have hget : ops[j]? = some o := by
      have := congrArg (fun m => m[0]?) hdrop
      simpa [List.getElem?_drop] using this
    have hdrop' : ops.drop (j + 1) = l := by
      have := congrArg (List.drop 1) hdrop
      simpa [List.drop_drop, Nat.add_comm] using this
    have hlt : j < ops.length := by
      rcases Nat.lt_or_ge j ops.length with h | h
      · exact h
      · rw [List.getElem?_eq_none h] at hget; cases hget
    have hrj := hrow j hlt
    unfold rowOk at hrj
    rw [hget] at hrj
    simp only [Bool.and_eq_true] at hrj
    obtain ⟨⟨⟨⟨⟨⟨⟨_, _⟩, hn⟩, hc⟩, hcf⟩, _⟩, hnew⟩, _⟩ := hrj
    have hn := Nat.eq_of_beq_eq_true hn
    have hc := ble_le hc
    have hfl : ∀ f ∈ p.f j, f < j := fun f hf => by
      have := List.all_eq_true.1 hnew f hf
      simp only [newOk, Bool.and_eq_true] at this
      exact blt_lt this.1.1
    have hdst : dstOf ops j = o.dst := by simp [dstOf, hget]
    have hadd : ∀ (B' : Nat → Option ABlk), (∀ f, f < j → B' f = B f) → ∀ H, addFs F.get base (p.f j) H = addFs B' base (p.f j) H := fun B' hB H => addFs_congr fun f hf => by
      rw [hF, if_pos (hfl f hf), hB f (hfl f hf)]
    have hadd2 : ∀ (B' : Nat → Option ABlk), (∀ f, f < j → B' f = B f) → ∀ k, k < j → ∀ H, addFs F.get base (p.f k) H = addFs B' base (p.f k) H := fun B' hB k hk H => addFs_congr fun f hf => by
      have hfk : f < k := by
        have hrk := hrow k (by omega)
        unfold rowOk at hrk
        split at hrk
        · cases hrk
        · simp only [Bool.and_eq_true] at hrk
          have := List.all_eq_true.1 hrk.1.2 f hf
          simp only [newOk, Bool.and_eq_true] at this
          exact blt_lt this.1.1
      rw [hF, if_pos (by omega), hB f (by omega)]
    have hcj : chgAt ops j = isChg o.op := by simp [chgAt, hget]
    have hRj : rdOf R j = [] := by unfold rdOf; rw [hRn j (Nat.le_refl _)]; rfl
    rw [drawGo_cons] at h
    obtain ⟨hgk, h⟩ := sel_none h
    -- one step: the value x, the heap H1 at the new count, the block b
    have tail : ∀ {x : Value} {H1 : AH} {hs1 : List AH} {F1 : Tr ABlk} {b : Option ABlk} {R1 : Tr (List Nat)} {W1 : List Nat}, drawGo P call ops p base l (j + 1) (putO T o.dst x) H1 hs1 F1 R1 W1 = some (T', H', F') →
        (isChg o.op = true → hs1 = H1 :: hs) → (isChg o.op = false → hs1 = hs ∧ H1 = H) → (∀ f, F1.get f = if f = j then b else F.get f) → (∀ i, i ≠ j → R1.get i = R.get i) → (∀ i ∈ W, i ∈ W1) → (chgAt ops j = true → rdOf R1 j ≠ [] → j ∈ W1) →
        (∀ (v' : Nat → Value) (G' : Nat → AH) (B' : Nat → Option ABlk) (rd' : Nat → List Nat), (∀ i, i < j → rd' i = rd i) → rd' j = rdOf R1 j → Tseq ops v' T0 j = T → v' j = x → (∀ c, c ≤ p.n j → G' c = G c) → G' (p.n j) = H → (isChg o.op = true → G' (p.n j + 1) = H1) → (∀ f, f < j → B' f = B f) → B' j = b → Fact P call ops p base v' G' B' rd' T0 j o) →
        ∃ v' G' B' rd', (∀ i, i < j → rd' i = rd i) ∧ (∀ i, i < j → v' i = v i) ∧ (∀ c, c ≤ p.n j → G' c = G c) ∧ (∀ f, f < j → B' f = B f) ∧
          T' = Tseq ops v' T0 ops.length ∧ H' = G' (p.n ops.length) ∧ (∀ f, f < ops.length → F'.get f = B' f) ∧ ∀ i o, j ≤ i → ops[i]? = some o → Fact P call ops p base v' G' B' rd' T0 i o := by
      intro x H1 hs1 F1 b R1 W1 h1 q1 q2 q3 qR qW qW1 q4
      have hn1 : p.n j ≤ p.n (j + 1) := by rw [hn]; cases isChg o.op <;> simp
      have hchn : isChg o.op = true → p.n (j + 1) = p.n j + 1 := fun e => by rw [hn, e]; rfl
      have hstn : isChg o.op = false → p.n (j + 1) = p.n j := fun e => by rw [hn, e]; rfl
      have hG1 : ∃ G1 : Nat → AH, (∀ c, c ≤ p.n j → G1 c = G c) ∧ H1 = G1 (p.n (j + 1)) ∧ ∀ c, c ≤ p.n (j + 1) → hs1[p.n (j + 1) - c]? = some (G1 c) := by
        cases e : isChg o.op with
        | false =>
          obtain ⟨e1, e2⟩ := q2 e
          rw [hstn e, e1, e2]
          exact ⟨G, fun _ _ => rfl, hH, hh⟩
        | true =>
          rw [hchn e, q1 e]
          refine ⟨upd G (p.n j + 1) H1, fun c hc => upd_ne _ _ (by omega), (upd_self _ _ _).symm, fun c hc => ?_⟩
          by_cases ec : c = p.n j + 1
          · subst ec; rw [upd_self, Nat.sub_self]; rfl
          · rw [upd_ne _ _ ec, show p.n j + 1 - c = (p.n j - c) + 1 from by omega, List.getElem?_cons_succ]
            exact hh c (by omega)
      obtain ⟨G1, g1, g2, g3⟩ := hG1
      obtain ⟨v', G', B', rd', fR, f1, f2, f3, f4, f5, f6, f7⟩ := ih (j + 1) (putO T o.dst x) H1 hs1 F1 R1 W1 (upd v j x) G1 (upd B j b) (upd rd j (rdOf R1 j)) hdrop' hlt (by
          show _ = putO (Tseq ops _ T0 j) (dstOf ops j) (upd v j x j)
          rw [upd_self, hdst, hT, Tseq_congr (v := upd v j x) (v' := v) fun i hi => upd_ne _ _ (by omega)]) g2 g3 (fun f => by
          rw [q3]
          by_cases e : f = j
          · subst e; rw [if_pos rfl, if_pos (Nat.lt_succ_self _), upd_self]
          · rw [if_neg e, hF, upd_ne _ _ e]
            by_cases e2 : f < j
            · rw [if_pos e2, if_pos (by omega)]
            · rw [if_neg e2, if_neg (by omega)]) (fun i hi => by
          by_cases e : i = j
          · subst e; rw [upd_self]
          · rw [upd_ne _ _ e, ← hR i (by omega)]
            unfold rdOf
            rw [qR i e]) (fun i hi => by rw [qR i (by omega)]; exact hRn i (by omega)) (fun i hi hcc hne => by
          by_cases e : i = j
          · subst e; rw [upd_self] at hne; exact qW1 hcc hne
          · rw [upd_ne _ _ e] at hne; exact qW i (hW i (by omega) hcc hne)) h1
      have v1 : ∀ i, i < j → v' i = v i := fun i hi => by rw [f1 i (by omega), upd_ne _ _ (by omega)]
      have G1' : ∀ c, c ≤ p.n j → G' c = G c := fun c hc => by rw [f2 c (by omega), g1 c hc]
      have B1 : ∀ f, f < j → B' f = B f := fun i hi => by rw [f3 i (by omega), upd_ne _ _ (by omega)]
      have rd1 : ∀ i, i < j → rd' i = rd i := fun i hi => by rw [fR i (by omega), upd_ne _ _ (by omega)]
      refine ⟨v', G', B', rd', rd1, v1, G1', B1, f4, f5, f6, fun i o' hi ho' => ?_⟩
      by_cases hij : i = j
      · subst hij
        rw [hget] at ho'
        obtain rfl := Option.some.inj ho'
        exact q4 v' G' B' rd' rd1 (by rw [fR i (by omega), upd_self]) (by rw [hT, Tseq_congr v1]) (by rw [f1 i (by omega), upd_self]) G1' (by rw [G1' _ (Nat.le_refl _), ← hH]) (fun e => by
          have := f2 (p.n (i + 1)) (Nat.le_refl _)
          rw [← g2, hchn e] at this
          exact this) B1 (by rw [f3 i (by omega), upd_self])
      · exact f7 i o' (by omega) ho'
    have hFj : F.get j = none := by rw [hF, if_neg (Nat.lt_irrefl _)]
    have hsame : ∀ f, F.get f = if f = j then none else F.get f := fun f => by
      by_cases e : f = j
      · subst e; rw [if_pos rfl, hFj]
      · rw [if_neg e]
    rcases sel_eq_some h with ⟨hw, h⟩ | ⟨hw, h⟩
    · rcases sel_eq_some h with ⟨hfl', h⟩ | ⟨hfl', h⟩
      · obtain ⟨r, hr, h⟩ := oc_eq_some h
        have hch : isChg o.op = false := by
          cases e : isChg o.op with
          | false => rfl
          | true => rw [chg_not_flt e] at hfl'; cases hfl'
        refine tail h (fun e => ?_) (fun _ => ⟨rfl, rfl⟩) (fun f => Tr.get_set _ _ _ _) (fun _ _ => rfl) (fun _ h => h) (fun _ hne => absurd hRj hne) ?_
        · rw [hch] at e; cases e
        intro v' G' B' rd' b1 b2 a1 a2 a3 a4 a5 a6 a7
        refine ⟨by rw [a1]; exact hgk, fun e => ?_, fun e => ?_, fun _ _ => ⟨r, by rw [a1]; exact hr, a2, a7⟩, fun _ e => ?_, fun _ e => ?_, fun _ e => ?_⟩
        · rw [hfl'] at e; cases e
        · rw [a1, hw] at e; cases e
        · rw [hfl'] at e; cases e
        · rw [hfl'] at e; cases e
        · rw [hch] at e; cases e
      · rcases sel_eq_some h with ⟨hch, h⟩ | ⟨hch, h⟩
        · obtain ⟨r, hr, h⟩ := oc_eq_some h
          obtain ⟨q, hq, hr⟩ := oc_eq_some hr
          obtain ⟨hb, hr⟩ := sel_none hr
          obtain rfl := Option.some.inj hr
          simp only [Bool.and_eq_true, Bool.or_eq_true] at hb
          have fin : ∀ (l : List Nat), sel (Nat.ble (addFs F.get base (p.f j) H).next q.2.low) [] (wrB o.op T) = l → ∀ (v' : Nat → Value) (G' : Nat → AH) (B' : Nat → Option ABlk) (rd' : Nat → List Nat), (∀ i, i < j → rd' i = rd i) → rd' j = l → Tseq ops v' T0 j = T → v' j = q.1 → (∀ c, c ≤ p.n j → G' c = G c) → G' (p.n j) = H → (isChg o.op = true → G' (p.n j + 1) = q.2.back (addFs F.get base (p.f j) H).low) → (∀ f, f < j → B' f = B f) → B' j = none → Fact P call ops p base v' G' B' rd' T0 j o := by
            intro l hl v' G' B' rd' b1 b2 a1 a2 a3 a4 a5 a6 a7
            have hq := hq
            have hb := hb
            rw [hadd B' a6] at hq hb hl
            refine ⟨by rw [a1]; exact hgk, fun _ => a7, fun e => ?_, fun _ e => ?_, fun _ _ e => ?_, fun _ _ e => ?_, fun _ _ => ⟨q.2, ?_, ?_, ble_le hb.1, ?_⟩⟩
            · rw [a1, hw] at e; cases e
            · rw [hfl'] at e; cases e
            · rw [hch] at e; cases e
            · rw [hch] at e; cases e
            · rw [a1, a4, a2]; exact hq
            · rw [a5 hch, a4]; rfl
            · rw [a4, a1]
              rcases hb.2 with (h | h) | h
              · exact .inl (ble_le h)
              · exact .inr (.inl h)
              · obtain ⟨b, e1, e2, e3⟩ := exactOk_spec h
                rcases sel_eq_some (z := l) (x := some []) (y := some (wrB o.op T)) (b := Nat.ble (addFs B' base (p.f j) H).next q.2.low) (by
                  rw [← hl]
                  cases Nat.ble (addFs B' base (p.f j) H).next q.2.low <;> rfl) with ⟨h1, _⟩ | ⟨_, h2⟩
                · exact .inl (ble_le h1)
                · refine .inr (.inr ⟨b, e1, ?_, e2, ?_⟩)
                  · have h2 := Option.some.inj h2
                    rw [b2, ← h2]
                    unfold wrB
                    rw [e1]; rfl
                  · rw [storeOk_congr (rd' := rdOf R) fun i hi => by rw [b1 i hi, hR i hi]]
                    exact e3
          generalize hwl : sel (Nat.ble (addFs F.get base (p.f j) H).next q.2.low) [] (wrB o.op T) = wl at h fin
          rcases sel_eq_some h with ⟨hn, h⟩ | ⟨hn, h⟩
          · refine tail h (fun _ => rfl) (fun e => ?_) hsame (fun _ _ => rfl) (fun _ h => h) (fun _ hne => absurd hRj hne) fun v' G' B' rd' b1 b2 a1 a2 a3 a4 a5 a6 a7 => ?_
            · rw [hch] at e; cases e
            · have hn := nilN_eq hn
              have hn : wl = [] := hn
              exact fin wl rfl v' G' B' rd' b1 (by rw [b2, hRj, hn]) a1 a2 a3 a4 a5 a6 a7
          · refine tail h (fun _ => rfl) (fun e => ?_) hsame (fun i hi => by rw [Tr.get_set, if_neg hi]) (fun i hi => List.mem_cons_of_mem _ hi) (fun _ _ => List.mem_cons_self ..) fun v' G' B' rd' b1 b2 a1 a2 a3 a4 a5 a6 a7 => ?_
            · rw [hch] at e; cases e
            · refine fin wl rfl v' G' B' rd' b1 ?_ a1 a2 a3 a4 a5 a6 a7
              rw [b2]
              unfold rdOf
              rw [Tr.get_set, if_pos rfl]; rfl
        · rcases sel_eq_some h with ⟨hme, h⟩ | ⟨hme, h⟩
          · obtain ⟨K, hK, h⟩ := oc_eq_some h
            obtain ⟨r, hr, h⟩ := oc_eq_some h
            obtain ⟨hlate, h⟩ := sel_none h
            refine tail h (fun e => ?_) (fun _ => ⟨rfl, rfl⟩) hsame (fun i hi => by rw [Tr.get_set, if_neg hi]) (fun _ h => h) (fun e _ => ?_) ?_
            · rw [hch] at e; cases e
            · rw [hcj, hch] at e; cases e
            intro v' G' B' rd' b1 b2 a1 a2 a3 a4 a5 a6 a7
            have hKG : G' (p.c j) = K := by
              rw [a3 _ hc]
              have := hh (p.c j) hc
              rw [show p.n j - p.c j = Nat.sub (p.n j) (p.c j) from rfl, hK] at this
              exact (Option.some.inj this).symm
            rw [hadd B' a6] at hr
            refine ⟨by rw [a1]; exact hgk, fun _ => a7, fun e => ?_, fun _ e => ?_, fun _ _ _ e => ?_, fun _ _ _ _ => ⟨⟨r.2, ?_⟩, fun k hk hck hne => ?_⟩, fun _ e => ?_⟩
            · rw [a1, hw] at e; cases e
            · rw [hfl'] at e; cases e
            · rw [hme] at e; cases e
            · rw [a1, hKG, a2, b2]
              have : rdOf (R.set j (rdsOp T o.op)) j = rdsOp T o.op := by unfold rdOf; rw [Tr.get_set, if_pos rfl]; rfl
              rw [this]; exact hr
            · have hset : rd' j = rdsOp T o.op := by rw [b2]; unfold rdOf; rw [Tr.get_set, if_pos rfl]; rfl
              have hkR : rd' k = rdOf R k := by rw [b1 k hk, hR k hk]
              have hkW : k ∈ W := hW k hk hck (by rw [← b1 k hk]; exact hne)
              have hl := List.all_eq_true.1 hlate k hkW
              simp only [lateOne, Bool.or_eq_true, Bool.and_eq_true] at hl
              rcases hl with hl | ⟨hle, hl⟩
              · exact .inl hl
              · refine .inr ?_
                have hle := ble_le hle
                have hG := hh (p.n k) hle
                rw [show p.n j - p.n k = Nat.sub (p.n j) (p.n k) from rfl] at hG
                rw [hG] at hl
                simp only [oc_some, Bool.and_eq_true] at hl
                refine ⟨fun b' hb' => ?_, fun f hf => List.all_eq_true.1 hl.2 f hf⟩
                rw [hset] at hb'
                have h1 := List.all_eq_true.1 hl.1 b' hb'
                simp only [Bool.and_eq_true] at h1
                refine ⟨fun hm => ?_, ?_⟩
                · rw [hkR] at hm
                  have := List.all_eq_true.1 h1.1 b' hm
                  rw [Nat.beq_refl] at this
                  cases this
                · rw [a3 _ hle, ← hadd2 B' a6 k hk]
                  exact h1.2
            · rw [hch] at e; cases e
          · obtain ⟨r, hr, h⟩ := oc_eq_some h
            refine tail h (fun e => ?_) (fun _ => ⟨rfl, rfl⟩) hsame (fun _ _ => rfl) (fun _ h => h) (fun _ hne => absurd hRj hne) ?_
            · rw [hch] at e; cases e
            intro v' G' B' rd' b1 b2 a1 a2 a3 a4 a5 a6 a7
            refine ⟨by rw [a1]; exact hgk, fun _ => a7, fun e => ?_, fun _ e => ?_, fun _ _ _ _ => ⟨H, r.2, ?_⟩, fun _ _ _ e => ?_, fun _ e => ?_⟩
            · rw [a1, hw] at e; cases e
            · rw [hfl'] at e; cases e
            · rw [a1, a2]; exact hr
            · rw [hme] at e; cases e
            · rw [hch] at e; cases e
    · rcases sel_eq_some h with ⟨hch, h⟩ | ⟨hch, h⟩
      · refine tail h (fun _ => rfl) (fun e => ?_) hsame (fun _ _ => rfl) (fun _ h => h) (fun _ hne => absurd hRj hne) ?_
        · rw [hch] at e; cases e
        intro v' G' B' rd' b1 b2 a1 a2 a3 a4 a5 a6 a7
        refine ⟨by rw [a1]; exact hgk, fun _ => a7, fun _ => ⟨a2, a7, fun _ => ?_⟩, fun e => ?_, fun e => ?_, fun e => ?_, fun e => ?_⟩
        · rw [a5 hch, a4, hadd B' a6]
        all_goals (rw [a1, hw] at e; cases e)
      · refine tail h (fun e => ?_) (fun _ => ⟨rfl, rfl⟩) hsame (fun _ _ => rfl) (fun _ h => h) (fun _ hne => absurd hRj hne) ?_
        · rw [hch] at e; cases e
        intro v' G' B' rd' b1 b2 a1 a2 a3 a4 a5 a6 a7
        refine ⟨by rw [a1]; exact hgk, fun _ => a7, fun _ => ⟨a2, a7, fun e => ?_⟩, fun e => ?_, fun e => ?_, fun e => ?_, fun e => ?_⟩
        · rw [hch] at e; cases e
        all_goals (rw [a1, hw] at e; cases e)

end Go.Proofs.Ythomkiindjhdmaa.Ax
