/-
  The pure side. No condition.
-/
import Derived.Test.YtjboikbhilkelaaSpmPure
import Derived.IntWalk
set_option linter.unusedSimpArgs false
set_option linter.unusedVariables false
set_option linter.unusedSectionVars false
set_option linter.unnecessarySimpa false
namespace Go.Proofs.Ytjboikbhilkelaa.spm
open Go Go.Proofs.Ytjboikbhilkelaa Ax
variable [Args]


/-! what Give and Clear make of Met -/
def mb (i : Nat) : BitVec 64 := BitVec.ofInt 64 (metF i)
theorem met_b {i : Nat} (hi : i < Args.A.length) : metF i = (((mb i).toNat : Nat) : Int) := by
 have h : 0 ≤ metF i ∧ metF i < 18446744073709551616 := Args.uA (pt i) (getD_mem hi)
 obtain ⟨m, e⟩ := Int.eq_ofNat_of_zero_le h.1
 unfold mb
 rw [e, BitVec.ofInt_natCast, BitVec.toNat_ofNat, Nat.mod_eq_of_lt (by omega)]
theorem exists_ok {n f : Nat} (hf : f < 64) : m_spliceexistsq1 n (f : Int) = some true := by
 unfold m_spliceexistsq1
 rw [if_pos (by omega), if_pos (by omega)]
def iB (b : BitVec 64) : Int := ((b.toNat : Nat) : Int)
theorem Sf.upd {f g : Nat → Int} {L : List P8} {i : Nat} {k : NL} (hL : Sf (fun j => if j < i then g j else f j) L) (hi : i < Args.A.length) (hk : k.l = kd i) : Sf (fun j => if j < i + 1 then g j else f j) (L.set i ((pt i).1, (pt i).2.1, (pt i).2.2.1, (pt i).2.2.2.1, (pt i).2.2.2.2.1, (pt i).2.2.2.2.2.1, k, g i)) := by
 refine ⟨by rw [List.length_set, hL.len], fun j hj => ?_⟩
 rw [getD_set (by rw [hL.len]; exact hi)]
 by_cases e : j = i
 ·subst e
  rw [if_pos rfl]
  exact ⟨k, by rw [if_pos (Nat.lt_succ_self j)], hk⟩
 ·rw [if_neg e]
  obtain ⟨k', a, b⟩ := hL.row j hj
  refine ⟨k', ?_, b⟩
  rw [a]
  by_cases h1 : j < i
  ·rw [if_pos h1, if_pos (by omega)]
  ·rw [if_neg h1, if_neg (by omega)]
theorem Sf.keep {f g : Nat → Int} {L : List P8} {i : Nat} (hL : Sf (fun j => if j < i then g j else f j) L) (h : g i = f i) : Sf (fun j => if j < i + 1 then g j else f j) L := by
 refine ⟨hL.len, fun j hj => ?_⟩
 obtain ⟨k', a, b⟩ := hL.row j hj
 refine ⟨k', ?_, b⟩
 rw [a]
 by_cases e : j = i
 ·subst e; rw [if_neg (Nat.lt_irrefl j), if_pos (Nat.lt_succ_self j), h]
 ·by_cases h1 : j < i
  ·rw [if_pos h1, if_pos (by omega)]
  ·rw [if_neg h1, if_neg (by omega)]
theorem Sf.congr {f g : Nat → Int} {L : List P8} (hL : Sf f L) (h : ∀ i, i < Args.A.length → f i = g i) : Sf g L := ⟨hL.len, fun j hj => by
 obtain ⟨k, a, b⟩ := hL.row j hj
 exact ⟨k, by rw [a, h j hj], b⟩⟩
theorem give1 {n f t : Nat} {L : List P8} (hf : f < 64) (ht : t < 64) (hS : Sf metF L) (hA : Args.A.length ≤ 1000000) (hn : Args.A.length < n) : ∃ M, m_spliceGiveq1_1 n (f : Int) (t : Int) Args.A.length (Args.A.length : Int) (L, 0) = some M ∧ Sf (fun i => iB (gvB f t (mb i))) M := by
 obtain ⟨r, q1, q2⟩ := hoare (B := B_spliceGiveq1_1 n (f : Int) (t : Int) Args.A.length (Args.A.length : Int)) (σ := List P8) (fun L i => (L, i))
  (fun i L => Sf (fun j => if j < i then iB (gvB f t (mb j)) else metF j) L) (fun r => Sf (fun i => iB (gvB f t (mb i))) r) Args.A.length
  (fun i L hi hI => by
   obtain ⟨k, e1, e2⟩ := hI.row i hi
   have hl := hI.len
   rw [if_neg (Nat.lt_irrefl i)] at e1
   have hB : B_spliceGiveq1_1 n (f : Int) (t : Int) Args.A.length (Args.A.length : Int) (L, (i : Int)) = if (mb i).getLsbD f = true then some (.inl (L.set i ((pt i).1, (pt i).2.1, (pt i).2.2.1, (pt i).2.2.2.1, (pt i).2.2.2.2.1, (pt i).2.2.2.2.2.1, k, bOr .u64 (bAndNot .u64 (metF i) (shlV .u64 (1 : Int) (f : Int))) (shlV .u64 (1 : Int) (t : Int))), ((i + 1 : Nat) : Int))) else some (.inl (L, ((i + 1 : Nat) : Int))) := by
    unfold B_spliceGiveq1_1
    dsimp only
    rw [if_pos (by omega), if_pos (by omega), Int.toNat_natCast, if_pos (by omega), e1]
    dsimp only [Option.bind_some]
    rw [if_pos (by omega), if_pos (show (0 : Int) ≤ (t : Int) by omega), w64_inc (by omega)]
    by_cases hb : (mb i).getLsbD f = true
    ·rw [if_pos hb, if_pos (by rw [met_b hi]; exact (bit1 hf _).2 hb)]
    ·rw [if_neg hb, if_neg (by rw [met_b hi]; exact fun h => hb ((bit1 hf _).1 h))]
   rw [hB]
   by_cases hb : (mb i).getLsbD f = true
   ·rw [if_pos hb]
    have hv : bOr .u64 (bAndNot .u64 (metF i) (shlV .u64 (1 : Int) (f : Int))) (shlV .u64 (1 : Int) (t : Int)) = iB (gvB f t (mb i)) := by
     rw [met_b hi, shl1 hf, shl1 ht, bann, bor]
     unfold gvB iB
     rw [if_pos hb]
    rw [hv]
    exact .inl ⟨_, Sf.upd (g := fun j => iB (gvB f t (mb j))) hI hi e2, rfl⟩
   ·rw [if_neg hb]
    exact .inl ⟨_, Sf.keep (g := fun j => iB (gvB f t (mb j))) hI (by show iB (gvB f t (mb i)) = metF i; rw [met_b hi]; unfold gvB iB; rw [if_neg hb]), rfl⟩)
  (fun L hI => by
   refine ⟨L, hI.congr fun i hi => by rw [if_pos hi], ?_⟩
   unfold B_spliceGiveq1_1
   dsimp only
   rw [if_neg (by omega)])
  n 0 L (Nat.zero_le _) (hS.congr fun i _ => by rw [if_neg (Nat.not_lt_zero i)]) (by omega)
 exact ⟨r, q2, q1⟩
theorem clear1 {n f : Nat} {L : List P8} (hf : f < 64) (hS : Sf metF L) (hA : Args.A.length ≤ 1000000) (hn : Args.A.length < n) : ∃ M, m_spliceClearq1_1 n (f : Int) Args.A.length (Args.A.length : Int) (L, 0) = some M ∧ Sf (fun i => iB (clB f (mb i))) M := by
 obtain ⟨r, q1, q2⟩ := hoare (B := B_spliceClearq1_1 n (f : Int) Args.A.length (Args.A.length : Int)) (σ := List P8) (fun L i => (L, i))
  (fun i L => Sf (fun j => if j < i then iB (clB f (mb j)) else metF j) L) (fun r => Sf (fun i => iB (clB f (mb i))) r) Args.A.length
  (fun i L hi hI => by
   obtain ⟨k, e1, e2⟩ := hI.row i hi
   have hl := hI.len
   rw [if_neg (Nat.lt_irrefl i)] at e1
   have hB : B_spliceClearq1_1 n (f : Int) Args.A.length (Args.A.length : Int) (L, (i : Int)) = some (.inl (L.set i ((pt i).1, (pt i).2.1, (pt i).2.2.1, (pt i).2.2.2.1, (pt i).2.2.2.2.1, (pt i).2.2.2.2.2.1, k, bAndNot .u64 (metF i) (shlV .u64 (1 : Int) (f : Int))), ((i + 1 : Nat) : Int))) := by
    unfold B_spliceClearq1_1
    dsimp only
    rw [if_pos (by omega), if_pos (by omega), Int.toNat_natCast, if_pos (by omega), e1]
    dsimp only [Option.bind_some]
    rw [if_pos (by omega), w64_inc (by omega)]
   have hv : bAndNot .u64 (metF i) (shlV .u64 (1 : Int) (f : Int)) = iB (clB f (mb i)) := by
    rw [met_b hi, shl1 hf, bann]
    rfl
   rw [hB, hv]
   exact .inl ⟨_, Sf.upd (g := fun j => iB (clB f (mb j))) hI hi e2, rfl⟩)
  (fun L hI => by
   refine ⟨L, hI.congr fun i hi => by rw [if_pos hi], ?_⟩
   unfold B_spliceClearq1_1
   dsimp only
   rw [if_neg (by omega)])
  n 0 L (Nat.zero_le _) (hS.congr fun i _ => by rw [if_neg (Nat.not_lt_zero i)]) (by omega)
 exact ⟨r, q2, q1⟩
theorem give_ok {n f t : Nat} (hf : f < 64) (ht : t < 64) (h0 : 0 < Args.A.length) (hA : Args.A.length ≤ 1000000) (hk : ∀ i, (kd i).length ≤ Args.A.length) (hn : Args.A.length < n) : ∃ M, m_spliceGiveq1 n (f : Int) (t : Int) = some (M, Args.A.length) ∧ Sf (fun i => iB (gvB f t (mb i))) M := by
 obtain ⟨L, e, hS⟩ := copy_ok h0 hA hk hn
 obtain ⟨M, e1, h1⟩ := give1 hf ht hS hA hn
 refine ⟨M, ?_, h1⟩
 unfold m_spliceGiveq1
 rw [e]
 dsimp only [Option.bind_some]
 rw [exists_ok hf, exists_ok ht]
 dsimp only [Option.bind_some]
 rw [if_pos rfl, if_pos rfl, e1]
 rfl
theorem clear_ok {n f : Nat} (hf : f < 64) (h0 : 0 < Args.A.length) (hA : Args.A.length ≤ 1000000) (hk : ∀ i, (kd i).length ≤ Args.A.length) (hn : Args.A.length < n) : ∃ M, m_spliceClearq1 n (f : Int) = some (M, Args.A.length) ∧ Sf (fun i => iB (clB f (mb i))) M := by
 obtain ⟨L, e, hS⟩ := copy_ok h0 hA hk hn
 obtain ⟨M, e1, h1⟩ := clear1 hf hS hA hn
 refine ⟨M, ?_, h1⟩
 unfold m_spliceClearq1
 rw [e]
 dsimp only [Option.bind_some]
 rw [exists_ok hf]
 dsimp only [Option.bind_some]
 rw [if_pos rfl, e1]
 rfl
/-! the law's loop -/
theorem iB_inj {x y : BitVec 64} : iB x = iB y ↔ x = y := by
 unfold iB
 rw [Int.ofNat_inj, BitVec.toNat_inj]
theorem iB_zero {x : BitVec 64} : iB x = 0 ↔ x = 0#64 := by
 rw [show (0 : Int) = iB 0#64 from rfl, iB_inj]
theorem law1 {n f t : Nat} {L M : List P8} (hf : f < 64) (ht : t < 64) (hL : Sf (fun i => iB (gvB f t (mb i))) L) (hM : Sf (fun i => iB (clB f (mb i))) M) (hA : Args.A.length ≤ 1000000) (hn : Args.A.length < n) :
  m_VSpliceMoves_1 n (f : Int) (t : Int) L Args.A.length M Args.A.length (shlV .u64 (1 : Int) (f : Int)) (shlV .u64 (1 : Int) (t : Int)) 0 = some () := by
 obtain ⟨r, q1, q2⟩ := hoare (B := B_VSpliceMoves_1 n (f : Int) (t : Int) L Args.A.length M Args.A.length (shlV .u64 (1 : Int) (f : Int)) (shlV .u64 (1 : Int) (t : Int))) (σ := Unit) (fun _ i => i)
  (fun i _ => True) (fun r => r = ()) Args.A.length
  (fun i _ hi _ => by
   refine .inl ⟨(), trivial, ?_⟩
   obtain ⟨k, e1, -⟩ := hL.row i hi
   obtain ⟨k', e2, -⟩ := hM.row i hi
   have hl := hL.len
   have hm := hM.len
   unfold B_VSpliceMoves_1
   dsimp only
   rw [if_pos (by omega), if_pos (by omega), Int.toNat_natCast, if_pos (by omega), e1, e2]
   dsimp only [Option.bind_some]
   rw [if_pos (by omega)]
   show (if iB (clB f (mb i)) = bAndNot .u64 (metF i) _ then _ else _) = _
   rw [shl1 hf, shl1 ht, met_b hi, bann, if_pos (show iB (clB f (mb i)) = (((mb i &&& ~~~one f).toNat : Nat) : Int) from rfl), w64_inc (by omega)]
   by_cases e : (f : Int) = (t : Int)
   ·have e : f = t := by omega
    subst e
    rw [if_pos rfl, if_pos (by omega), if_pos (by omega)]
    show (if iB (gvB f f (mb i)) = metF i then _ else _) = _
    rw [if_pos (by rw [gv_same hf, met_b hi]; rfl)]
   ·rw [if_neg e, if_pos (by omega), if_pos (by omega)]
    have hne : f ≠ t := by omega
    show (if bAnd .u64 (iB (gvB f t (mb i))) (iB (one f)) = 0 then (if bAnd .u64 (iB (gvB f t (mb i))) (iB (one t)) = 0 then (if bAnd .u64 (metF i) (bOr .u64 (iB (one f)) (iB (one t))) = 0 then (if bAndNot .u64 (iB (gvB f t (mb i))) (bOr .u64 (iB (one f)) (iB (one t))) = bAndNot .u64 (metF i) (bOr .u64 (iB (one f)) (iB (one t))) then _ else _) else _) else (if bAnd .u64 (metF i) (bOr .u64 (iB (one f)) (iB (one t))) = 0 then _ else (if bAndNot .u64 (iB (gvB f t (mb i))) (bOr .u64 (iB (one f)) (iB (one t))) = bAndNot .u64 (metF i) (bOr .u64 (iB (one f)) (iB (one t))) then _ else _))) else _) = _
    have m1 : bAnd .u64 (iB (gvB f t (mb i))) (iB (one f)) = iB (gvB f t (mb i) &&& one f) := ban _ _
    have m2 : bAnd .u64 (iB (gvB f t (mb i))) (iB (one t)) = iB (gvB f t (mb i) &&& one t) := ban _ _
    have m3 : bOr .u64 (iB (one f)) (iB (one t)) = iB (one f ||| one t) := bor _ _
    have m4 : bAnd .u64 (metF i) (iB (one f ||| one t)) = iB (mb i &&& (one f ||| one t)) := by rw [met_b hi]; exact ban _ _
    have m5 : bAndNot .u64 (iB (gvB f t (mb i))) (iB (one f ||| one t)) = bAndNot .u64 (metF i) (iB (one f ||| one t)) := by
     rw [met_b hi]
     refine (bann _ _).trans ?_
     rw [gv_rest hf ht]
     exact (bann _ _).symm
    rw [m1, m2, m3, m4, m5, if_pos (iB_zero.2 (gv_from hf ht hne _)), if_pos rfl]
    by_cases c : gvB f t (mb i) &&& one t = 0#64
    ·rw [if_pos (iB_zero.2 c), if_pos (iB_zero.2 ((gv_to hf ht hne _).1 c))]
    ·rw [if_neg (fun h => c (iB_zero.1 h)), if_neg (fun h => c ((gv_to hf ht hne _).2 (iB_zero.1 h)))])
  (fun _ _ => by
   refine ⟨(), rfl, ?_⟩
   unfold B_VSpliceMoves_1
   dsimp only
   rw [if_neg (by omega)])
  n 0 () (Nat.zero_le _) trivial (by omega)
 exact q2


/-! the document's copy, and its tree without Met -/
theorem take_sn {L : List Int} {q : Nat} (h : q < L.length) : L.take (q + 1) = L.take q ++ [L.getD q 0] := by
 rw [List.take_add_one, List.getD_eq_getElem?_getD, List.getElem?_eq_getElem h]; rfl
theorem getD_snoc {α : Type} {L : List α} {x d : α} {j : Nat} : (L ++ [x]).getD j d = if j < L.length then L.getD j d else if j = L.length then x else d := by
 simp only [List.getD_eq_getElem?_getD]
 by_cases h : j < L.length
 ·rw [if_pos h, List.getElem?_append_left h]
 ·rw [if_neg h, List.getElem?_append_right (by omega)]
  by_cases e : j = L.length
  ·rw [if_pos e, e, Nat.sub_self]; rfl
  ·rw [if_neg e, List.getElem?_eq_none (by simp; omega)]; rfl
def kdS : Prop := ∀ i, i < Args.A.length → (∀ v ∈ kd i, -1000000 ≤ v ∧ v ≤ 1000000) ∧ (kd i).length ≤ Args.A.length
theorem mv21 {n c i : Nat} {out : List P8} {L : List P8} (hS : Sm L) (a1 a2 a3 a4 a5 a6 a7 : Int) (hi : i < Args.A.length) (hA : Args.A.length ≤ 1000000) (hk : kdS) (hn : Args.A.length < n) : ∃ y, m_Rmovedq1_2 n L Args.A.length c 0 (i : Int) a1 a2 a3 a4 a5 a6 a7 (out, [], 0) = some (out, y) ∧ y.l = kd i := by
 obtain ⟨hv, hl⟩ := hk i hi
 obtain ⟨k, m, e1, e2⟩ := hS.row i hi
 have hL := hS.len
 obtain ⟨r, q1, q2⟩ := hoare (B := B_Rmovedq1_2 n L Args.A.length c 0 (i : Int) a1 a2 a3 a4 a5 a6 a7) (σ := List Int) (fun acc j => (out, acc, j)) (fun j acc => acc = (kd i).take j) (fun r => r.1 = out ∧ r.2.l = kd i) (kd i).length
  (fun j acc hj hI => by
   refine .inl ⟨acc ++ [(kd i).getD j 0], by rw [hI]; exact (take_sn hj).symm, ?_⟩
   have hw : w64 ((kd i).getD j 0 + 0) = (kd i).getD j 0 := by
    have := hv _ (getD_mem (d := 0) hj)
    rw [w64_sm (by omega) (by omega)]; omega
   have hlen : acc.length = j := by rw [hI, List.length_take]; omega
   clear hI
   cases out <;> cases acc <;>
   ·unfold B_Rmovedq1_2
    dsimp only
    rw [if_pos (by omega), Int.toNat_natCast, if_pos (by omega), e1]
    dsimp only [Option.bind_some]
    rw [e2, if_pos (by omega), if_pos (by omega), Int.toNat_natCast, if_pos hj]
    rw [hw, w64_inc (by omega)]
    first | rfl | rw [if_pos (by omega)])
  (fun acc hI => by
   rw [List.take_length] at hI
   have hlen : acc.length = (kd i).length := by rw [hI]
   refine ⟨(out, if h : acc.length ≤ 9223372036854775807 then (if acc = [] then nl0 else frzL acc h) else nl0), ⟨rfl, ?_⟩, ?_⟩
   ·show NL.l (if h : acc.length ≤ 9223372036854775807 then (if acc = [] then nl0 else frzL acc h) else nl0) = _
    rw [dif_pos (by omega)]
    by_cases h0 : acc = []
    ·rw [if_pos h0, ← hI, h0]; rfl
    ·rw [if_neg h0, ← hI]; rfl
   ·rw [dif_pos (by omega)]
    clear hI
    cases out <;> cases acc <;>
    ·unfold B_Rmovedq1_2
     dsimp only
     rw [if_pos (by omega), Int.toNat_natCast, if_pos (by omega), e1]
     dsimp only [Option.bind_some]
     rw [e2, if_neg (by omega)]
     first | rfl | rw [dif_pos (by omega), if_neg (by simp)])
  n 0 [] (Nat.zero_le _) (by simp) (by omega)
 obtain ⟨r1, r2⟩ := r
 obtain ⟨rfl, h2⟩ := q1
 exact ⟨r2, q2, h2⟩
theorem mv22 {n c i : Nat} {out : List P8} (a1 a2 a3 a4 a5 a6 a7 : Int) (hi : i < Args.A.length) (hA : Args.A.length ≤ 1000000) (hk : kdS) (hn : Args.A.length < n) : ∃ y, m_Rmovedq2_2 n 0 (i : Int) a1 a2 a3 a4 a5 a6 a7 (out, [], 0) = some (out, y) ∧ y.l = kd i := by
 obtain ⟨hv, hl⟩ := hk i hi
 obtain ⟨k, m, e1, e2⟩ : ∃ (k : NL) (m : Int), Args.A.getD i (0, 0, 0, 0, 0, 0, nl0, 0) = ((pt i).1, (pt i).2.1, (pt i).2.2.1, (pt i).2.2.2.1, (pt i).2.2.2.2.1, (pt i).2.2.2.2.2.1, k, m) ∧ k.l = kd i := ⟨_, _, rfl, rfl⟩

 obtain ⟨r, q1, q2⟩ := hoare (B := B_Rmovedq2_2 n 0 (i : Int) a1 a2 a3 a4 a5 a6 a7) (σ := List Int) (fun acc j => (out, acc, j)) (fun j acc => acc = (kd i).take j) (fun r => r.1 = out ∧ r.2.l = kd i) (kd i).length
  (fun j acc hj hI => by
   refine .inl ⟨acc ++ [(kd i).getD j 0], by rw [hI]; exact (take_sn hj).symm, ?_⟩
   have hw : w64 ((kd i).getD j 0 + 0) = (kd i).getD j 0 := by
    have := hv _ (getD_mem (d := 0) hj)
    rw [w64_sm (by omega) (by omega)]; omega
   have hlen : acc.length = j := by rw [hI, List.length_take]; omega
   clear hI
   cases out <;> cases acc <;>
   ·unfold B_Rmovedq2_2
    dsimp only
    rw [if_pos (by omega), Int.toNat_natCast, e1]
    dsimp only [Option.bind_some]
    rw [e2, if_pos (by omega), if_pos (by omega), Int.toNat_natCast, if_pos hj]
    rw [hw, w64_inc (by omega)]
    first | rfl | rw [if_pos (by omega)])
  (fun acc hI => by
   rw [List.take_length] at hI
   have hlen : acc.length = (kd i).length := by rw [hI]
   refine ⟨(out, if h : acc.length ≤ 9223372036854775807 then (if acc = [] then nl0 else frzL acc h) else nl0), ⟨rfl, ?_⟩, ?_⟩
   ·show NL.l (if h : acc.length ≤ 9223372036854775807 then (if acc = [] then nl0 else frzL acc h) else nl0) = _
    rw [dif_pos (by omega)]
    by_cases h0 : acc = []
    ·rw [if_pos h0, ← hI, h0]; rfl
    ·rw [if_neg h0, ← hI]; rfl
   ·rw [dif_pos (by omega)]
    clear hI
    cases out <;> cases acc <;>
    ·unfold B_Rmovedq2_2
     dsimp only
     rw [if_pos (by omega), Int.toNat_natCast, e1]
     dsimp only [Option.bind_some]
     rw [e2, if_neg (by omega)]
     first | rfl | rw [dif_pos (by omega), if_neg (by simp)])
  n 0 [] (Nat.zero_le _) (by simp) (by omega)
 obtain ⟨r1, r2⟩ := r
 obtain ⟨rfl, h2⟩ := q1
 exact ⟨r2, q2, h2⟩
theorem mv11 {n c : Nat} {L : List P8} {f : Nat → Int} (hS : Sf f L) (h0 : 0 < Args.A.length) (hA : Args.A.length ≤ 1000000) (hk : kdS) (hn : Args.A.length < n) : ∃ R, m_RCopyq1 n L Args.A.length c = some R ∧ Sf f R := by
 have hL := hS.len
 obtain ⟨r, q1, q2⟩ := hoare (B := B_Rmovedq1_1 n L Args.A.length c 0) (σ := List P8) (fun out i => (out, i)) (fun i out => out.length = i ∧ ∀ j, j < i → ∃ k : NL, out.getD j (0, 0, 0, 0, 0, 0, nl0, 0) = ((pt j).1, (pt j).2.1, (pt j).2.2.1, (pt j).2.2.2.1, (pt j).2.2.2.2.1, (pt j).2.2.2.2.2.1, k, f j) ∧ k.l = kd j) (fun r => Sf f r) Args.A.length
  (fun i out hi hI => by
   obtain ⟨hlen, hI⟩ := hI
   obtain ⟨k, e1, e2⟩ := hS.row i hi
   obtain ⟨y, g1, g2⟩ := mv21 (n := n) (c := c) (i := i) (out := out) hS.sm (pt i).1 (pt i).2.1 (pt i).2.2.1 (pt i).2.2.2.1 (pt i).2.2.2.2.1 (pt i).2.2.2.2.2.1 (f i) hi hA hk hn
   refine .inl ⟨out ++ [((pt i).1, (pt i).2.1, (pt i).2.2.1, (pt i).2.2.2.1, (pt i).2.2.2.2.1, (pt i).2.2.2.2.2.1, y, f i)], ⟨by rw [List.length_append, hlen]; rfl, fun j hj => ?_⟩, ?_⟩
   ·rw [getD_snoc]
    by_cases h1 : j < i
    ·rw [if_pos (by omega)]; exact hI j h1
    ·obtain rfl : j = i := by omega
     rw [if_neg (by omega), if_pos hlen.symm]
     exact ⟨y, rfl, g2⟩
   ·clear hI
    cases out <;>
    ·unfold B_Rmovedq1_1
     dsimp only
     rw [if_pos (by omega), if_pos (by omega), Int.toNat_natCast, if_pos (by omega), e1]
     dsimp only [Option.bind_some]
     rw [g1]
     dsimp only [Option.bind_some]
     rw [w64_inc (by omega)]
     first | rfl | rw [if_pos (by omega)])
  (fun out hI => by
   refine ⟨out, ⟨hI.1, hI.2⟩, ?_⟩
   cases out <;>
   ·unfold B_Rmovedq1_1
    dsimp only
    rw [if_neg (by omega)])
  n 0 [] (Nat.zero_le _) ⟨rfl, fun j hj => absurd hj (Nat.not_lt_zero j)⟩ (by omega)
 refine ⟨r, ?_, q1⟩
 have q2 : m_Rmovedq1_1 n L Args.A.length c 0 ([], 0) = some r := q2
 have hr := q1.len
 unfold m_RCopyq1 m_Rmovedq1
 rw [q2]
 cases r with
 | nil => simp at hr; omega
 | cons a l => rfl
theorem mv12 {n c : Nat} (h0 : 0 < Args.A.length) (hA : Args.A.length ≤ 1000000) (hk : kdS) (hn : Args.A.length < n) : ∃ R, m_RCopyq2 n  = some R ∧ Sf metF R := by

 obtain ⟨r, q1, q2⟩ := hoare (B := B_Rmovedq2_1 n 0) (σ := List P8) (fun out i => (out, i)) (fun i out => out.length = i ∧ ∀ j, j < i → ∃ k : NL, out.getD j (0, 0, 0, 0, 0, 0, nl0, 0) = ((pt j).1, (pt j).2.1, (pt j).2.2.1, (pt j).2.2.2.1, (pt j).2.2.2.2.1, (pt j).2.2.2.2.2.1, k, metF j) ∧ k.l = kd j) (fun r => Sf metF r) Args.A.length
  (fun i out hi hI => by
   obtain ⟨hlen, hI⟩ := hI
   obtain ⟨k, e1, e2⟩ := (show ∃ k : NL, Args.A.getD i (0, 0, 0, 0, 0, 0, nl0, 0) = ((pt i).1, (pt i).2.1, (pt i).2.2.1, (pt i).2.2.2.1, (pt i).2.2.2.2.1, (pt i).2.2.2.2.2.1, k, metF i) ∧ k.l = kd i from ⟨_, rfl, rfl⟩)
   obtain ⟨y, g1, g2⟩ := mv22 (n := n) (c := 0) (i := i) (out := out) (pt i).1 (pt i).2.1 (pt i).2.2.1 (pt i).2.2.2.1 (pt i).2.2.2.2.1 (pt i).2.2.2.2.2.1 (metF i) hi hA hk hn
   refine .inl ⟨out ++ [((pt i).1, (pt i).2.1, (pt i).2.2.1, (pt i).2.2.2.1, (pt i).2.2.2.2.1, (pt i).2.2.2.2.2.1, y, metF i)], ⟨by rw [List.length_append, hlen]; rfl, fun j hj => ?_⟩, ?_⟩
   ·rw [getD_snoc]
    by_cases h1 : j < i
    ·rw [if_pos (by omega)]; exact hI j h1
    ·obtain rfl : j = i := by omega
     rw [if_neg (by omega), if_pos hlen.symm]
     exact ⟨y, rfl, g2⟩
   ·clear hI
    cases out <;>
    ·unfold B_Rmovedq2_1
     dsimp only
     rw [if_pos (by omega), if_pos (by omega), Int.toNat_natCast, e1]
     dsimp only [Option.bind_some]
     rw [g1]
     dsimp only [Option.bind_some]
     rw [w64_inc (by omega)]
     first | rfl | rw [if_pos (by omega)])
  (fun out hI => by
   refine ⟨out, ⟨hI.1, hI.2⟩, ?_⟩
   cases out <;>
   ·unfold B_Rmovedq2_1
    dsimp only
    rw [if_neg (by omega)])
  n 0 [] (Nat.zero_le _) ⟨rfl, fun j hj => absurd hj (Nat.not_lt_zero j)⟩ (by omega)
 refine ⟨r, ?_, q1⟩
 have q2 : m_Rmovedq2_1 n 0 ([], 0) = some r := q2
 have hr := q1.len
 unfold m_RCopyq2 m_Rmovedq2
 rw [q2]
 cases r with
 | nil => simp at hr; omega
 | cons a l => rfl
theorem br11 {n : Nat} {L : List P8} {f : Nat → Int} {R : List P8} (hR : Sf f R) (hA : Args.A.length ≤ 1000000) (hn : Args.A.length < n) : ∃ M, m_RBareq1_1 n L Args.A.length (R, 0) = some M ∧ Sf (fun _ => 0) M := by
 obtain ⟨r, q1, q2⟩ := hoare (B := B_RBareq1_1 n L Args.A.length) (σ := List P8) (fun R i => (R, i)) (fun i R => Sf (fun j => if j < i then 0 else f j) R) (fun r => Sf (fun _ => 0) r) Args.A.length
  (fun i R hi hI => by
   obtain ⟨k, e1, e2⟩ := hI.row i hi
   have hl := hI.len
   refine .inl ⟨_, Sf.upd (g := fun _ => 0) hI hi e2, ?_⟩
   unfold B_RBareq1_1
   dsimp only
   rw [if_pos (by omega), if_pos (by omega), Int.toNat_natCast, if_pos (by omega), e1]
   dsimp only [Option.bind_some]
   rw [w64_inc (by omega)])
  (fun R hI => by
   refine ⟨R, hI.congr fun i hi => by rw [if_pos hi], ?_⟩
   unfold B_RBareq1_1
   dsimp only
   rw [if_neg (by omega)])
  n 0 R (Nat.zero_le _) (hR.congr fun i _ => by rw [if_neg (Nat.not_lt_zero i)]) (by omega)
 exact ⟨r, q2, q1⟩
theorem bare1 {n c : Nat} {L : List P8} {f : Nat → Int} (hS : Sf f L) (h0 : 0 < Args.A.length) (hA : Args.A.length ≤ 1000000) (hk : kdS) (hn : Args.A.length < n) (hc : m_RCheckq1 n = some 0) : ∃ M, m_RBareq1 n L Args.A.length c = some (M, Args.A.length) ∧ Sf (fun _ => 0) M := by
 obtain ⟨R, e1, hR⟩ := mv11 (n := n) (c := c) hS h0 hA hk hn
 obtain ⟨M, e2, hM⟩ := br11 (n := n) (L := L) hR hA hn
 refine ⟨M, ?_, hM⟩
 unfold m_RBareq1
 rw [check2 hS.sm, hc]
 dsimp only [Option.bind_some]
 rw [if_pos rfl, e1]
 dsimp only [Option.bind_some]
 rw [hR.len, e2]
 rfl
theorem br12 {n : Nat} {f : Nat → Int} {R : List P8} (hR : Sf f R) (hA : Args.A.length ≤ 1000000) (hn : Args.A.length < n) : ∃ M, m_RBareq2_1 n Args.A.length (R, 0) = some M ∧ Sf (fun _ => 0) M := by
 obtain ⟨r, q1, q2⟩ := hoare (B := B_RBareq2_1 n Args.A.length) (σ := List P8) (fun R i => (R, i)) (fun i R => Sf (fun j => if j < i then 0 else f j) R) (fun r => Sf (fun _ => 0) r) Args.A.length
  (fun i R hi hI => by
   obtain ⟨k, e1, e2⟩ := hI.row i hi
   have hl := hI.len
   refine .inl ⟨_, Sf.upd (g := fun _ => 0) hI hi e2, ?_⟩
   unfold B_RBareq2_1
   dsimp only
   rw [if_pos (by omega), if_pos (by omega), Int.toNat_natCast, if_pos (by omega), e1]
   dsimp only [Option.bind_some]
   rw [w64_inc (by omega)])
  (fun R hI => by
   refine ⟨R, hI.congr fun i hi => by rw [if_pos hi], ?_⟩
   unfold B_RBareq2_1
   dsimp only
   rw [if_neg (by omega)])
  n 0 R (Nat.zero_le _) (hR.congr fun i _ => by rw [if_neg (Nat.not_lt_zero i)]) (by omega)
 exact ⟨r, q2, q1⟩
theorem bare2 {n c : Nat} (h0 : 0 < Args.A.length) (hA : Args.A.length ≤ 1000000) (hk : kdS) (hn : Args.A.length < n) (hc : m_RCheckq1 n = some 0) : ∃ M, m_RBareq2 n  = some (M, Args.A.length) ∧ Sf (fun _ => 0) M := by
 obtain ⟨R, e1, hR⟩ := mv12 (n := n) (c := 0) h0 hA hk hn
 obtain ⟨M, e2, hM⟩ := br12 (n := n) hR hA hn
 refine ⟨M, ?_, hM⟩
 unfold m_RBareq2
 rw [hc]
 dsimp only [Option.bind_some]
 rw [if_pos rfl, e1]
 dsimp only [Option.bind_some]
 rw [hR.len, e2]
 rfl


/-! few parts; the law -/
theorem lightP_ok {n : Nat} (hn : 200 < n) : ∃ b, m_LPq1 n 100 = some b ∧ (b = true → Args.A.length ≤ 100) := by
 obtain ⟨r, -, h⟩ := whileI (B := B_LPq1_1 n 100) (fun s => ∃ i : Nat, s.2 = i ∧ i ≤ 101) (fun s => 101 - s.2.toNat) (fun r => True)
  (fun s hI => by
   obtain ⟨x, q⟩ := s
   obtain ⟨i, rfl, hi⟩ := hI
   unfold B_LPq1_1
   dsimp only
   by_cases c1 : (i : Int) < ((Args.A.length : Nat) : Int)
   ·rw [if_pos c1]
    by_cases c2 : (i : Int) ≤ 100
    ·rw [if_pos c2, if_pos (by omega), w64_inc (by omega)]
     simp only [Option.bind_some]
     generalize Args.A.getD ((i : Int)).toNat (0, 0, 0, 0, 0, 0, nl0, 0) = p
     by_cases d1 : p.2.2.1 > 1048576
     ·rw [if_pos d1]; exact .inr ⟨_, trivial, rfl⟩
     rw [if_neg d1]
     by_cases d2 : p.2.2.2.2.1 > 1048576
     ·rw [if_pos d2]; exact .inr ⟨_, trivial, rfl⟩
     rw [if_neg d2]
     by_cases d3 : p.2.2.2.2.2.1 > 1048576
     ·rw [if_pos d3]; exact .inr ⟨_, trivial, rfl⟩
     rw [if_neg d3]
     by_cases d4 : p.2.2.1 < -1048576
     ·rw [if_pos d4]; exact .inr ⟨_, trivial, rfl⟩
     rw [if_neg d4]
     by_cases d5 : p.2.2.2.2.1 < -1048576
     ·rw [if_pos d5]; exact .inr ⟨_, trivial, rfl⟩
     rw [if_neg d5]
     by_cases d6 : p.2.2.2.2.2.1 < -1048576
     ·rw [if_pos d6]; exact .inr ⟨_, trivial, rfl⟩
     rw [if_neg d6]
     exact .inl ⟨(_, ((i + 1 : Nat) : Int)), ⟨i + 1, rfl, by omega⟩, by dsimp only; omega, rfl⟩
    ·rw [if_neg c2]; exact .inr ⟨_, trivial, rfl⟩
   ·rw [if_neg c1]; exact .inr ⟨_, trivial, rfl⟩) n (0, 0) ⟨0, rfl, by omega⟩ (by dsimp only; omega)
 unfold m_LPq1 m_LPq1_1
 rw [h]
 rcases r with r | r
 ·exact ⟨_, rfl, fun h => by cases h⟩
 ·dsimp only
  by_cases c1 : ((Args.A.length : Nat) : Int) ≤ 100
  ·rw [if_pos c1]
   split
   ·exact ⟨_, rfl, fun _ => by omega⟩
   ·exact ⟨_, rfl, fun h => by cases h⟩
  ·rw [if_neg c1]; exact ⟨_, rfl, fun h => by cases h⟩
theorem Ks.count {i k next e : Nat} {a : Int} (h : Ks i k next a e) : (kd i).length + next ≤ e + k := by
 induction h with
 | done hk => omega
 | kid hk hv hn ha h1 h2 ih1 ih2 => have := h1.lt; omega
theorem kd_out {i : Nat} (h : Args.A.length ≤ i) : kd i = [] := by
 have : pt i = d8 := by unfold pt; rw [List.getD_eq_getElem?_getD, List.getElem?_eq_none h]; rfl
 unfold kd; rw [this]; rfl
theorem Tree.few (hT : Tree) (i : Nat) : (kd i).length ≤ Args.A.length := by
 rcases Nat.lt_or_ge i Args.A.length with h | h
 ·obtain ⟨e, h1, -, h3⟩ := hT.end h
  have := h1.count
  omega
 ·rw [kd_out h]; exact Nat.zero_le _
theorem Tree.kdS (hT : Tree) (hA : Args.A.length ≤ 100000) : kdS := fun i hi => ⟨fun v hv => by
 obtain ⟨q, h1, h2⟩ := mem_getD 0 hv
 obtain ⟨c, e, -, h4⟩ := hT.kid hi h1
 rw [h2] at e
 omega, hT.few i⟩
theorem sm2 {n c d i : Nat} {X Y : List P8} {x y : NL} (a1 a2 a3 a4 a5 a6 a7 b1 b2 b3 b4 b5 b6 b7 : Int) (hx : x.l = kd i) (hy : y.l = kd i) (hl : (kd i).length ≤ 1000000) (hn : (kd i).length < n) : m_RSameq1_2 n X Y c d (i : Int) a1 a2 a3 a4 a5 a6 x a7 b1 b2 b3 b4 b5 b6 y b7 0 = some (.inr ()) := by
 obtain ⟨r, q1, q2⟩ := hoare (B := B_RSameq1_2 n X Y c d (i : Int) a1 a2 a3 a4 a5 a6 x a7 b1 b2 b3 b4 b5 b6 y b7) (σ := Unit) (fun _ j => j) (fun _ _ => True) (fun r => r = .inr ()) (kd i).length
  (fun j _ hj _ => by
   refine .inl ⟨(), trivial, ?_⟩
   unfold B_RSameq1_2
   dsimp only
   rw [hx, hy, if_pos (by omega), if_pos (by omega), Int.toNat_natCast, if_pos hj]
   dsimp only [Option.bind_some]
   rw [if_pos (by omega), if_pos hj]
   rw [if_pos rfl, w64_inc (by omega)])
  (fun _ _ => by
   refine ⟨.inr (), rfl, ?_⟩
   unfold B_RSameq1_2
   dsimp only
   rw [hx, if_neg (by omega)])
  n 0 () (Nat.zero_le _) trivial (by omega)
 have q2 : m_RSameq1_2 n X Y c d (i : Int) a1 a2 a3 a4 a5 a6 x a7 b1 b2 b3 b4 b5 b6 y b7 0 = some r := q2
 rw [q2, q1]
theorem same_ok {n : Nat} {X Y : List P8} (hX : Sf (fun _ => 0) X) (hY : Sf (fun _ => 0) Y) (hA : Args.A.length ≤ 1000000) (hk : ∀ i, (kd i).length ≤ Args.A.length) (hn : Args.A.length < n) : m_RSameq1 n X Args.A.length Y Args.A.length = some true := by
 obtain ⟨r, q1, q2⟩ := hoare (B := B_RSameq1_1 n X Y Args.A.length Args.A.length) (σ := Unit) (fun _ j => j) (fun _ _ => True) (fun r => r = .inr ()) Args.A.length
  (fun i _ hi _ => by
   refine .inl ⟨(), trivial, ?_⟩
   obtain ⟨k, e1, e2⟩ := hX.row i hi
   obtain ⟨k', e3, e4⟩ := hY.row i hi
   have h1 := hX.len
   have h2 := hY.len
   have h3 := hk i
   unfold B_RSameq1_1
   dsimp only
   rw [if_pos (by omega), if_pos (by omega), Int.toNat_natCast, if_pos (by omega), e1]
   dsimp only [Option.bind_some]
   rw [if_pos (by omega), if_pos (by omega), e3]
   dsimp only
   rw [if_pos rfl, if_pos rfl, if_pos rfl, if_pos rfl, if_pos rfl, if_pos rfl, if_pos rfl, if_pos (by rw [e2, e4]), sm2 _ _ _ _ _ _ _ _ _ _ _ _ _ _ e2 e4 (by omega) (by omega)]
   dsimp only
   rw [w64_inc (by omega)])
  (fun _ _ => by
   refine ⟨.inr (), rfl, ?_⟩
   unfold B_RSameq1_1
   dsimp only
   rw [if_neg (by omega)])
  n 0 () (Nat.zero_le _) trivial (by omega)
 have q2 : m_RSameq1_1 n X Y Args.A.length Args.A.length 0 = some r := q2
 unfold m_RSameq1
 rw [if_pos rfl, q2, q1]
theorem pick_ok (n : Nat) (g : Int) : ∃ f : Nat, f < 64 ∧ m_viewportkitPickq1 n g 64 = some (f : Int) := by
 unfold m_viewportkitPickq1
 rw [if_neg (by decide), if_pos (by decide)]
 have h1 := Int.tmod_lt_of_pos g (show (0 : Int) < 64 by decide)
 have h2 : -64 < Int.tmod g 64 := by
  have := Int.lt_tmod_of_pos g (show (0 : Int) < 64 by decide)
  omega
 by_cases c : Int.tmod g 64 < 0
 ·rw [if_pos c, w64_sm (by omega) (by omega)]
  exact ⟨(Int.tmod g 64 + 64).toNat, by omega, by rw [Int.toNat_of_nonneg (by omega)]⟩
 ·rw [if_neg c]
  exact ⟨(Int.tmod g 64).toNat, by omega, by rw [Int.toNat_of_nonneg (by omega)]⟩
theorem light2 {n : Nat} (hn : 0 < n) : m_LPq2 n 100 = some true := by
 obtain ⟨m, rfl⟩ : ∃ m, n = m + 1 := ⟨n - 1, by omega⟩
 unfold m_LPq2 m_LPq2_1
 rw [iterM_succ]
 unfold B_LPq2_1
 dsimp only [Option.bind_some]
 rw [if_pos (by decide), if_pos (by decide)]
theorem spliceMoves_true (g1 g2 : Int) : ∃ n, m_VSpliceMoves n g1 g2 = some true := by
 obtain ⟨K, hK⟩ := bound_kd
 obtain ⟨n, hn⟩ : ∃ n, n = Args.A.length + K + 1000 := ⟨_, rfl⟩
 refine ⟨n, ?_⟩
 obtain ⟨b, e1, h1⟩ := lightP_ok (n := n) (by omega)
 unfold m_VSpliceMoves
 rw [show m_Vlives n = some () from rfl]
 dsimp only [Option.bind_some]
 unfold m_Vlightq1
 rw [e1]
 dsimp only [Option.bind_some]
 cases b with
 | false => rfl
 | true =>
  have hA := h1 rfl
  rw [if_pos rfl, light2 (by omega)]
  dsimp only [Option.bind_some]
  rw [if_pos rfl]
  dsimp only [Option.bind_some]
  rw [if_pos rfl]
  obtain ⟨c, e2, h2⟩ := refCheck_ok (n := n) hK (by omega) (by omega)
  rw [e2]
  dsimp only [Option.bind_some]
  by_cases hc : c = 0
  ·rw [if_pos hc]
   have hT := h2 hc
   subst hc
   have h0 := hT.pos
   have hS := hT.kdS (by omega)
   have hk := hT.few
   obtain ⟨f, hf, e3⟩ := pick_ok n g1
   obtain ⟨t, ht, e4⟩ := pick_ok n g2
   obtain ⟨L, e5, hL⟩ := give_ok (n := n) hf ht h0 (by omega) hk (by omega)
   obtain ⟨M, e6, hM⟩ := clear_ok (n := n) hf h0 (by omega) hk (by omega)
   obtain ⟨X, e7, hX⟩ := bare1 (n := n) (c := Args.A.length) hL h0 (by omega) hS (by omega) e2
   obtain ⟨Y, e8, hY⟩ := bare2 (n := n) (c := 0) h0 (by omega) hS (by omega) e2
   have w1 : IntKind.u64.wrap (f : Int) = (f : Int) := IntWalk.u64_in _ (by omega)
   have w2 : IntKind.u64.wrap (t : Int) = (t : Int) := IntWalk.u64_in _ (by omega)
   rw [e3]
   dsimp only [Option.bind_some]
   rw [e4]
   dsimp only [Option.bind_some]
   rw [e5]
   dsimp only [Option.bind_some]
   rw [e6]
   dsimp only [Option.bind_some]
   rw [w1, w2, if_pos (by omega), if_pos (by omega), if_pos rfl, if_pos rfl, law1 hf ht hL hM (by omega) (by omega)]
   dsimp only [Option.bind_some]
   rw [e7]
   dsimp only [Option.bind_some]
   rw [e8]
   dsimp only [Option.bind_some]
   rw [same_ok hX hY (by omega) hk (by omega)]
   rfl
  ·rw [if_neg hc]

end Go.Proofs.Ytjboikbhilkelaa.spm
