/-
  What functions do, told by pure functions. No condition.
-/
import Derived.Test.YtaompjplflaloaaMunchScrATold
set_option linter.unusedSimpArgs false
set_option linter.unusedVariables false
set_option linter.unusedSectionVars false
set_option linter.unnecessarySimpa false
namespace Go.Proofs.Ytaompjplflaloaa.munchs
open Go Go.Proofs.Ytaompjplflaloaa Ax
variable [Args]
noncomputable abbrev gL (i : Int) : Int × Int × ByteArray := (Args.L).getD i.toNat (0, 0, ByteArray.empty)
noncomputable abbrev gQ (i : Int) : Value := Value.pointer (some ⟨2, i.toNat * 3, some 1⟩)
noncomputable abbrev gP (i : Int) (k : Nat) : Value := Value.pointer (some ⟨2, Nat.add (i.toNat * 3) k, some 1⟩)
noncomputable abbrev gI (i : Int) : Prop := opIndexAddr P 35 (Value.slice (some ⟨2, 0, some 1⟩) (Args.L).length Args.cL) (Value.int .i64 i) Ax.h0 = some (gQ i, Ax.h0)
noncomputable def S_viewportlaw06MunchScript_1 (x1_0 : List Int) (x1_1 : List Int) (st : Int × Int × Int × Int × Int × Bool × Bool × Bool × Bool × Int × Int × Int × Int × Int × Int × Int × Int) : XSt := match st with
  | (x1_2, x1_3, x1_4, x1_5, x1_6, x1_7, x1_8, x1_9, x1_10, x1_11, x1_12, x1_13, x1_14, x1_15, x1_16, x1_17, x1_18) => (sT 168 [(1, (Value.slice (some ⟨2, 0, some 1⟩) (Args.L).length Args.cL)), (5, (Value.pointer (some ⟨0, 0, none⟩))), (7, (Value.pointer (some ⟨3, 0, none⟩))), (9, (Value.int .i64 x1_18))], [], ⟨sB [(0, (some (.cells (layT [(Value.pointer (some ⟨0, 0, none⟩)), (Value.slice (some ⟨1, 0, none⟩) (x1_0).length (Nat.add big 1)), (Value.slice (some ⟨2, 0, none⟩) (x1_1).length (Nat.add big 1)), (Value.int .i64 x1_2), (Value.int .i64 x1_3), (Value.int .i64 x1_4), (Value.int .i64 x1_5), (Value.int .i64 x1_6), (Value.bool x1_7), (Value.bool x1_8)]) 61))), (1, (some (.cells (layT (iv x1_0)) 3))), (2, (some (.cells (layT (iv x1_1)) 3))), (3, (some (.cells (layT [(Value.slice (some ⟨0, 0, some 1⟩) (Args.N).length Args.cN), (Value.slice (some ⟨1, 0, some 1⟩) (Args.R).length Args.cR), (Value.bool x1_9), (Value.bool x1_10), (Value.int .i64 x1_11), (Value.int .i64 x1_12), (Value.int .i64 x1_13), (Value.int .i64 x1_14), (Value.int .i64 x1_15), (Value.int .i64 x1_16), (Value.int .i64 x1_17)]) 52)))], 4, 0⟩)
noncomputable def X_viewportlaw06MunchScript_1 (x1_0 : List Int) (x1_1 : List Int) (r : (Unit) ⊕ (Unit)) : Ex × XSt := match r with
  | .inl _ => (.ret, (sT 168 [(4, (Value.bool true))], [], ⟨sB [], 0, 0⟩))
  | .inr _ => (.exit 0, (sT 168 [], [], ⟨sB [], 0, 0⟩))
def B_viewportlaw06MunchScript_1 (n : Nat) (x1_0 : List Int) (x1_1 : List Int) (st : Int × Int × Int × Int × Int × Bool × Bool × Bool × Bool × Int × Int × Int × Int × Int × Int × Int × Int) : Option ((Int × Int × Int × Int × Int × Bool × Bool × Bool × Bool × Int × Int × Int × Int × Int × Int × Int × Int) ⊕ ((Unit) ⊕ (Unit))) := match st with
  | (x1_2, x1_3, x1_4, x1_5, x1_6, x1_7, x1_8, x1_9, x1_10, x1_11, x1_12, x1_13, x1_14, x1_15, x1_16, x1_17, x1_18) =>
    if x1_18 < (((Args.L).length : Nat) : Int) then
      if 0 ≤ x1_18 ∧ x1_18 < (((Args.L).length : Nat) : Int) then
        if ((((((Args.L).getD (x1_18).toNat (0, 0, ByteArray.empty)).2.2)).size : Nat) : Int) > (60 : Int) then
          some (.inr (.inl ()))
        else
          (m_viewportkitPick n (((Args.L).getD (x1_18).toNat (0, 0, ByteArray.empty)).1) 3).bind fun y1_4_ =>
          if y1_4_ = (2 : Int) then
            (m_viewportkitPick n (((Args.L).getD (x1_18).toNat (0, 0, ByteArray.empty)).1) 3).bind fun y1_6_ =>
            if y1_6_ = (0 : Int) then
              none
            else
              (m_viewportlaw06MunchScript_2 n x1_0 x1_1 x1_2 x1_8 x1_9 x1_11 x1_15 x1_17 x1_18 200 (x1_3, x1_4, x1_5, x1_6, x1_7, x1_10, x1_12, x1_13, x1_14, x1_16, 0)).bind fun t => match t with
              | (y1_8_0, y1_8_1, y1_8_2, y1_8_3, y1_8_4, y1_8_5, y1_8_6, y1_8_7, y1_8_8, y1_8_9) =>
                (m_munchScannerLexeme n x1_0 x1_1 x1_2 y1_8_0 y1_8_1 y1_8_2 y1_8_3 y1_8_4 x1_8).bind fun t => match t with
                | (y1_9_0, y1_9_1, y1_9_2, y1_9_3, y1_9_4) =>
                  (m_viewportref06ScannerLexeme n x1_9 y1_8_5 x1_11 y1_8_6 y1_8_7 y1_8_8 x1_15 y1_8_9 x1_17).bind fun t => match t with
                  | (y1_10_0, y1_10_1, y1_10_2, y1_10_3, y1_10_4) =>
                    if (!((y1_9_0 == y1_10_0) && ((y1_9_1 == y1_10_1) && ((y1_9_2 == y1_10_2) && ((y1_9_3 == y1_10_3) && true))))) = true then
                      none
                    else
                      if y1_9_4 = true then
                        if y1_10_4 = true then
                          (m_munchScannerExt n x1_0 x1_1 x1_2 y1_8_0 y1_8_1 y1_8_2 y1_8_3 y1_8_4 x1_8).bind fun _ =>
                          (m_viewportref06ScannerExt n x1_9 y1_8_5 x1_11 y1_8_6 y1_8_7 y1_8_8 x1_15 y1_8_9 x1_17).bind fun _ =>
                          if (w64 (x1_2 + y1_8_0)) = (w64 (x1_11 + y1_8_6)) then
                            (m_munchScannerSteps n x1_0 x1_1 x1_2 y1_8_0 y1_8_1 y1_8_2 y1_8_3 y1_8_4 x1_8).bind fun _ =>
                            if y1_8_0 = y1_8_6 then
                              some (.inl (x1_2, y1_8_0, y1_8_1, y1_8_2, y1_8_3, y1_8_4, x1_8, x1_9, y1_8_5, x1_11, y1_8_6, y1_8_7, y1_8_8, x1_15, y1_8_9, x1_17, (w64 (x1_18 + (1 : Int)))))
                            else
                              none
                          else
                            none
                        else
                          none
                      else
                        if y1_10_4 = true then
                          none
                        else
                          (m_munchScannerExt n x1_0 x1_1 x1_2 y1_8_0 y1_8_1 y1_8_2 y1_8_3 y1_8_4 x1_8).bind fun _ =>
                          (m_viewportref06ScannerExt n x1_9 y1_8_5 x1_11 y1_8_6 y1_8_7 y1_8_8 x1_15 y1_8_9 x1_17).bind fun _ =>
                          if (w64 (x1_2 + y1_8_0)) = (w64 (x1_11 + y1_8_6)) then
                            (m_munchScannerSteps n x1_0 x1_1 x1_2 y1_8_0 y1_8_1 y1_8_2 y1_8_3 y1_8_4 x1_8).bind fun _ =>
                            if y1_8_0 = y1_8_6 then
                              some (.inl (x1_2, y1_8_0, y1_8_1, y1_8_2, y1_8_3, y1_8_4, x1_8, x1_9, y1_8_5, x1_11, y1_8_6, y1_8_7, y1_8_8, x1_15, y1_8_9, x1_17, (w64 (x1_18 + (1 : Int)))))
                            else
                              none
                          else
                            none
          else
            (m_viewportkitPick n (((Args.L).getD (x1_18).toNat (0, 0, ByteArray.empty)).1) 3).bind fun y1_6_ =>
            if y1_6_ = (0 : Int) then
              (m_munchScannerBegin n x1_0 x1_1 x1_2 x1_3 x1_4 x1_5 x1_6 x1_7 x1_8 (((Args.L).getD (x1_18).toNat (0, 0, ByteArray.empty)).2.1)).bind fun t => match t with
              | (y1_8_0, y1_8_1, y1_8_2, y1_8_3, y1_8_4, y1_8_5, y1_8_6, y1_8_7) =>
                (m_viewportref06ScannerBegin n x1_9 x1_10 x1_11 x1_12 x1_13 x1_14 x1_15 x1_16 x1_17 (((Args.L).getD (x1_18).toNat (0, 0, ByteArray.empty)).2.1)).bind fun t => match t with
                | (y1_9_0, y1_9_1, y1_9_2, y1_9_3, y1_9_4, y1_9_5, y1_9_6, y1_9_7, y1_9_8, y1_9_9) =>
                  if y1_8_7 = y1_9_9 then
                    (m_viewportlaw06MunchScript_2 n x1_0 x1_1 y1_8_0 y1_8_6 y1_9_0 y1_9_2 y1_9_6 y1_9_8 x1_18 0 (y1_8_1, y1_8_2, y1_8_3, y1_8_4, y1_8_5, y1_9_1, y1_9_3, y1_9_4, y1_9_5, y1_9_7, 0)).bind fun t => match t with
                    | (y1_11_0, y1_11_1, y1_11_2, y1_11_3, y1_11_4, y1_11_5, y1_11_6, y1_11_7, y1_11_8, y1_11_9) =>
                      (m_munchScannerLexeme n x1_0 x1_1 y1_8_0 y1_11_0 y1_11_1 y1_11_2 y1_11_3 y1_11_4 y1_8_6).bind fun t => match t with
                      | (y1_12_0, y1_12_1, y1_12_2, y1_12_3, y1_12_4) =>
                        (m_viewportref06ScannerLexeme n y1_9_0 y1_11_5 y1_9_2 y1_11_6 y1_11_7 y1_11_8 y1_9_6 y1_11_9 y1_9_8).bind fun t => match t with
                        | (y1_13_0, y1_13_1, y1_13_2, y1_13_3, y1_13_4) =>
                          if (!((y1_12_0 == y1_13_0) && ((y1_12_1 == y1_13_1) && ((y1_12_2 == y1_13_2) && ((y1_12_3 == y1_13_3) && true))))) = true then
                            none
                          else
                            if y1_12_4 = true then
                              if y1_13_4 = true then
                                (m_munchScannerExt n x1_0 x1_1 y1_8_0 y1_11_0 y1_11_1 y1_11_2 y1_11_3 y1_11_4 y1_8_6).bind fun _ =>
                                (m_viewportref06ScannerExt n y1_9_0 y1_11_5 y1_9_2 y1_11_6 y1_11_7 y1_11_8 y1_9_6 y1_11_9 y1_9_8).bind fun _ =>
                                if (w64 (y1_8_0 + y1_11_0)) = (w64 (y1_9_2 + y1_11_6)) then
                                  (m_munchScannerSteps n x1_0 x1_1 y1_8_0 y1_11_0 y1_11_1 y1_11_2 y1_11_3 y1_11_4 y1_8_6).bind fun _ =>
                                  if y1_11_0 = y1_11_6 then
                                    some (.inl (y1_8_0, y1_11_0, y1_11_1, y1_11_2, y1_11_3, y1_11_4, y1_8_6, y1_9_0, y1_11_5, y1_9_2, y1_11_6, y1_11_7, y1_11_8, y1_9_6, y1_11_9, y1_9_8, (w64 (x1_18 + (1 : Int)))))
                                  else
                                    none
                                else
                                  none
                              else
                                none
                            else
                              if y1_13_4 = true then
                                none
                              else
                                (m_munchScannerExt n x1_0 x1_1 y1_8_0 y1_11_0 y1_11_1 y1_11_2 y1_11_3 y1_11_4 y1_8_6).bind fun _ =>
                                (m_viewportref06ScannerExt n y1_9_0 y1_11_5 y1_9_2 y1_11_6 y1_11_7 y1_11_8 y1_9_6 y1_11_9 y1_9_8).bind fun _ =>
                                if (w64 (y1_8_0 + y1_11_0)) = (w64 (y1_9_2 + y1_11_6)) then
                                  (m_munchScannerSteps n x1_0 x1_1 y1_8_0 y1_11_0 y1_11_1 y1_11_2 y1_11_3 y1_11_4 y1_8_6).bind fun _ =>
                                  if y1_11_0 = y1_11_6 then
                                    some (.inl (y1_8_0, y1_11_0, y1_11_1, y1_11_2, y1_11_3, y1_11_4, y1_8_6, y1_9_0, y1_11_5, y1_9_2, y1_11_6, y1_11_7, y1_11_8, y1_9_6, y1_11_9, y1_9_8, (w64 (x1_18 + (1 : Int)))))
                                  else
                                    none
                                else
                                  none
                  else
                    none
            else
              (m_viewportlaw06MunchScript_2 n x1_0 x1_1 x1_2 x1_8 x1_9 x1_11 x1_15 x1_17 x1_18 1 (x1_3, x1_4, x1_5, x1_6, x1_7, x1_10, x1_12, x1_13, x1_14, x1_16, 0)).bind fun t => match t with
              | (y1_8_0, y1_8_1, y1_8_2, y1_8_3, y1_8_4, y1_8_5, y1_8_6, y1_8_7, y1_8_8, y1_8_9) =>
                (m_munchScannerLexeme n x1_0 x1_1 x1_2 y1_8_0 y1_8_1 y1_8_2 y1_8_3 y1_8_4 x1_8).bind fun t => match t with
                | (y1_9_0, y1_9_1, y1_9_2, y1_9_3, y1_9_4) =>
                  (m_viewportref06ScannerLexeme n x1_9 y1_8_5 x1_11 y1_8_6 y1_8_7 y1_8_8 x1_15 y1_8_9 x1_17).bind fun t => match t with
                  | (y1_10_0, y1_10_1, y1_10_2, y1_10_3, y1_10_4) =>
                    if (!((y1_9_0 == y1_10_0) && ((y1_9_1 == y1_10_1) && ((y1_9_2 == y1_10_2) && ((y1_9_3 == y1_10_3) && true))))) = true then
                      none
                    else
                      if y1_9_4 = true then
                        if y1_10_4 = true then
                          (m_munchScannerExt n x1_0 x1_1 x1_2 y1_8_0 y1_8_1 y1_8_2 y1_8_3 y1_8_4 x1_8).bind fun _ =>
                          (m_viewportref06ScannerExt n x1_9 y1_8_5 x1_11 y1_8_6 y1_8_7 y1_8_8 x1_15 y1_8_9 x1_17).bind fun _ =>
                          if (w64 (x1_2 + y1_8_0)) = (w64 (x1_11 + y1_8_6)) then
                            (m_munchScannerSteps n x1_0 x1_1 x1_2 y1_8_0 y1_8_1 y1_8_2 y1_8_3 y1_8_4 x1_8).bind fun _ =>
                            if y1_8_0 = y1_8_6 then
                              some (.inl (x1_2, y1_8_0, y1_8_1, y1_8_2, y1_8_3, y1_8_4, x1_8, x1_9, y1_8_5, x1_11, y1_8_6, y1_8_7, y1_8_8, x1_15, y1_8_9, x1_17, (w64 (x1_18 + (1 : Int)))))
                            else
                              none
                          else
                            none
                        else
                          none
                      else
                        if y1_10_4 = true then
                          none
                        else
                          (m_munchScannerExt n x1_0 x1_1 x1_2 y1_8_0 y1_8_1 y1_8_2 y1_8_3 y1_8_4 x1_8).bind fun _ =>
                          (m_viewportref06ScannerExt n x1_9 y1_8_5 x1_11 y1_8_6 y1_8_7 y1_8_8 x1_15 y1_8_9 x1_17).bind fun _ =>
                          if (w64 (x1_2 + y1_8_0)) = (w64 (x1_11 + y1_8_6)) then
                            (m_munchScannerSteps n x1_0 x1_1 x1_2 y1_8_0 y1_8_1 y1_8_2 y1_8_3 y1_8_4 x1_8).bind fun _ =>
                            if y1_8_0 = y1_8_6 then
                              some (.inl (x1_2, y1_8_0, y1_8_1, y1_8_2, y1_8_3, y1_8_4, x1_8, x1_9, y1_8_5, x1_11, y1_8_6, y1_8_7, y1_8_8, x1_15, y1_8_9, x1_17, (w64 (x1_18 + (1 : Int)))))
                            else
                              none
                          else
                            none
      else none
    else
      some (.inr (.inr ()))
def m_viewportlaw06MunchScript_1 (n : Nat) (x1_0 : List Int) (x1_1 : List Int) (st : Int × Int × Int × Int × Int × Bool × Bool × Bool × Bool × Int × Int × Int × Int × Int × Int × Int × Int) : Option ((Unit) ⊕ (Unit)) := iterM (B_viewportlaw06MunchScript_1 n x1_0 x1_1) n st
set_option maxRecDepth 100000 in
theorem q_viewportlaw06MunchScript_1_0 (n : Nat) (x1_0 : List Int) (x1_1 : List Int) (x1_2 : Int) (x1_3 : Int) (x1_4 : Int) (x1_5 : Int) (x1_6 : Int) (x1_7 : Bool) (x1_8 : Bool) (x1_9 : Bool) (x1_10 : Bool) (x1_11 : Int) (x1_12 : Int) (x1_13 : Int) (x1_14 : Int) (x1_15 : Int) (x1_16 : Int) (x1_17 : Int) (x1_18 : Int) (hy1_1 : x1_18 < (((Args.L).length : Nat) : Int)) (hy1_2 : 0 ≤ x1_18 ∧ x1_18 < (((Args.L).length : Nat) : Int)) (hy1_3 : (((((gL x1_18).2.2)).size : Nat) : Int) > (60 : Int)) : CG P none (fnN P 4) 0 (codeOf P 4 [false, false, true, false, true, true, true, true, true, true]) (S_viewportlaw06MunchScript_1 x1_0 x1_1 (x1_2, x1_3, x1_4, x1_5, x1_6, x1_7, x1_8, x1_9, x1_10, x1_11, x1_12, x1_13, x1_14, x1_15, x1_16, x1_17, x1_18)) (X_viewportlaw06MunchScript_1 x1_0 x1_1 (.inl ())) :=
  runC_ok hm (A := aT [(5, .val (.bool true)), (17, .pur (gQ x1_18)), (18, .pur (gP x1_18 2)), (19, .ld (Value.string ((gL x1_18).2.2))), (21, .val (.bool true))]) (L := lT []) (wk := ⟨[4], [], 0, 0⟩)
    (ps := [(Value.bool (decide (x1_18 < (((Args.L).length : Nat) : Int)))) = (Value.bool true),
    gI x1_18,
    opFieldAddr P 44 (gQ x1_18) 2 Ax.h0 = some (gP x1_18 2, Ax.h0),
    loadG P 9 (gP x1_18 2) Ax.h0 = some ((Value.string ((gL x1_18).2.2)), Ax.h0),
    (Value.bool (decide ((((((gL x1_18).2.2)).size : Nat) : Int) > (60 : Int)))) = (Value.bool true)]) (by kernel_rfl) ⟨(vbT hy1_1), (ixW (e := 44) (by kernel_rfl) (by kernel_rfl) (hy1_2).1 (hy1_2).2), (by kernel_rfl), (ldWS rwf_iis (0, 0, ByteArray.empty) (i := (x1_18).toNat) (q := 2) (L := Args.L) (Nat.add ((x1_18).toNat * 3) 2) rfl rfl (by kernel_rfl) (toNatLt hy1_2) (by decide) rfl), (vbT hy1_3), trivial⟩
set_option maxRecDepth 100000 in
theorem q_viewportlaw06MunchScript_1_1 (n : Nat) (x1_0 : List Int) (x1_1 : List Int) (x1_2 : Int) (x1_3 : Int) (x1_4 : Int) (x1_5 : Int) (x1_6 : Int) (x1_7 : Bool) (x1_8 : Bool) (x1_9 : Bool) (x1_10 : Bool) (x1_11 : Int) (x1_12 : Int) (x1_13 : Int) (x1_14 : Int) (x1_15 : Int) (x1_16 : Int) (x1_17 : Int) (x1_18 : Int) (hy1_1 : x1_18 < (((Args.L).length : Nat) : Int)) (hy1_2 : 0 ≤ x1_18 ∧ x1_18 < (((Args.L).length : Nat) : Int)) (hy1_3 : ¬ ((((((gL x1_18).2.2)).size : Nat) : Int) > (60 : Int))) (y1_4_ : Int) (hy1_4 : m_viewportkitPick n ((gL x1_18).1) 3 = some y1_4_) (hy1_5 : y1_4_ = (2 : Int)) (y1_6_ : Int) (hy1_6 : m_viewportkitPick n ((gL x1_18).1) 3 = some y1_6_) (hy1_7 : ¬ (y1_6_ = (0 : Int))) (y1_8_0 : Int) (y1_8_1 : Int) (y1_8_2 : Int) (y1_8_3 : Int) (y1_8_4 : Bool) (y1_8_5 : Bool) (y1_8_6 : Int) (y1_8_7 : Int) (y1_8_8 : Int) (y1_8_9 : Int) (hy1_8 : m_viewportlaw06MunchScript_2 n x1_0 x1_1 x1_2 x1_8 x1_9 x1_11 x1_15 x1_17 x1_18 200 (x1_3, x1_4, x1_5, x1_6, x1_7, x1_10, x1_12, x1_13, x1_14, x1_16, 0) = some (y1_8_0, y1_8_1, y1_8_2, y1_8_3, y1_8_4, y1_8_5, y1_8_6, y1_8_7, y1_8_8, y1_8_9)) (y1_9_0 : Int) (y1_9_1 : Int) (y1_9_2 : Int) (y1_9_3 : Int) (y1_9_4 : Bool) (hy1_9 : m_munchScannerLexeme n x1_0 x1_1 x1_2 y1_8_0 y1_8_1 y1_8_2 y1_8_3 y1_8_4 x1_8 = some (y1_9_0, y1_9_1, y1_9_2, y1_9_3, y1_9_4)) (y1_10_0 : Int) (y1_10_1 : Int) (y1_10_2 : Int) (y1_10_3 : Int) (y1_10_4 : Bool) (hy1_10 : m_viewportref06ScannerLexeme n x1_9 y1_8_5 x1_11 y1_8_6 y1_8_7 y1_8_8 x1_15 y1_8_9 x1_17 = some (y1_10_0, y1_10_1, y1_10_2, y1_10_3, y1_10_4)) (hy1_11 : ¬ ((!((y1_9_0 == y1_10_0) && ((y1_9_1 == y1_10_1) && ((y1_9_2 == y1_10_2) && ((y1_9_3 == y1_10_3) && true))))) = true)) (hy1_12 : y1_9_4 = true) (hy1_13 : y1_10_4 = true) (hy1_14 : m_munchScannerExt n x1_0 x1_1 x1_2 y1_8_0 y1_8_1 y1_8_2 y1_8_3 y1_8_4 x1_8 = some ()) (hy1_15 : m_viewportref06ScannerExt n x1_9 y1_8_5 x1_11 y1_8_6 y1_8_7 y1_8_8 x1_15 y1_8_9 x1_17 = some ()) (hy1_16 : (w64 (x1_2 + y1_8_0)) = (w64 (x1_11 + y1_8_6))) (hy1_17 : m_munchScannerSteps n x1_0 x1_1 x1_2 y1_8_0 y1_8_1 y1_8_2 y1_8_3 y1_8_4 x1_8 = some ()) (hy1_18 : y1_8_0 = y1_8_6) : CG P none (fnN P 4) 0 (codeOf P 4 [false, false, true, false, true, true, true, true, true, true]) (S_viewportlaw06MunchScript_1 x1_0 x1_1 (x1_2, x1_3, x1_4, x1_5, x1_6, x1_7, x1_8, x1_9, x1_10, x1_11, x1_12, x1_13, x1_14, x1_15, x1_16, x1_17, x1_18)) (.normal, S_viewportlaw06MunchScript_1 x1_0 x1_1 (x1_2, y1_8_0, y1_8_1, y1_8_2, y1_8_3, y1_8_4, x1_8, x1_9, y1_8_5, x1_11, y1_8_6, y1_8_7, y1_8_8, x1_15, y1_8_9, x1_17, (w64 (x1_18 + (1 : Int))))) :=
  runC_ok hm (A := aT [(5, .val (.bool true)), (17, .pur (gQ x1_18)), (18, .pur (gP x1_18 2)), (19, .ld (Value.string ((gL x1_18).2.2))), (21, .val (.bool false)), (29, .pur (gQ x1_18)), (30, .pur (gP x1_18 0)), (31, .ld (Value.int .i64 ((gL x1_18).1))), (32, .call ⟨0, [], (V_viewportkitPick ((gL x1_18).1) 3 y1_4_), (R_viewportkitPick ((gL x1_18).1) 3 y1_4_), []⟩), (33, .val (.bool true)), (40, .pur (gQ x1_18)), (41, .pur (gP x1_18 0)), (42, .ld (Value.int .i64 ((gL x1_18).1))), (43, .call ⟨0, [], (V_viewportkitPick ((gL x1_18).1) 3 y1_6_), (R_viewportkitPick ((gL x1_18).1) 3 y1_6_), []⟩), (44, .val (.bool false)), (53, .call ⟨3, [(0, 0, false), (1, 1, true), (2, 2, true)], (V_munchScannerLexeme x1_0 x1_1 x1_2 y1_8_0 y1_8_1 y1_8_2 y1_8_3 y1_8_4 x1_8 (y1_9_0, y1_9_1, y1_9_2, y1_9_3, y1_9_4)), (R_munchScannerLexeme x1_0 x1_1 x1_2 y1_8_0 y1_8_1 y1_8_2 y1_8_3 y1_8_4 x1_8 (y1_9_0, y1_9_1, y1_9_2, y1_9_3, y1_9_4)), [(4, 3, false)]⟩), (62, .call ⟨1, [(0, 3, false)], (V_viewportref06ScannerLexeme x1_9 y1_8_5 x1_11 y1_8_6 y1_8_7 y1_8_8 x1_15 y1_8_9 x1_17 (y1_10_0, y1_10_1, y1_10_2, y1_10_3, y1_10_4)), (R_viewportref06ScannerLexeme x1_9 y1_8_5 x1_11 y1_8_6 y1_8_7 y1_8_8 x1_15 y1_8_9 x1_17 (y1_10_0, y1_10_1, y1_10_2, y1_10_3, y1_10_4)), [(6, 1, false)]⟩), (73, .val (.bool false)), (76, .val (.bool false)), (80, .call ⟨3, [(0, 0, false), (1, 1, true), (2, 2, true)], (V_munchScannerExt x1_0 x1_1 x1_2 y1_8_0 y1_8_1 y1_8_2 y1_8_3 y1_8_4 x1_8 ()), (R_munchScannerExt x1_0 x1_1 x1_2 y1_8_0 y1_8_1 y1_8_2 y1_8_3 y1_8_4 x1_8 ()), []⟩), (82, .call ⟨1, [(0, 3, false)], (V_viewportref06ScannerExt x1_9 y1_8_5 x1_11 y1_8_6 y1_8_7 y1_8_8 x1_15 y1_8_9 x1_17 ()), (R_viewportref06ScannerExt x1_9 y1_8_5 x1_11 y1_8_6 y1_8_7 y1_8_8 x1_15 y1_8_9 x1_17 ()), []⟩), (83, .val (.bool false)), (87, .call ⟨3, [(0, 0, false), (1, 1, true), (2, 2, true)], (V_munchScannerSteps x1_0 x1_1 x1_2 y1_8_0 y1_8_1 y1_8_2 y1_8_3 y1_8_4 x1_8 ()), (R_munchScannerSteps x1_0 x1_1 x1_2 y1_8_0 y1_8_1 y1_8_2 y1_8_3 y1_8_4 x1_8 ()), []⟩), (92, .val (.bool false))]) (L := lT [(50, ⟨⟨[1, 5, 7, 9, 10, 11], [(0, 0, false), (1, 1, true), (2, 2, true), (3, 3, false)], 4, 0⟩, (X_viewportlaw06MunchScript_2 x1_0 x1_1 x1_2 x1_8 x1_9 x1_11 x1_15 x1_17 x1_18 200 (y1_8_0, y1_8_1, y1_8_2, y1_8_3, y1_8_4, y1_8_5, y1_8_6, y1_8_7, y1_8_8, y1_8_9)).1, (X_viewportlaw06MunchScript_2 x1_0 x1_1 x1_2 x1_8 x1_9 x1_11 x1_15 x1_17 x1_18 200 (y1_8_0, y1_8_1, y1_8_2, y1_8_3, y1_8_4, y1_8_5, y1_8_6, y1_8_7, y1_8_8, y1_8_9)).2⟩)]) (wk := ⟨[1, 5, 7, 9], [(0, 0, false), (1, 1, true), (2, 2, true), (3, 3, false)], 4, 0⟩)
    (ps := [(Value.bool (decide (x1_18 < (((Args.L).length : Nat) : Int)))) = (Value.bool true),
    gI x1_18,
    opFieldAddr P 44 (gQ x1_18) 2 Ax.h0 = some (gP x1_18 2, Ax.h0),
    loadG P 9 (gP x1_18 2) Ax.h0 = some ((Value.string ((gL x1_18).2.2)), Ax.h0),
    (Value.bool (decide ((((((gL x1_18).2.2)).size : Nat) : Int) > (60 : Int)))) = (Value.bool false),
    gI x1_18,
    opFieldAddr P 44 (gQ x1_18) 0 Ax.h0 = some (gP x1_18 0, Ax.h0),
    loadG P 3 (gP x1_18 0) Ax.h0 = some ((Value.int .i64 ((gL x1_18).1)), Ax.h0),
    G_viewportkitPick ((gL x1_18).1) 3 y1_4_,
    (Value.bool (y1_4_ == (2 : Int))) = (Value.bool true),
    gI x1_18,
    opFieldAddr P 44 (gQ x1_18) 0 Ax.h0 = some (gP x1_18 0, Ax.h0),
    loadG P 3 (gP x1_18 0) Ax.h0 = some ((Value.int .i64 ((gL x1_18).1)), Ax.h0),
    G_viewportkitPick ((gL x1_18).1) 3 y1_6_,
    (Value.bool (y1_6_ == (0 : Int))) = (Value.bool false),
    CG P none (fnN P 4) 0 (codeOf P 4 [false, true, false, true, true, true, true, false, false, true, false, false, true, false, true, true, true, true, true, true]) (S_viewportlaw06MunchScript_2 x1_0 x1_1 x1_2 x1_8 x1_9 x1_11 x1_15 x1_17 x1_18 200 (x1_3, x1_4, x1_5, x1_6, x1_7, x1_10, x1_12, x1_13, x1_14, x1_16, 0)) (X_viewportlaw06MunchScript_2 x1_0 x1_1 x1_2 x1_8 x1_9 x1_11 x1_15 x1_17 x1_18 200 (y1_8_0, y1_8_1, y1_8_2, y1_8_3, y1_8_4, y1_8_5, y1_8_6, y1_8_7, y1_8_8, y1_8_9)),
    FlatB (.cells (layT (iv x1_0)) 3),
    FlatB (.cells (layT (iv x1_1)) 3),
    G_munchScannerLexeme x1_0 x1_1 x1_2 y1_8_0 y1_8_1 y1_8_2 y1_8_3 y1_8_4 x1_8 (y1_9_0, y1_9_1, y1_9_2, y1_9_3, y1_9_4),
    FlatB (.cells (layT (iv x1_0)) 3),
    FlatB (.cells (layT (iv x1_1)) 3),
    G_viewportref06ScannerLexeme x1_9 y1_8_5 x1_11 y1_8_6 y1_8_7 y1_8_8 x1_15 y1_8_9 x1_17 (y1_10_0, y1_10_1, y1_10_2, y1_10_3, y1_10_4),
    (Value.bool (!((y1_9_0 == y1_10_0) && ((y1_9_1 == y1_10_1) && ((y1_9_2 == y1_10_2) && ((y1_9_3 == y1_10_3) && true)))))) = (Value.bool false),
    (Value.bool (!(y1_9_4 == y1_10_4))) = (Value.bool false),
    G_munchScannerExt x1_0 x1_1 x1_2 y1_8_0 y1_8_1 y1_8_2 y1_8_3 y1_8_4 x1_8 (),
    FlatB (.cells (layT (iv x1_0)) 3),
    FlatB (.cells (layT (iv x1_1)) 3),
    G_viewportref06ScannerExt x1_9 y1_8_5 x1_11 y1_8_6 y1_8_7 y1_8_8 x1_15 y1_8_9 x1_17 (),
    (Value.bool ((w64 (x1_2 + y1_8_0)) != (w64 (x1_11 + y1_8_6)))) = (Value.bool false),
    G_munchScannerSteps x1_0 x1_1 x1_2 y1_8_0 y1_8_1 y1_8_2 y1_8_3 y1_8_4 x1_8 (),
    FlatB (.cells (layT (iv x1_0)) 3),
    FlatB (.cells (layT (iv x1_1)) 3),
    (Value.bool (y1_8_0 != y1_8_6)) = (Value.bool false),
    FlatB (.cells (layT (iv x1_0)) 3),
    FlatB (.cells (layT (iv x1_1)) 3)]) (by kernel_rfl) ⟨(vbT hy1_1), (ixW (e := 44) (by kernel_rfl) (by kernel_rfl) (hy1_2).1 (hy1_2).2), (by kernel_rfl), (ldWS rwf_iis (0, 0, ByteArray.empty) (i := (x1_18).toNat) (q := 2) (L := Args.L) (Nat.add ((x1_18).toNat * 3) 2) rfl rfl (by kernel_rfl) (toNatLt hy1_2) (by decide) rfl), (vbF hy1_3), (ixW (e := 44) (by kernel_rfl) (by kernel_rfl) (hy1_2).1 (hy1_2).2), (by kernel_rfl), (ldWS rwf_iis (0, 0, ByteArray.empty) (i := (x1_18).toNat) (q := 0) (L := Args.L) (Nat.add ((x1_18).toNat * 3) 0) rfl rfl (by kernel_rfl) (toNatLt hy1_2) (by decide) rfl), (m_viewportkitPick_ok n ((gL x1_18).1) 3 y1_4_ hy1_4), (veT hy1_5), (ixW (e := 44) (by kernel_rfl) (by kernel_rfl) (hy1_2).1 (hy1_2).2), (by kernel_rfl), (ldWS rwf_iis (0, 0, ByteArray.empty) (i := (x1_18).toNat) (q := 0) (L := Args.L) (Nat.add ((x1_18).toNat * 3) 0) rfl rfl (by kernel_rfl) (toNatLt hy1_2) (by decide) rfl), (m_viewportkitPick_ok n ((gL x1_18).1) 3 y1_6_ hy1_6), (veF hy1_7), (m_viewportlaw06MunchScript_2_ok n x1_0 x1_1 x1_2 x1_8 x1_9 x1_11 x1_15 x1_17 x1_18 200 (x1_3, x1_4, x1_5, x1_6, x1_7, x1_10, x1_12, x1_13, x1_14, x1_16, 0) (y1_8_0, y1_8_1, y1_8_2, y1_8_3, y1_8_4, y1_8_5, y1_8_6, y1_8_7, y1_8_8, y1_8_9) hy1_8), (iv_flat _ _), (iv_flat _ _), (m_munchScannerLexeme_ok n x1_0 x1_1 x1_2 y1_8_0 y1_8_1 y1_8_2 y1_8_3 y1_8_4 x1_8 (y1_9_0, y1_9_1, y1_9_2, y1_9_3, y1_9_4) hy1_9), (iv_flat _ _), (iv_flat _ _), (m_viewportref06ScannerLexeme_ok n x1_9 y1_8_5 x1_11 y1_8_6 y1_8_7 y1_8_8 x1_15 y1_8_9 x1_17 (y1_10_0, y1_10_1, y1_10_2, y1_10_3, y1_10_4) hy1_10), (vB (Bool.eq_false_iff.2 hy1_11)), (vNeB hy1_12 hy1_13), (m_munchScannerExt_ok n x1_0 x1_1 x1_2 y1_8_0 y1_8_1 y1_8_2 y1_8_3 y1_8_4 x1_8 () hy1_14), (iv_flat _ _), (iv_flat _ _), (m_viewportref06ScannerExt_ok n x1_9 y1_8_5 x1_11 y1_8_6 y1_8_7 y1_8_8 x1_15 y1_8_9 x1_17 () hy1_15), (vnF hy1_16), (m_munchScannerSteps_ok n x1_0 x1_1 x1_2 y1_8_0 y1_8_1 y1_8_2 y1_8_3 y1_8_4 x1_8 () hy1_17), (iv_flat _ _), (iv_flat _ _), (vnF hy1_18), (iv_flat _ _), (iv_flat _ _), trivial⟩
set_option maxRecDepth 100000 in
theorem q_viewportlaw06MunchScript_1_2 (n : Nat) (x1_0 : List Int) (x1_1 : List Int) (x1_2 : Int) (x1_3 : Int) (x1_4 : Int) (x1_5 : Int) (x1_6 : Int) (x1_7 : Bool) (x1_8 : Bool) (x1_9 : Bool) (x1_10 : Bool) (x1_11 : Int) (x1_12 : Int) (x1_13 : Int) (x1_14 : Int) (x1_15 : Int) (x1_16 : Int) (x1_17 : Int) (x1_18 : Int) (hy1_1 : x1_18 < (((Args.L).length : Nat) : Int)) (hy1_2 : 0 ≤ x1_18 ∧ x1_18 < (((Args.L).length : Nat) : Int)) (hy1_3 : ¬ ((((((gL x1_18).2.2)).size : Nat) : Int) > (60 : Int))) (y1_4_ : Int) (hy1_4 : m_viewportkitPick n ((gL x1_18).1) 3 = some y1_4_) (hy1_5 : y1_4_ = (2 : Int)) (y1_6_ : Int) (hy1_6 : m_viewportkitPick n ((gL x1_18).1) 3 = some y1_6_) (hy1_7 : ¬ (y1_6_ = (0 : Int))) (y1_8_0 : Int) (y1_8_1 : Int) (y1_8_2 : Int) (y1_8_3 : Int) (y1_8_4 : Bool) (y1_8_5 : Bool) (y1_8_6 : Int) (y1_8_7 : Int) (y1_8_8 : Int) (y1_8_9 : Int) (hy1_8 : m_viewportlaw06MunchScript_2 n x1_0 x1_1 x1_2 x1_8 x1_9 x1_11 x1_15 x1_17 x1_18 200 (x1_3, x1_4, x1_5, x1_6, x1_7, x1_10, x1_12, x1_13, x1_14, x1_16, 0) = some (y1_8_0, y1_8_1, y1_8_2, y1_8_3, y1_8_4, y1_8_5, y1_8_6, y1_8_7, y1_8_8, y1_8_9)) (y1_9_0 : Int) (y1_9_1 : Int) (y1_9_2 : Int) (y1_9_3 : Int) (y1_9_4 : Bool) (hy1_9 : m_munchScannerLexeme n x1_0 x1_1 x1_2 y1_8_0 y1_8_1 y1_8_2 y1_8_3 y1_8_4 x1_8 = some (y1_9_0, y1_9_1, y1_9_2, y1_9_3, y1_9_4)) (y1_10_0 : Int) (y1_10_1 : Int) (y1_10_2 : Int) (y1_10_3 : Int) (y1_10_4 : Bool) (hy1_10 : m_viewportref06ScannerLexeme n x1_9 y1_8_5 x1_11 y1_8_6 y1_8_7 y1_8_8 x1_15 y1_8_9 x1_17 = some (y1_10_0, y1_10_1, y1_10_2, y1_10_3, y1_10_4)) (hy1_11 : ¬ ((!((y1_9_0 == y1_10_0) && ((y1_9_1 == y1_10_1) && ((y1_9_2 == y1_10_2) && ((y1_9_3 == y1_10_3) && true))))) = true)) (hy1_12 : ¬ (y1_9_4 = true)) (hy1_13 : ¬ (y1_10_4 = true)) (hy1_14 : m_munchScannerExt n x1_0 x1_1 x1_2 y1_8_0 y1_8_1 y1_8_2 y1_8_3 y1_8_4 x1_8 = some ()) (hy1_15 : m_viewportref06ScannerExt n x1_9 y1_8_5 x1_11 y1_8_6 y1_8_7 y1_8_8 x1_15 y1_8_9 x1_17 = some ()) (hy1_16 : (w64 (x1_2 + y1_8_0)) = (w64 (x1_11 + y1_8_6))) (hy1_17 : m_munchScannerSteps n x1_0 x1_1 x1_2 y1_8_0 y1_8_1 y1_8_2 y1_8_3 y1_8_4 x1_8 = some ()) (hy1_18 : y1_8_0 = y1_8_6) : CG P none (fnN P 4) 0 (codeOf P 4 [false, false, true, false, true, true, true, true, true, true]) (S_viewportlaw06MunchScript_1 x1_0 x1_1 (x1_2, x1_3, x1_4, x1_5, x1_6, x1_7, x1_8, x1_9, x1_10, x1_11, x1_12, x1_13, x1_14, x1_15, x1_16, x1_17, x1_18)) (.normal, S_viewportlaw06MunchScript_1 x1_0 x1_1 (x1_2, y1_8_0, y1_8_1, y1_8_2, y1_8_3, y1_8_4, x1_8, x1_9, y1_8_5, x1_11, y1_8_6, y1_8_7, y1_8_8, x1_15, y1_8_9, x1_17, (w64 (x1_18 + (1 : Int))))) :=
  runC_ok hm (A := aT [(5, .val (.bool true)), (17, .pur (gQ x1_18)), (18, .pur (gP x1_18 2)), (19, .ld (Value.string ((gL x1_18).2.2))), (21, .val (.bool false)), (29, .pur (gQ x1_18)), (30, .pur (gP x1_18 0)), (31, .ld (Value.int .i64 ((gL x1_18).1))), (32, .call ⟨0, [], (V_viewportkitPick ((gL x1_18).1) 3 y1_4_), (R_viewportkitPick ((gL x1_18).1) 3 y1_4_), []⟩), (33, .val (.bool true)), (40, .pur (gQ x1_18)), (41, .pur (gP x1_18 0)), (42, .ld (Value.int .i64 ((gL x1_18).1))), (43, .call ⟨0, [], (V_viewportkitPick ((gL x1_18).1) 3 y1_6_), (R_viewportkitPick ((gL x1_18).1) 3 y1_6_), []⟩), (44, .val (.bool false)), (53, .call ⟨3, [(0, 0, false), (1, 1, true), (2, 2, true)], (V_munchScannerLexeme x1_0 x1_1 x1_2 y1_8_0 y1_8_1 y1_8_2 y1_8_3 y1_8_4 x1_8 (y1_9_0, y1_9_1, y1_9_2, y1_9_3, y1_9_4)), (R_munchScannerLexeme x1_0 x1_1 x1_2 y1_8_0 y1_8_1 y1_8_2 y1_8_3 y1_8_4 x1_8 (y1_9_0, y1_9_1, y1_9_2, y1_9_3, y1_9_4)), [(4, 3, false)]⟩), (62, .call ⟨1, [(0, 3, false)], (V_viewportref06ScannerLexeme x1_9 y1_8_5 x1_11 y1_8_6 y1_8_7 y1_8_8 x1_15 y1_8_9 x1_17 (y1_10_0, y1_10_1, y1_10_2, y1_10_3, y1_10_4)), (R_viewportref06ScannerLexeme x1_9 y1_8_5 x1_11 y1_8_6 y1_8_7 y1_8_8 x1_15 y1_8_9 x1_17 (y1_10_0, y1_10_1, y1_10_2, y1_10_3, y1_10_4)), [(6, 1, false)]⟩), (73, .val (.bool false)), (76, .val (.bool false)), (80, .call ⟨3, [(0, 0, false), (1, 1, true), (2, 2, true)], (V_munchScannerExt x1_0 x1_1 x1_2 y1_8_0 y1_8_1 y1_8_2 y1_8_3 y1_8_4 x1_8 ()), (R_munchScannerExt x1_0 x1_1 x1_2 y1_8_0 y1_8_1 y1_8_2 y1_8_3 y1_8_4 x1_8 ()), []⟩), (82, .call ⟨1, [(0, 3, false)], (V_viewportref06ScannerExt x1_9 y1_8_5 x1_11 y1_8_6 y1_8_7 y1_8_8 x1_15 y1_8_9 x1_17 ()), (R_viewportref06ScannerExt x1_9 y1_8_5 x1_11 y1_8_6 y1_8_7 y1_8_8 x1_15 y1_8_9 x1_17 ()), []⟩), (83, .val (.bool false)), (87, .call ⟨3, [(0, 0, false), (1, 1, true), (2, 2, true)], (V_munchScannerSteps x1_0 x1_1 x1_2 y1_8_0 y1_8_1 y1_8_2 y1_8_3 y1_8_4 x1_8 ()), (R_munchScannerSteps x1_0 x1_1 x1_2 y1_8_0 y1_8_1 y1_8_2 y1_8_3 y1_8_4 x1_8 ()), []⟩), (92, .val (.bool false))]) (L := lT [(50, ⟨⟨[1, 5, 7, 9, 10, 11], [(0, 0, false), (1, 1, true), (2, 2, true), (3, 3, false)], 4, 0⟩, (X_viewportlaw06MunchScript_2 x1_0 x1_1 x1_2 x1_8 x1_9 x1_11 x1_15 x1_17 x1_18 200 (y1_8_0, y1_8_1, y1_8_2, y1_8_3, y1_8_4, y1_8_5, y1_8_6, y1_8_7, y1_8_8, y1_8_9)).1, (X_viewportlaw06MunchScript_2 x1_0 x1_1 x1_2 x1_8 x1_9 x1_11 x1_15 x1_17 x1_18 200 (y1_8_0, y1_8_1, y1_8_2, y1_8_3, y1_8_4, y1_8_5, y1_8_6, y1_8_7, y1_8_8, y1_8_9)).2⟩)]) (wk := ⟨[1, 5, 7, 9], [(0, 0, false), (1, 1, true), (2, 2, true), (3, 3, false)], 4, 0⟩)
    (ps := [(Value.bool (decide (x1_18 < (((Args.L).length : Nat) : Int)))) = (Value.bool true),
    gI x1_18,
    opFieldAddr P 44 (gQ x1_18) 2 Ax.h0 = some (gP x1_18 2, Ax.h0),
    loadG P 9 (gP x1_18 2) Ax.h0 = some ((Value.string ((gL x1_18).2.2)), Ax.h0),
    (Value.bool (decide ((((((gL x1_18).2.2)).size : Nat) : Int) > (60 : Int)))) = (Value.bool false),
    gI x1_18,
    opFieldAddr P 44 (gQ x1_18) 0 Ax.h0 = some (gP x1_18 0, Ax.h0),
    loadG P 3 (gP x1_18 0) Ax.h0 = some ((Value.int .i64 ((gL x1_18).1)), Ax.h0),
    G_viewportkitPick ((gL x1_18).1) 3 y1_4_,
    (Value.bool (y1_4_ == (2 : Int))) = (Value.bool true),
    gI x1_18,
    opFieldAddr P 44 (gQ x1_18) 0 Ax.h0 = some (gP x1_18 0, Ax.h0),
    loadG P 3 (gP x1_18 0) Ax.h0 = some ((Value.int .i64 ((gL x1_18).1)), Ax.h0),
    G_viewportkitPick ((gL x1_18).1) 3 y1_6_,
    (Value.bool (y1_6_ == (0 : Int))) = (Value.bool false),
    CG P none (fnN P 4) 0 (codeOf P 4 [false, true, false, true, true, true, true, false, false, true, false, false, true, false, true, true, true, true, true, true]) (S_viewportlaw06MunchScript_2 x1_0 x1_1 x1_2 x1_8 x1_9 x1_11 x1_15 x1_17 x1_18 200 (x1_3, x1_4, x1_5, x1_6, x1_7, x1_10, x1_12, x1_13, x1_14, x1_16, 0)) (X_viewportlaw06MunchScript_2 x1_0 x1_1 x1_2 x1_8 x1_9 x1_11 x1_15 x1_17 x1_18 200 (y1_8_0, y1_8_1, y1_8_2, y1_8_3, y1_8_4, y1_8_5, y1_8_6, y1_8_7, y1_8_8, y1_8_9)),
    FlatB (.cells (layT (iv x1_0)) 3),
    FlatB (.cells (layT (iv x1_1)) 3),
    G_munchScannerLexeme x1_0 x1_1 x1_2 y1_8_0 y1_8_1 y1_8_2 y1_8_3 y1_8_4 x1_8 (y1_9_0, y1_9_1, y1_9_2, y1_9_3, y1_9_4),
    FlatB (.cells (layT (iv x1_0)) 3),
    FlatB (.cells (layT (iv x1_1)) 3),
    G_viewportref06ScannerLexeme x1_9 y1_8_5 x1_11 y1_8_6 y1_8_7 y1_8_8 x1_15 y1_8_9 x1_17 (y1_10_0, y1_10_1, y1_10_2, y1_10_3, y1_10_4),
    (Value.bool (!((y1_9_0 == y1_10_0) && ((y1_9_1 == y1_10_1) && ((y1_9_2 == y1_10_2) && ((y1_9_3 == y1_10_3) && true)))))) = (Value.bool false),
    (Value.bool (!(y1_9_4 == y1_10_4))) = (Value.bool false),
    G_munchScannerExt x1_0 x1_1 x1_2 y1_8_0 y1_8_1 y1_8_2 y1_8_3 y1_8_4 x1_8 (),
    FlatB (.cells (layT (iv x1_0)) 3),
    FlatB (.cells (layT (iv x1_1)) 3),
    G_viewportref06ScannerExt x1_9 y1_8_5 x1_11 y1_8_6 y1_8_7 y1_8_8 x1_15 y1_8_9 x1_17 (),
    (Value.bool ((w64 (x1_2 + y1_8_0)) != (w64 (x1_11 + y1_8_6)))) = (Value.bool false),
    G_munchScannerSteps x1_0 x1_1 x1_2 y1_8_0 y1_8_1 y1_8_2 y1_8_3 y1_8_4 x1_8 (),
    FlatB (.cells (layT (iv x1_0)) 3),
    FlatB (.cells (layT (iv x1_1)) 3),
    (Value.bool (y1_8_0 != y1_8_6)) = (Value.bool false),
    FlatB (.cells (layT (iv x1_0)) 3),
    FlatB (.cells (layT (iv x1_1)) 3)]) (by kernel_rfl) ⟨(vbT hy1_1), (ixW (e := 44) (by kernel_rfl) (by kernel_rfl) (hy1_2).1 (hy1_2).2), (by kernel_rfl), (ldWS rwf_iis (0, 0, ByteArray.empty) (i := (x1_18).toNat) (q := 2) (L := Args.L) (Nat.add ((x1_18).toNat * 3) 2) rfl rfl (by kernel_rfl) (toNatLt hy1_2) (by decide) rfl), (vbF hy1_3), (ixW (e := 44) (by kernel_rfl) (by kernel_rfl) (hy1_2).1 (hy1_2).2), (by kernel_rfl), (ldWS rwf_iis (0, 0, ByteArray.empty) (i := (x1_18).toNat) (q := 0) (L := Args.L) (Nat.add ((x1_18).toNat * 3) 0) rfl rfl (by kernel_rfl) (toNatLt hy1_2) (by decide) rfl), (m_viewportkitPick_ok n ((gL x1_18).1) 3 y1_4_ hy1_4), (veT hy1_5), (ixW (e := 44) (by kernel_rfl) (by kernel_rfl) (hy1_2).1 (hy1_2).2), (by kernel_rfl), (ldWS rwf_iis (0, 0, ByteArray.empty) (i := (x1_18).toNat) (q := 0) (L := Args.L) (Nat.add ((x1_18).toNat * 3) 0) rfl rfl (by kernel_rfl) (toNatLt hy1_2) (by decide) rfl), (m_viewportkitPick_ok n ((gL x1_18).1) 3 y1_6_ hy1_6), (veF hy1_7), (m_viewportlaw06MunchScript_2_ok n x1_0 x1_1 x1_2 x1_8 x1_9 x1_11 x1_15 x1_17 x1_18 200 (x1_3, x1_4, x1_5, x1_6, x1_7, x1_10, x1_12, x1_13, x1_14, x1_16, 0) (y1_8_0, y1_8_1, y1_8_2, y1_8_3, y1_8_4, y1_8_5, y1_8_6, y1_8_7, y1_8_8, y1_8_9) hy1_8), (iv_flat _ _), (iv_flat _ _), (m_munchScannerLexeme_ok n x1_0 x1_1 x1_2 y1_8_0 y1_8_1 y1_8_2 y1_8_3 y1_8_4 x1_8 (y1_9_0, y1_9_1, y1_9_2, y1_9_3, y1_9_4) hy1_9), (iv_flat _ _), (iv_flat _ _), (m_viewportref06ScannerLexeme_ok n x1_9 y1_8_5 x1_11 y1_8_6 y1_8_7 y1_8_8 x1_15 y1_8_9 x1_17 (y1_10_0, y1_10_1, y1_10_2, y1_10_3, y1_10_4) hy1_10), (vB (Bool.eq_false_iff.2 hy1_11)), (vNeB (Bool.eq_false_iff.2 hy1_12) (Bool.eq_false_iff.2 hy1_13)), (m_munchScannerExt_ok n x1_0 x1_1 x1_2 y1_8_0 y1_8_1 y1_8_2 y1_8_3 y1_8_4 x1_8 () hy1_14), (iv_flat _ _), (iv_flat _ _), (m_viewportref06ScannerExt_ok n x1_9 y1_8_5 x1_11 y1_8_6 y1_8_7 y1_8_8 x1_15 y1_8_9 x1_17 () hy1_15), (vnF hy1_16), (m_munchScannerSteps_ok n x1_0 x1_1 x1_2 y1_8_0 y1_8_1 y1_8_2 y1_8_3 y1_8_4 x1_8 () hy1_17), (iv_flat _ _), (iv_flat _ _), (vnF hy1_18), (iv_flat _ _), (iv_flat _ _), trivial⟩
set_option maxRecDepth 100000 in
theorem q_viewportlaw06MunchScript_1_3 (n : Nat) (x1_0 : List Int) (x1_1 : List Int) (x1_2 : Int) (x1_3 : Int) (x1_4 : Int) (x1_5 : Int) (x1_6 : Int) (x1_7 : Bool) (x1_8 : Bool) (x1_9 : Bool) (x1_10 : Bool) (x1_11 : Int) (x1_12 : Int) (x1_13 : Int) (x1_14 : Int) (x1_15 : Int) (x1_16 : Int) (x1_17 : Int) (x1_18 : Int) (hy1_1 : x1_18 < (((Args.L).length : Nat) : Int)) (hy1_2 : 0 ≤ x1_18 ∧ x1_18 < (((Args.L).length : Nat) : Int)) (hy1_3 : ¬ ((((((gL x1_18).2.2)).size : Nat) : Int) > (60 : Int))) (y1_4_ : Int) (hy1_4 : m_viewportkitPick n ((gL x1_18).1) 3 = some y1_4_) (hy1_5 : ¬ (y1_4_ = (2 : Int))) (y1_6_ : Int) (hy1_6 : m_viewportkitPick n ((gL x1_18).1) 3 = some y1_6_) (hy1_7 : y1_6_ = (0 : Int)) (y1_8_0 : Int) (y1_8_1 : Int) (y1_8_2 : Int) (y1_8_3 : Int) (y1_8_4 : Int) (y1_8_5 : Bool) (y1_8_6 : Bool) (y1_8_7 : Int) (hy1_8 : m_munchScannerBegin n x1_0 x1_1 x1_2 x1_3 x1_4 x1_5 x1_6 x1_7 x1_8 ((gL x1_18).2.1) = some (y1_8_0, y1_8_1, y1_8_2, y1_8_3, y1_8_4, y1_8_5, y1_8_6, y1_8_7)) (y1_9_0 : Bool) (y1_9_1 : Bool) (y1_9_2 : Int) (y1_9_3 : Int) (y1_9_4 : Int) (y1_9_5 : Int) (y1_9_6 : Int) (y1_9_7 : Int) (y1_9_8 : Int) (y1_9_9 : Int) (hy1_9 : m_viewportref06ScannerBegin n x1_9 x1_10 x1_11 x1_12 x1_13 x1_14 x1_15 x1_16 x1_17 ((gL x1_18).2.1) = some (y1_9_0, y1_9_1, y1_9_2, y1_9_3, y1_9_4, y1_9_5, y1_9_6, y1_9_7, y1_9_8, y1_9_9)) (hy1_10 : y1_8_7 = y1_9_9) (y1_11_0 : Int) (y1_11_1 : Int) (y1_11_2 : Int) (y1_11_3 : Int) (y1_11_4 : Bool) (y1_11_5 : Bool) (y1_11_6 : Int) (y1_11_7 : Int) (y1_11_8 : Int) (y1_11_9 : Int) (hy1_11 : m_viewportlaw06MunchScript_2 n x1_0 x1_1 y1_8_0 y1_8_6 y1_9_0 y1_9_2 y1_9_6 y1_9_8 x1_18 0 (y1_8_1, y1_8_2, y1_8_3, y1_8_4, y1_8_5, y1_9_1, y1_9_3, y1_9_4, y1_9_5, y1_9_7, 0) = some (y1_11_0, y1_11_1, y1_11_2, y1_11_3, y1_11_4, y1_11_5, y1_11_6, y1_11_7, y1_11_8, y1_11_9)) (y1_12_0 : Int) (y1_12_1 : Int) (y1_12_2 : Int) (y1_12_3 : Int) (y1_12_4 : Bool) (hy1_12 : m_munchScannerLexeme n x1_0 x1_1 y1_8_0 y1_11_0 y1_11_1 y1_11_2 y1_11_3 y1_11_4 y1_8_6 = some (y1_12_0, y1_12_1, y1_12_2, y1_12_3, y1_12_4)) (y1_13_0 : Int) (y1_13_1 : Int) (y1_13_2 : Int) (y1_13_3 : Int) (y1_13_4 : Bool) (hy1_13 : m_viewportref06ScannerLexeme n y1_9_0 y1_11_5 y1_9_2 y1_11_6 y1_11_7 y1_11_8 y1_9_6 y1_11_9 y1_9_8 = some (y1_13_0, y1_13_1, y1_13_2, y1_13_3, y1_13_4)) (hy1_14 : ¬ ((!((y1_12_0 == y1_13_0) && ((y1_12_1 == y1_13_1) && ((y1_12_2 == y1_13_2) && ((y1_12_3 == y1_13_3) && true))))) = true)) (hy1_15 : y1_12_4 = true) (hy1_16 : y1_13_4 = true) (hy1_17 : m_munchScannerExt n x1_0 x1_1 y1_8_0 y1_11_0 y1_11_1 y1_11_2 y1_11_3 y1_11_4 y1_8_6 = some ()) (hy1_18 : m_viewportref06ScannerExt n y1_9_0 y1_11_5 y1_9_2 y1_11_6 y1_11_7 y1_11_8 y1_9_6 y1_11_9 y1_9_8 = some ()) (hy1_19 : (w64 (y1_8_0 + y1_11_0)) = (w64 (y1_9_2 + y1_11_6))) (hy1_20 : m_munchScannerSteps n x1_0 x1_1 y1_8_0 y1_11_0 y1_11_1 y1_11_2 y1_11_3 y1_11_4 y1_8_6 = some ()) (hy1_21 : y1_11_0 = y1_11_6) : CG P none (fnN P 4) 0 (codeOf P 4 [false, false, true, false, true, true, true, true, true, true]) (S_viewportlaw06MunchScript_1 x1_0 x1_1 (x1_2, x1_3, x1_4, x1_5, x1_6, x1_7, x1_8, x1_9, x1_10, x1_11, x1_12, x1_13, x1_14, x1_15, x1_16, x1_17, x1_18)) (.normal, S_viewportlaw06MunchScript_1 x1_0 x1_1 (y1_8_0, y1_11_0, y1_11_1, y1_11_2, y1_11_3, y1_11_4, y1_8_6, y1_9_0, y1_11_5, y1_9_2, y1_11_6, y1_11_7, y1_11_8, y1_9_6, y1_11_9, y1_9_8, (w64 (x1_18 + (1 : Int))))) :=
  runC_ok hm (A := aT [(5, .val (.bool true)), (17, .pur (gQ x1_18)), (18, .pur (gP x1_18 2)), (19, .ld (Value.string ((gL x1_18).2.2))), (21, .val (.bool false)), (29, .pur (gQ x1_18)), (30, .pur (gP x1_18 0)), (31, .ld (Value.int .i64 ((gL x1_18).1))), (32, .call ⟨0, [], (V_viewportkitPick ((gL x1_18).1) 3 y1_4_), (R_viewportkitPick ((gL x1_18).1) 3 y1_4_), []⟩), (33, .val (.bool false)), (39, .pur (gQ x1_18)), (40, .pur (gP x1_18 0)), (41, .ld (Value.int .i64 ((gL x1_18).1))), (42, .call ⟨0, [], (V_viewportkitPick ((gL x1_18).1) 3 y1_6_), (R_viewportkitPick ((gL x1_18).1) 3 y1_6_), []⟩), (43, .val (.bool true)), (51, .pur (gQ x1_18)), (52, .pur (gP x1_18 1)), (53, .ld (Value.int .i64 ((gL x1_18).2.1))), (54, .call ⟨3, [(0, 0, false), (1, 1, true), (2, 2, true)], (V_munchScannerBegin x1_0 x1_1 x1_2 x1_3 x1_4 x1_5 x1_6 x1_7 x1_8 ((gL x1_18).2.1) (y1_8_0, y1_8_1, y1_8_2, y1_8_3, y1_8_4, y1_8_5, y1_8_6, y1_8_7)), (R_munchScannerBegin x1_0 x1_1 x1_2 x1_3 x1_4 x1_5 x1_6 x1_7 x1_8 ((gL x1_18).2.1) (y1_8_0, y1_8_1, y1_8_2, y1_8_3, y1_8_4, y1_8_5, y1_8_6, y1_8_7)), [(0, 0, false), (1, 1, true), (2, 2, true)]⟩), (58, .pur (gQ x1_18)), (59, .pur (gP x1_18 1)), (60, .ld (Value.int .i64 ((gL x1_18).2.1))), (61, .call ⟨1, [(0, 3, false)], (V_viewportref06ScannerBegin x1_9 x1_10 x1_11 x1_12 x1_13 x1_14 x1_15 x1_16 x1_17 ((gL x1_18).2.1) (y1_9_0, y1_9_1, y1_9_2, y1_9_3, y1_9_4, y1_9_5, y1_9_6, y1_9_7, y1_9_8, y1_9_9)), (R_viewportref06ScannerBegin x1_9 x1_10 x1_11 x1_12 x1_13 x1_14 x1_15 x1_16 x1_17 ((gL x1_18).2.1) (y1_9_0, y1_9_1, y1_9_2, y1_9_3, y1_9_4, y1_9_5, y1_9_6, y1_9_7, y1_9_8, y1_9_9)), [(3, 0, false)]⟩), (62, .val (.bool false)), (71, .call ⟨3, [(0, 0, false), (1, 1, true), (2, 2, true)], (V_munchScannerLexeme x1_0 x1_1 y1_8_0 y1_11_0 y1_11_1 y1_11_2 y1_11_3 y1_11_4 y1_8_6 (y1_12_0, y1_12_1, y1_12_2, y1_12_3, y1_12_4)), (R_munchScannerLexeme x1_0 x1_1 y1_8_0 y1_11_0 y1_11_1 y1_11_2 y1_11_3 y1_11_4 y1_8_6 (y1_12_0, y1_12_1, y1_12_2, y1_12_3, y1_12_4)), [(4, 3, false)]⟩), (80, .call ⟨1, [(0, 3, false)], (V_viewportref06ScannerLexeme y1_9_0 y1_11_5 y1_9_2 y1_11_6 y1_11_7 y1_11_8 y1_9_6 y1_11_9 y1_9_8 (y1_13_0, y1_13_1, y1_13_2, y1_13_3, y1_13_4)), (R_viewportref06ScannerLexeme y1_9_0 y1_11_5 y1_9_2 y1_11_6 y1_11_7 y1_11_8 y1_9_6 y1_11_9 y1_9_8 (y1_13_0, y1_13_1, y1_13_2, y1_13_3, y1_13_4)), [(6, 1, false)]⟩), (91, .val (.bool false)), (94, .val (.bool false)), (98, .call ⟨3, [(0, 0, false), (1, 1, true), (2, 2, true)], (V_munchScannerExt x1_0 x1_1 y1_8_0 y1_11_0 y1_11_1 y1_11_2 y1_11_3 y1_11_4 y1_8_6 ()), (R_munchScannerExt x1_0 x1_1 y1_8_0 y1_11_0 y1_11_1 y1_11_2 y1_11_3 y1_11_4 y1_8_6 ()), []⟩), (100, .call ⟨1, [(0, 3, false)], (V_viewportref06ScannerExt y1_9_0 y1_11_5 y1_9_2 y1_11_6 y1_11_7 y1_11_8 y1_9_6 y1_11_9 y1_9_8 ()), (R_viewportref06ScannerExt y1_9_0 y1_11_5 y1_9_2 y1_11_6 y1_11_7 y1_11_8 y1_9_6 y1_11_9 y1_9_8 ()), []⟩), (101, .val (.bool false)), (105, .call ⟨3, [(0, 0, false), (1, 1, true), (2, 2, true)], (V_munchScannerSteps x1_0 x1_1 y1_8_0 y1_11_0 y1_11_1 y1_11_2 y1_11_3 y1_11_4 y1_8_6 ()), (R_munchScannerSteps x1_0 x1_1 y1_8_0 y1_11_0 y1_11_1 y1_11_2 y1_11_3 y1_11_4 y1_8_6 ()), []⟩), (110, .val (.bool false))]) (L := lT [(68, ⟨⟨[1, 5, 7, 9, 10, 11], [(0, 0, false), (1, 1, true), (2, 2, true), (3, 3, false)], 4, 0⟩, (X_viewportlaw06MunchScript_2 x1_0 x1_1 y1_8_0 y1_8_6 y1_9_0 y1_9_2 y1_9_6 y1_9_8 x1_18 0 (y1_11_0, y1_11_1, y1_11_2, y1_11_3, y1_11_4, y1_11_5, y1_11_6, y1_11_7, y1_11_8, y1_11_9)).1, (X_viewportlaw06MunchScript_2 x1_0 x1_1 y1_8_0 y1_8_6 y1_9_0 y1_9_2 y1_9_6 y1_9_8 x1_18 0 (y1_11_0, y1_11_1, y1_11_2, y1_11_3, y1_11_4, y1_11_5, y1_11_6, y1_11_7, y1_11_8, y1_11_9)).2⟩)]) (wk := ⟨[1, 5, 7, 9], [(0, 0, false), (1, 1, true), (2, 2, true), (3, 3, false)], 4, 0⟩)
    (ps := [(Value.bool (decide (x1_18 < (((Args.L).length : Nat) : Int)))) = (Value.bool true),
    gI x1_18,
    opFieldAddr P 44 (gQ x1_18) 2 Ax.h0 = some (gP x1_18 2, Ax.h0),
    loadG P 9 (gP x1_18 2) Ax.h0 = some ((Value.string ((gL x1_18).2.2)), Ax.h0),
    (Value.bool (decide ((((((gL x1_18).2.2)).size : Nat) : Int) > (60 : Int)))) = (Value.bool false),
    gI x1_18,
    opFieldAddr P 44 (gQ x1_18) 0 Ax.h0 = some (gP x1_18 0, Ax.h0),
    loadG P 3 (gP x1_18 0) Ax.h0 = some ((Value.int .i64 ((gL x1_18).1)), Ax.h0),
    G_viewportkitPick ((gL x1_18).1) 3 y1_4_,
    (Value.bool (y1_4_ == (2 : Int))) = (Value.bool false),
    gI x1_18,
    opFieldAddr P 44 (gQ x1_18) 0 Ax.h0 = some (gP x1_18 0, Ax.h0),
    loadG P 3 (gP x1_18 0) Ax.h0 = some ((Value.int .i64 ((gL x1_18).1)), Ax.h0),
    G_viewportkitPick ((gL x1_18).1) 3 y1_6_,
    (Value.bool (y1_6_ == (0 : Int))) = (Value.bool true),
    gI x1_18,
    opFieldAddr P 44 (gQ x1_18) 1 Ax.h0 = some (gP x1_18 1, Ax.h0),
    loadG P 3 (gP x1_18 1) Ax.h0 = some ((Value.int .i64 ((gL x1_18).2.1)), Ax.h0),
    G_munchScannerBegin x1_0 x1_1 x1_2 x1_3 x1_4 x1_5 x1_6 x1_7 x1_8 ((gL x1_18).2.1) (y1_8_0, y1_8_1, y1_8_2, y1_8_3, y1_8_4, y1_8_5, y1_8_6, y1_8_7),
    FlatB (.cells (layT (iv x1_0)) 3),
    FlatB (.cells (layT (iv x1_1)) 3),
    FlatB (.cells (layT (iv x1_0)) 3),
    FlatB (.cells (layT (iv x1_1)) 3),
    gI x1_18,
    opFieldAddr P 44 (gQ x1_18) 1 Ax.h0 = some (gP x1_18 1, Ax.h0),
    loadG P 3 (gP x1_18 1) Ax.h0 = some ((Value.int .i64 ((gL x1_18).2.1)), Ax.h0),
    G_viewportref06ScannerBegin x1_9 x1_10 x1_11 x1_12 x1_13 x1_14 x1_15 x1_16 x1_17 ((gL x1_18).2.1) (y1_9_0, y1_9_1, y1_9_2, y1_9_3, y1_9_4, y1_9_5, y1_9_6, y1_9_7, y1_9_8, y1_9_9),
    (Value.bool (y1_8_7 != y1_9_9)) = (Value.bool false),
    CG P none (fnN P 4) 0 (codeOf P 4 [false, true, false, true, true, true, true, false, false, true, false, false, true, false, true, true, true, true, true, true]) (S_viewportlaw06MunchScript_2 x1_0 x1_1 y1_8_0 y1_8_6 y1_9_0 y1_9_2 y1_9_6 y1_9_8 x1_18 0 (y1_8_1, y1_8_2, y1_8_3, y1_8_4, y1_8_5, y1_9_1, y1_9_3, y1_9_4, y1_9_5, y1_9_7, 0)) (X_viewportlaw06MunchScript_2 x1_0 x1_1 y1_8_0 y1_8_6 y1_9_0 y1_9_2 y1_9_6 y1_9_8 x1_18 0 (y1_11_0, y1_11_1, y1_11_2, y1_11_3, y1_11_4, y1_11_5, y1_11_6, y1_11_7, y1_11_8, y1_11_9)),
    FlatB (.cells (layT (iv x1_0)) 3),
    FlatB (.cells (layT (iv x1_1)) 3),
    G_munchScannerLexeme x1_0 x1_1 y1_8_0 y1_11_0 y1_11_1 y1_11_2 y1_11_3 y1_11_4 y1_8_6 (y1_12_0, y1_12_1, y1_12_2, y1_12_3, y1_12_4),
    FlatB (.cells (layT (iv x1_0)) 3),
    FlatB (.cells (layT (iv x1_1)) 3),
    G_viewportref06ScannerLexeme y1_9_0 y1_11_5 y1_9_2 y1_11_6 y1_11_7 y1_11_8 y1_9_6 y1_11_9 y1_9_8 (y1_13_0, y1_13_1, y1_13_2, y1_13_3, y1_13_4),
    (Value.bool (!((y1_12_0 == y1_13_0) && ((y1_12_1 == y1_13_1) && ((y1_12_2 == y1_13_2) && ((y1_12_3 == y1_13_3) && true)))))) = (Value.bool false),
    (Value.bool (!(y1_12_4 == y1_13_4))) = (Value.bool false),
    G_munchScannerExt x1_0 x1_1 y1_8_0 y1_11_0 y1_11_1 y1_11_2 y1_11_3 y1_11_4 y1_8_6 (),
    FlatB (.cells (layT (iv x1_0)) 3),
    FlatB (.cells (layT (iv x1_1)) 3),
    G_viewportref06ScannerExt y1_9_0 y1_11_5 y1_9_2 y1_11_6 y1_11_7 y1_11_8 y1_9_6 y1_11_9 y1_9_8 (),
    (Value.bool ((w64 (y1_8_0 + y1_11_0)) != (w64 (y1_9_2 + y1_11_6)))) = (Value.bool false),
    G_munchScannerSteps x1_0 x1_1 y1_8_0 y1_11_0 y1_11_1 y1_11_2 y1_11_3 y1_11_4 y1_8_6 (),
    FlatB (.cells (layT (iv x1_0)) 3),
    FlatB (.cells (layT (iv x1_1)) 3),
    (Value.bool (y1_11_0 != y1_11_6)) = (Value.bool false),
    FlatB (.cells (layT (iv x1_0)) 3),
    FlatB (.cells (layT (iv x1_1)) 3)]) (by kernel_rfl) ⟨(vbT hy1_1), (ixW (e := 44) (by kernel_rfl) (by kernel_rfl) (hy1_2).1 (hy1_2).2), (by kernel_rfl), (ldWS rwf_iis (0, 0, ByteArray.empty) (i := (x1_18).toNat) (q := 2) (L := Args.L) (Nat.add ((x1_18).toNat * 3) 2) rfl rfl (by kernel_rfl) (toNatLt hy1_2) (by decide) rfl), (vbF hy1_3), (ixW (e := 44) (by kernel_rfl) (by kernel_rfl) (hy1_2).1 (hy1_2).2), (by kernel_rfl), (ldWS rwf_iis (0, 0, ByteArray.empty) (i := (x1_18).toNat) (q := 0) (L := Args.L) (Nat.add ((x1_18).toNat * 3) 0) rfl rfl (by kernel_rfl) (toNatLt hy1_2) (by decide) rfl), (m_viewportkitPick_ok n ((gL x1_18).1) 3 y1_4_ hy1_4), (veF hy1_5), (ixW (e := 44) (by kernel_rfl) (by kernel_rfl) (hy1_2).1 (hy1_2).2), (by kernel_rfl), (ldWS rwf_iis (0, 0, ByteArray.empty) (i := (x1_18).toNat) (q := 0) (L := Args.L) (Nat.add ((x1_18).toNat * 3) 0) rfl rfl (by kernel_rfl) (toNatLt hy1_2) (by decide) rfl), (m_viewportkitPick_ok n ((gL x1_18).1) 3 y1_6_ hy1_6), (veT hy1_7), (ixW (e := 44) (by kernel_rfl) (by kernel_rfl) (hy1_2).1 (hy1_2).2), (by kernel_rfl), (ldWS rwf_iis (0, 0, ByteArray.empty) (i := (x1_18).toNat) (q := 1) (L := Args.L) (Nat.add ((x1_18).toNat * 3) 1) rfl rfl (by kernel_rfl) (toNatLt hy1_2) (by decide) rfl), (m_munchScannerBegin_ok n x1_0 x1_1 x1_2 x1_3 x1_4 x1_5 x1_6 x1_7 x1_8 ((gL x1_18).2.1) (y1_8_0, y1_8_1, y1_8_2, y1_8_3, y1_8_4, y1_8_5, y1_8_6, y1_8_7) hy1_8), (iv_flat _ _), (iv_flat _ _), (iv_flat _ _), (iv_flat _ _), (ixW (e := 44) (by kernel_rfl) (by kernel_rfl) (hy1_2).1 (hy1_2).2), (by kernel_rfl), (ldWS rwf_iis (0, 0, ByteArray.empty) (i := (x1_18).toNat) (q := 1) (L := Args.L) (Nat.add ((x1_18).toNat * 3) 1) rfl rfl (by kernel_rfl) (toNatLt hy1_2) (by decide) rfl), (m_viewportref06ScannerBegin_ok n x1_9 x1_10 x1_11 x1_12 x1_13 x1_14 x1_15 x1_16 x1_17 ((gL x1_18).2.1) (y1_9_0, y1_9_1, y1_9_2, y1_9_3, y1_9_4, y1_9_5, y1_9_6, y1_9_7, y1_9_8, y1_9_9) hy1_9), (vnF hy1_10), (m_viewportlaw06MunchScript_2_ok n x1_0 x1_1 y1_8_0 y1_8_6 y1_9_0 y1_9_2 y1_9_6 y1_9_8 x1_18 0 (y1_8_1, y1_8_2, y1_8_3, y1_8_4, y1_8_5, y1_9_1, y1_9_3, y1_9_4, y1_9_5, y1_9_7, 0) (y1_11_0, y1_11_1, y1_11_2, y1_11_3, y1_11_4, y1_11_5, y1_11_6, y1_11_7, y1_11_8, y1_11_9) hy1_11), (iv_flat _ _), (iv_flat _ _), (m_munchScannerLexeme_ok n x1_0 x1_1 y1_8_0 y1_11_0 y1_11_1 y1_11_2 y1_11_3 y1_11_4 y1_8_6 (y1_12_0, y1_12_1, y1_12_2, y1_12_3, y1_12_4) hy1_12), (iv_flat _ _), (iv_flat _ _), (m_viewportref06ScannerLexeme_ok n y1_9_0 y1_11_5 y1_9_2 y1_11_6 y1_11_7 y1_11_8 y1_9_6 y1_11_9 y1_9_8 (y1_13_0, y1_13_1, y1_13_2, y1_13_3, y1_13_4) hy1_13), (vB (Bool.eq_false_iff.2 hy1_14)), (vNeB hy1_15 hy1_16), (m_munchScannerExt_ok n x1_0 x1_1 y1_8_0 y1_11_0 y1_11_1 y1_11_2 y1_11_3 y1_11_4 y1_8_6 () hy1_17), (iv_flat _ _), (iv_flat _ _), (m_viewportref06ScannerExt_ok n y1_9_0 y1_11_5 y1_9_2 y1_11_6 y1_11_7 y1_11_8 y1_9_6 y1_11_9 y1_9_8 () hy1_18), (vnF hy1_19), (m_munchScannerSteps_ok n x1_0 x1_1 y1_8_0 y1_11_0 y1_11_1 y1_11_2 y1_11_3 y1_11_4 y1_8_6 () hy1_20), (iv_flat _ _), (iv_flat _ _), (vnF hy1_21), (iv_flat _ _), (iv_flat _ _), trivial⟩
set_option maxRecDepth 100000 in
theorem q_viewportlaw06MunchScript_1_4 (n : Nat) (x1_0 : List Int) (x1_1 : List Int) (x1_2 : Int) (x1_3 : Int) (x1_4 : Int) (x1_5 : Int) (x1_6 : Int) (x1_7 : Bool) (x1_8 : Bool) (x1_9 : Bool) (x1_10 : Bool) (x1_11 : Int) (x1_12 : Int) (x1_13 : Int) (x1_14 : Int) (x1_15 : Int) (x1_16 : Int) (x1_17 : Int) (x1_18 : Int) (hy1_1 : x1_18 < (((Args.L).length : Nat) : Int)) (hy1_2 : 0 ≤ x1_18 ∧ x1_18 < (((Args.L).length : Nat) : Int)) (hy1_3 : ¬ ((((((gL x1_18).2.2)).size : Nat) : Int) > (60 : Int))) (y1_4_ : Int) (hy1_4 : m_viewportkitPick n ((gL x1_18).1) 3 = some y1_4_) (hy1_5 : ¬ (y1_4_ = (2 : Int))) (y1_6_ : Int) (hy1_6 : m_viewportkitPick n ((gL x1_18).1) 3 = some y1_6_) (hy1_7 : y1_6_ = (0 : Int)) (y1_8_0 : Int) (y1_8_1 : Int) (y1_8_2 : Int) (y1_8_3 : Int) (y1_8_4 : Int) (y1_8_5 : Bool) (y1_8_6 : Bool) (y1_8_7 : Int) (hy1_8 : m_munchScannerBegin n x1_0 x1_1 x1_2 x1_3 x1_4 x1_5 x1_6 x1_7 x1_8 ((gL x1_18).2.1) = some (y1_8_0, y1_8_1, y1_8_2, y1_8_3, y1_8_4, y1_8_5, y1_8_6, y1_8_7)) (y1_9_0 : Bool) (y1_9_1 : Bool) (y1_9_2 : Int) (y1_9_3 : Int) (y1_9_4 : Int) (y1_9_5 : Int) (y1_9_6 : Int) (y1_9_7 : Int) (y1_9_8 : Int) (y1_9_9 : Int) (hy1_9 : m_viewportref06ScannerBegin n x1_9 x1_10 x1_11 x1_12 x1_13 x1_14 x1_15 x1_16 x1_17 ((gL x1_18).2.1) = some (y1_9_0, y1_9_1, y1_9_2, y1_9_3, y1_9_4, y1_9_5, y1_9_6, y1_9_7, y1_9_8, y1_9_9)) (hy1_10 : y1_8_7 = y1_9_9) (y1_11_0 : Int) (y1_11_1 : Int) (y1_11_2 : Int) (y1_11_3 : Int) (y1_11_4 : Bool) (y1_11_5 : Bool) (y1_11_6 : Int) (y1_11_7 : Int) (y1_11_8 : Int) (y1_11_9 : Int) (hy1_11 : m_viewportlaw06MunchScript_2 n x1_0 x1_1 y1_8_0 y1_8_6 y1_9_0 y1_9_2 y1_9_6 y1_9_8 x1_18 0 (y1_8_1, y1_8_2, y1_8_3, y1_8_4, y1_8_5, y1_9_1, y1_9_3, y1_9_4, y1_9_5, y1_9_7, 0) = some (y1_11_0, y1_11_1, y1_11_2, y1_11_3, y1_11_4, y1_11_5, y1_11_6, y1_11_7, y1_11_8, y1_11_9)) (y1_12_0 : Int) (y1_12_1 : Int) (y1_12_2 : Int) (y1_12_3 : Int) (y1_12_4 : Bool) (hy1_12 : m_munchScannerLexeme n x1_0 x1_1 y1_8_0 y1_11_0 y1_11_1 y1_11_2 y1_11_3 y1_11_4 y1_8_6 = some (y1_12_0, y1_12_1, y1_12_2, y1_12_3, y1_12_4)) (y1_13_0 : Int) (y1_13_1 : Int) (y1_13_2 : Int) (y1_13_3 : Int) (y1_13_4 : Bool) (hy1_13 : m_viewportref06ScannerLexeme n y1_9_0 y1_11_5 y1_9_2 y1_11_6 y1_11_7 y1_11_8 y1_9_6 y1_11_9 y1_9_8 = some (y1_13_0, y1_13_1, y1_13_2, y1_13_3, y1_13_4)) (hy1_14 : ¬ ((!((y1_12_0 == y1_13_0) && ((y1_12_1 == y1_13_1) && ((y1_12_2 == y1_13_2) && ((y1_12_3 == y1_13_3) && true))))) = true)) (hy1_15 : ¬ (y1_12_4 = true)) (hy1_16 : ¬ (y1_13_4 = true)) (hy1_17 : m_munchScannerExt n x1_0 x1_1 y1_8_0 y1_11_0 y1_11_1 y1_11_2 y1_11_3 y1_11_4 y1_8_6 = some ()) (hy1_18 : m_viewportref06ScannerExt n y1_9_0 y1_11_5 y1_9_2 y1_11_6 y1_11_7 y1_11_8 y1_9_6 y1_11_9 y1_9_8 = some ()) (hy1_19 : (w64 (y1_8_0 + y1_11_0)) = (w64 (y1_9_2 + y1_11_6))) (hy1_20 : m_munchScannerSteps n x1_0 x1_1 y1_8_0 y1_11_0 y1_11_1 y1_11_2 y1_11_3 y1_11_4 y1_8_6 = some ()) (hy1_21 : y1_11_0 = y1_11_6) : CG P none (fnN P 4) 0 (codeOf P 4 [false, false, true, false, true, true, true, true, true, true]) (S_viewportlaw06MunchScript_1 x1_0 x1_1 (x1_2, x1_3, x1_4, x1_5, x1_6, x1_7, x1_8, x1_9, x1_10, x1_11, x1_12, x1_13, x1_14, x1_15, x1_16, x1_17, x1_18)) (.normal, S_viewportlaw06MunchScript_1 x1_0 x1_1 (y1_8_0, y1_11_0, y1_11_1, y1_11_2, y1_11_3, y1_11_4, y1_8_6, y1_9_0, y1_11_5, y1_9_2, y1_11_6, y1_11_7, y1_11_8, y1_9_6, y1_11_9, y1_9_8, (w64 (x1_18 + (1 : Int))))) :=
  runC_ok hm (A := aT [(5, .val (.bool true)), (17, .pur (gQ x1_18)), (18, .pur (gP x1_18 2)), (19, .ld (Value.string ((gL x1_18).2.2))), (21, .val (.bool false)), (29, .pur (gQ x1_18)), (30, .pur (gP x1_18 0)), (31, .ld (Value.int .i64 ((gL x1_18).1))), (32, .call ⟨0, [], (V_viewportkitPick ((gL x1_18).1) 3 y1_4_), (R_viewportkitPick ((gL x1_18).1) 3 y1_4_), []⟩), (33, .val (.bool false)), (39, .pur (gQ x1_18)), (40, .pur (gP x1_18 0)), (41, .ld (Value.int .i64 ((gL x1_18).1))), (42, .call ⟨0, [], (V_viewportkitPick ((gL x1_18).1) 3 y1_6_), (R_viewportkitPick ((gL x1_18).1) 3 y1_6_), []⟩), (43, .val (.bool true)), (51, .pur (gQ x1_18)), (52, .pur (gP x1_18 1)), (53, .ld (Value.int .i64 ((gL x1_18).2.1))), (54, .call ⟨3, [(0, 0, false), (1, 1, true), (2, 2, true)], (V_munchScannerBegin x1_0 x1_1 x1_2 x1_3 x1_4 x1_5 x1_6 x1_7 x1_8 ((gL x1_18).2.1) (y1_8_0, y1_8_1, y1_8_2, y1_8_3, y1_8_4, y1_8_5, y1_8_6, y1_8_7)), (R_munchScannerBegin x1_0 x1_1 x1_2 x1_3 x1_4 x1_5 x1_6 x1_7 x1_8 ((gL x1_18).2.1) (y1_8_0, y1_8_1, y1_8_2, y1_8_3, y1_8_4, y1_8_5, y1_8_6, y1_8_7)), [(0, 0, false), (1, 1, true), (2, 2, true)]⟩), (58, .pur (gQ x1_18)), (59, .pur (gP x1_18 1)), (60, .ld (Value.int .i64 ((gL x1_18).2.1))), (61, .call ⟨1, [(0, 3, false)], (V_viewportref06ScannerBegin x1_9 x1_10 x1_11 x1_12 x1_13 x1_14 x1_15 x1_16 x1_17 ((gL x1_18).2.1) (y1_9_0, y1_9_1, y1_9_2, y1_9_3, y1_9_4, y1_9_5, y1_9_6, y1_9_7, y1_9_8, y1_9_9)), (R_viewportref06ScannerBegin x1_9 x1_10 x1_11 x1_12 x1_13 x1_14 x1_15 x1_16 x1_17 ((gL x1_18).2.1) (y1_9_0, y1_9_1, y1_9_2, y1_9_3, y1_9_4, y1_9_5, y1_9_6, y1_9_7, y1_9_8, y1_9_9)), [(3, 0, false)]⟩), (62, .val (.bool false)), (71, .call ⟨3, [(0, 0, false), (1, 1, true), (2, 2, true)], (V_munchScannerLexeme x1_0 x1_1 y1_8_0 y1_11_0 y1_11_1 y1_11_2 y1_11_3 y1_11_4 y1_8_6 (y1_12_0, y1_12_1, y1_12_2, y1_12_3, y1_12_4)), (R_munchScannerLexeme x1_0 x1_1 y1_8_0 y1_11_0 y1_11_1 y1_11_2 y1_11_3 y1_11_4 y1_8_6 (y1_12_0, y1_12_1, y1_12_2, y1_12_3, y1_12_4)), [(4, 3, false)]⟩), (80, .call ⟨1, [(0, 3, false)], (V_viewportref06ScannerLexeme y1_9_0 y1_11_5 y1_9_2 y1_11_6 y1_11_7 y1_11_8 y1_9_6 y1_11_9 y1_9_8 (y1_13_0, y1_13_1, y1_13_2, y1_13_3, y1_13_4)), (R_viewportref06ScannerLexeme y1_9_0 y1_11_5 y1_9_2 y1_11_6 y1_11_7 y1_11_8 y1_9_6 y1_11_9 y1_9_8 (y1_13_0, y1_13_1, y1_13_2, y1_13_3, y1_13_4)), [(6, 1, false)]⟩), (91, .val (.bool false)), (94, .val (.bool false)), (98, .call ⟨3, [(0, 0, false), (1, 1, true), (2, 2, true)], (V_munchScannerExt x1_0 x1_1 y1_8_0 y1_11_0 y1_11_1 y1_11_2 y1_11_3 y1_11_4 y1_8_6 ()), (R_munchScannerExt x1_0 x1_1 y1_8_0 y1_11_0 y1_11_1 y1_11_2 y1_11_3 y1_11_4 y1_8_6 ()), []⟩), (100, .call ⟨1, [(0, 3, false)], (V_viewportref06ScannerExt y1_9_0 y1_11_5 y1_9_2 y1_11_6 y1_11_7 y1_11_8 y1_9_6 y1_11_9 y1_9_8 ()), (R_viewportref06ScannerExt y1_9_0 y1_11_5 y1_9_2 y1_11_6 y1_11_7 y1_11_8 y1_9_6 y1_11_9 y1_9_8 ()), []⟩), (101, .val (.bool false)), (105, .call ⟨3, [(0, 0, false), (1, 1, true), (2, 2, true)], (V_munchScannerSteps x1_0 x1_1 y1_8_0 y1_11_0 y1_11_1 y1_11_2 y1_11_3 y1_11_4 y1_8_6 ()), (R_munchScannerSteps x1_0 x1_1 y1_8_0 y1_11_0 y1_11_1 y1_11_2 y1_11_3 y1_11_4 y1_8_6 ()), []⟩), (110, .val (.bool false))]) (L := lT [(68, ⟨⟨[1, 5, 7, 9, 10, 11], [(0, 0, false), (1, 1, true), (2, 2, true), (3, 3, false)], 4, 0⟩, (X_viewportlaw06MunchScript_2 x1_0 x1_1 y1_8_0 y1_8_6 y1_9_0 y1_9_2 y1_9_6 y1_9_8 x1_18 0 (y1_11_0, y1_11_1, y1_11_2, y1_11_3, y1_11_4, y1_11_5, y1_11_6, y1_11_7, y1_11_8, y1_11_9)).1, (X_viewportlaw06MunchScript_2 x1_0 x1_1 y1_8_0 y1_8_6 y1_9_0 y1_9_2 y1_9_6 y1_9_8 x1_18 0 (y1_11_0, y1_11_1, y1_11_2, y1_11_3, y1_11_4, y1_11_5, y1_11_6, y1_11_7, y1_11_8, y1_11_9)).2⟩)]) (wk := ⟨[1, 5, 7, 9], [(0, 0, false), (1, 1, true), (2, 2, true), (3, 3, false)], 4, 0⟩)
    (ps := [(Value.bool (decide (x1_18 < (((Args.L).length : Nat) : Int)))) = (Value.bool true),
    gI x1_18,
    opFieldAddr P 44 (gQ x1_18) 2 Ax.h0 = some (gP x1_18 2, Ax.h0),
    loadG P 9 (gP x1_18 2) Ax.h0 = some ((Value.string ((gL x1_18).2.2)), Ax.h0),
    (Value.bool (decide ((((((gL x1_18).2.2)).size : Nat) : Int) > (60 : Int)))) = (Value.bool false),
    gI x1_18,
    opFieldAddr P 44 (gQ x1_18) 0 Ax.h0 = some (gP x1_18 0, Ax.h0),
    loadG P 3 (gP x1_18 0) Ax.h0 = some ((Value.int .i64 ((gL x1_18).1)), Ax.h0),
    G_viewportkitPick ((gL x1_18).1) 3 y1_4_,
    (Value.bool (y1_4_ == (2 : Int))) = (Value.bool false),
    gI x1_18,
    opFieldAddr P 44 (gQ x1_18) 0 Ax.h0 = some (gP x1_18 0, Ax.h0),
    loadG P 3 (gP x1_18 0) Ax.h0 = some ((Value.int .i64 ((gL x1_18).1)), Ax.h0),
    G_viewportkitPick ((gL x1_18).1) 3 y1_6_,
    (Value.bool (y1_6_ == (0 : Int))) = (Value.bool true),
    gI x1_18,
    opFieldAddr P 44 (gQ x1_18) 1 Ax.h0 = some (gP x1_18 1, Ax.h0),
    loadG P 3 (gP x1_18 1) Ax.h0 = some ((Value.int .i64 ((gL x1_18).2.1)), Ax.h0),
    G_munchScannerBegin x1_0 x1_1 x1_2 x1_3 x1_4 x1_5 x1_6 x1_7 x1_8 ((gL x1_18).2.1) (y1_8_0, y1_8_1, y1_8_2, y1_8_3, y1_8_4, y1_8_5, y1_8_6, y1_8_7),
    FlatB (.cells (layT (iv x1_0)) 3),
    FlatB (.cells (layT (iv x1_1)) 3),
    FlatB (.cells (layT (iv x1_0)) 3),
    FlatB (.cells (layT (iv x1_1)) 3),
    gI x1_18,
    opFieldAddr P 44 (gQ x1_18) 1 Ax.h0 = some (gP x1_18 1, Ax.h0),
    loadG P 3 (gP x1_18 1) Ax.h0 = some ((Value.int .i64 ((gL x1_18).2.1)), Ax.h0),
    G_viewportref06ScannerBegin x1_9 x1_10 x1_11 x1_12 x1_13 x1_14 x1_15 x1_16 x1_17 ((gL x1_18).2.1) (y1_9_0, y1_9_1, y1_9_2, y1_9_3, y1_9_4, y1_9_5, y1_9_6, y1_9_7, y1_9_8, y1_9_9),
    (Value.bool (y1_8_7 != y1_9_9)) = (Value.bool false),
    CG P none (fnN P 4) 0 (codeOf P 4 [false, true, false, true, true, true, true, false, false, true, false, false, true, false, true, true, true, true, true, true]) (S_viewportlaw06MunchScript_2 x1_0 x1_1 y1_8_0 y1_8_6 y1_9_0 y1_9_2 y1_9_6 y1_9_8 x1_18 0 (y1_8_1, y1_8_2, y1_8_3, y1_8_4, y1_8_5, y1_9_1, y1_9_3, y1_9_4, y1_9_5, y1_9_7, 0)) (X_viewportlaw06MunchScript_2 x1_0 x1_1 y1_8_0 y1_8_6 y1_9_0 y1_9_2 y1_9_6 y1_9_8 x1_18 0 (y1_11_0, y1_11_1, y1_11_2, y1_11_3, y1_11_4, y1_11_5, y1_11_6, y1_11_7, y1_11_8, y1_11_9)),
    FlatB (.cells (layT (iv x1_0)) 3),
    FlatB (.cells (layT (iv x1_1)) 3),
    G_munchScannerLexeme x1_0 x1_1 y1_8_0 y1_11_0 y1_11_1 y1_11_2 y1_11_3 y1_11_4 y1_8_6 (y1_12_0, y1_12_1, y1_12_2, y1_12_3, y1_12_4),
    FlatB (.cells (layT (iv x1_0)) 3),
    FlatB (.cells (layT (iv x1_1)) 3),
    G_viewportref06ScannerLexeme y1_9_0 y1_11_5 y1_9_2 y1_11_6 y1_11_7 y1_11_8 y1_9_6 y1_11_9 y1_9_8 (y1_13_0, y1_13_1, y1_13_2, y1_13_3, y1_13_4),
    (Value.bool (!((y1_12_0 == y1_13_0) && ((y1_12_1 == y1_13_1) && ((y1_12_2 == y1_13_2) && ((y1_12_3 == y1_13_3) && true)))))) = (Value.bool false),
    (Value.bool (!(y1_12_4 == y1_13_4))) = (Value.bool false),
    G_munchScannerExt x1_0 x1_1 y1_8_0 y1_11_0 y1_11_1 y1_11_2 y1_11_3 y1_11_4 y1_8_6 (),
    FlatB (.cells (layT (iv x1_0)) 3),
    FlatB (.cells (layT (iv x1_1)) 3),
    G_viewportref06ScannerExt y1_9_0 y1_11_5 y1_9_2 y1_11_6 y1_11_7 y1_11_8 y1_9_6 y1_11_9 y1_9_8 (),
    (Value.bool ((w64 (y1_8_0 + y1_11_0)) != (w64 (y1_9_2 + y1_11_6)))) = (Value.bool false),
    G_munchScannerSteps x1_0 x1_1 y1_8_0 y1_11_0 y1_11_1 y1_11_2 y1_11_3 y1_11_4 y1_8_6 (),
    FlatB (.cells (layT (iv x1_0)) 3),
    FlatB (.cells (layT (iv x1_1)) 3),
    (Value.bool (y1_11_0 != y1_11_6)) = (Value.bool false),
    FlatB (.cells (layT (iv x1_0)) 3),
    FlatB (.cells (layT (iv x1_1)) 3)]) (by kernel_rfl) ⟨(vbT hy1_1), (ixW (e := 44) (by kernel_rfl) (by kernel_rfl) (hy1_2).1 (hy1_2).2), (by kernel_rfl), (ldWS rwf_iis (0, 0, ByteArray.empty) (i := (x1_18).toNat) (q := 2) (L := Args.L) (Nat.add ((x1_18).toNat * 3) 2) rfl rfl (by kernel_rfl) (toNatLt hy1_2) (by decide) rfl), (vbF hy1_3), (ixW (e := 44) (by kernel_rfl) (by kernel_rfl) (hy1_2).1 (hy1_2).2), (by kernel_rfl), (ldWS rwf_iis (0, 0, ByteArray.empty) (i := (x1_18).toNat) (q := 0) (L := Args.L) (Nat.add ((x1_18).toNat * 3) 0) rfl rfl (by kernel_rfl) (toNatLt hy1_2) (by decide) rfl), (m_viewportkitPick_ok n ((gL x1_18).1) 3 y1_4_ hy1_4), (veF hy1_5), (ixW (e := 44) (by kernel_rfl) (by kernel_rfl) (hy1_2).1 (hy1_2).2), (by kernel_rfl), (ldWS rwf_iis (0, 0, ByteArray.empty) (i := (x1_18).toNat) (q := 0) (L := Args.L) (Nat.add ((x1_18).toNat * 3) 0) rfl rfl (by kernel_rfl) (toNatLt hy1_2) (by decide) rfl), (m_viewportkitPick_ok n ((gL x1_18).1) 3 y1_6_ hy1_6), (veT hy1_7), (ixW (e := 44) (by kernel_rfl) (by kernel_rfl) (hy1_2).1 (hy1_2).2), (by kernel_rfl), (ldWS rwf_iis (0, 0, ByteArray.empty) (i := (x1_18).toNat) (q := 1) (L := Args.L) (Nat.add ((x1_18).toNat * 3) 1) rfl rfl (by kernel_rfl) (toNatLt hy1_2) (by decide) rfl), (m_munchScannerBegin_ok n x1_0 x1_1 x1_2 x1_3 x1_4 x1_5 x1_6 x1_7 x1_8 ((gL x1_18).2.1) (y1_8_0, y1_8_1, y1_8_2, y1_8_3, y1_8_4, y1_8_5, y1_8_6, y1_8_7) hy1_8), (iv_flat _ _), (iv_flat _ _), (iv_flat _ _), (iv_flat _ _), (ixW (e := 44) (by kernel_rfl) (by kernel_rfl) (hy1_2).1 (hy1_2).2), (by kernel_rfl), (ldWS rwf_iis (0, 0, ByteArray.empty) (i := (x1_18).toNat) (q := 1) (L := Args.L) (Nat.add ((x1_18).toNat * 3) 1) rfl rfl (by kernel_rfl) (toNatLt hy1_2) (by decide) rfl), (m_viewportref06ScannerBegin_ok n x1_9 x1_10 x1_11 x1_12 x1_13 x1_14 x1_15 x1_16 x1_17 ((gL x1_18).2.1) (y1_9_0, y1_9_1, y1_9_2, y1_9_3, y1_9_4, y1_9_5, y1_9_6, y1_9_7, y1_9_8, y1_9_9) hy1_9), (vnF hy1_10), (m_viewportlaw06MunchScript_2_ok n x1_0 x1_1 y1_8_0 y1_8_6 y1_9_0 y1_9_2 y1_9_6 y1_9_8 x1_18 0 (y1_8_1, y1_8_2, y1_8_3, y1_8_4, y1_8_5, y1_9_1, y1_9_3, y1_9_4, y1_9_5, y1_9_7, 0) (y1_11_0, y1_11_1, y1_11_2, y1_11_3, y1_11_4, y1_11_5, y1_11_6, y1_11_7, y1_11_8, y1_11_9) hy1_11), (iv_flat _ _), (iv_flat _ _), (m_munchScannerLexeme_ok n x1_0 x1_1 y1_8_0 y1_11_0 y1_11_1 y1_11_2 y1_11_3 y1_11_4 y1_8_6 (y1_12_0, y1_12_1, y1_12_2, y1_12_3, y1_12_4) hy1_12), (iv_flat _ _), (iv_flat _ _), (m_viewportref06ScannerLexeme_ok n y1_9_0 y1_11_5 y1_9_2 y1_11_6 y1_11_7 y1_11_8 y1_9_6 y1_11_9 y1_9_8 (y1_13_0, y1_13_1, y1_13_2, y1_13_3, y1_13_4) hy1_13), (vB (Bool.eq_false_iff.2 hy1_14)), (vNeB (Bool.eq_false_iff.2 hy1_15) (Bool.eq_false_iff.2 hy1_16)), (m_munchScannerExt_ok n x1_0 x1_1 y1_8_0 y1_11_0 y1_11_1 y1_11_2 y1_11_3 y1_11_4 y1_8_6 () hy1_17), (iv_flat _ _), (iv_flat _ _), (m_viewportref06ScannerExt_ok n y1_9_0 y1_11_5 y1_9_2 y1_11_6 y1_11_7 y1_11_8 y1_9_6 y1_11_9 y1_9_8 () hy1_18), (vnF hy1_19), (m_munchScannerSteps_ok n x1_0 x1_1 y1_8_0 y1_11_0 y1_11_1 y1_11_2 y1_11_3 y1_11_4 y1_8_6 () hy1_20), (iv_flat _ _), (iv_flat _ _), (vnF hy1_21), (iv_flat _ _), (iv_flat _ _), trivial⟩
set_option maxRecDepth 100000 in
theorem q_viewportlaw06MunchScript_1_5 (n : Nat) (x1_0 : List Int) (x1_1 : List Int) (x1_2 : Int) (x1_3 : Int) (x1_4 : Int) (x1_5 : Int) (x1_6 : Int) (x1_7 : Bool) (x1_8 : Bool) (x1_9 : Bool) (x1_10 : Bool) (x1_11 : Int) (x1_12 : Int) (x1_13 : Int) (x1_14 : Int) (x1_15 : Int) (x1_16 : Int) (x1_17 : Int) (x1_18 : Int) (hy1_1 : x1_18 < (((Args.L).length : Nat) : Int)) (hy1_2 : 0 ≤ x1_18 ∧ x1_18 < (((Args.L).length : Nat) : Int)) (hy1_3 : ¬ ((((((gL x1_18).2.2)).size : Nat) : Int) > (60 : Int))) (y1_4_ : Int) (hy1_4 : m_viewportkitPick n ((gL x1_18).1) 3 = some y1_4_) (hy1_5 : ¬ (y1_4_ = (2 : Int))) (y1_6_ : Int) (hy1_6 : m_viewportkitPick n ((gL x1_18).1) 3 = some y1_6_) (hy1_7 : ¬ (y1_6_ = (0 : Int))) (y1_8_0 : Int) (y1_8_1 : Int) (y1_8_2 : Int) (y1_8_3 : Int) (y1_8_4 : Bool) (y1_8_5 : Bool) (y1_8_6 : Int) (y1_8_7 : Int) (y1_8_8 : Int) (y1_8_9 : Int) (hy1_8 : m_viewportlaw06MunchScript_2 n x1_0 x1_1 x1_2 x1_8 x1_9 x1_11 x1_15 x1_17 x1_18 1 (x1_3, x1_4, x1_5, x1_6, x1_7, x1_10, x1_12, x1_13, x1_14, x1_16, 0) = some (y1_8_0, y1_8_1, y1_8_2, y1_8_3, y1_8_4, y1_8_5, y1_8_6, y1_8_7, y1_8_8, y1_8_9)) (y1_9_0 : Int) (y1_9_1 : Int) (y1_9_2 : Int) (y1_9_3 : Int) (y1_9_4 : Bool) (hy1_9 : m_munchScannerLexeme n x1_0 x1_1 x1_2 y1_8_0 y1_8_1 y1_8_2 y1_8_3 y1_8_4 x1_8 = some (y1_9_0, y1_9_1, y1_9_2, y1_9_3, y1_9_4)) (y1_10_0 : Int) (y1_10_1 : Int) (y1_10_2 : Int) (y1_10_3 : Int) (y1_10_4 : Bool) (hy1_10 : m_viewportref06ScannerLexeme n x1_9 y1_8_5 x1_11 y1_8_6 y1_8_7 y1_8_8 x1_15 y1_8_9 x1_17 = some (y1_10_0, y1_10_1, y1_10_2, y1_10_3, y1_10_4)) (hy1_11 : ¬ ((!((y1_9_0 == y1_10_0) && ((y1_9_1 == y1_10_1) && ((y1_9_2 == y1_10_2) && ((y1_9_3 == y1_10_3) && true))))) = true)) (hy1_12 : y1_9_4 = true) (hy1_13 : y1_10_4 = true) (hy1_14 : m_munchScannerExt n x1_0 x1_1 x1_2 y1_8_0 y1_8_1 y1_8_2 y1_8_3 y1_8_4 x1_8 = some ()) (hy1_15 : m_viewportref06ScannerExt n x1_9 y1_8_5 x1_11 y1_8_6 y1_8_7 y1_8_8 x1_15 y1_8_9 x1_17 = some ()) (hy1_16 : (w64 (x1_2 + y1_8_0)) = (w64 (x1_11 + y1_8_6))) (hy1_17 : m_munchScannerSteps n x1_0 x1_1 x1_2 y1_8_0 y1_8_1 y1_8_2 y1_8_3 y1_8_4 x1_8 = some ()) (hy1_18 : y1_8_0 = y1_8_6) : CG P none (fnN P 4) 0 (codeOf P 4 [false, false, true, false, true, true, true, true, true, true]) (S_viewportlaw06MunchScript_1 x1_0 x1_1 (x1_2, x1_3, x1_4, x1_5, x1_6, x1_7, x1_8, x1_9, x1_10, x1_11, x1_12, x1_13, x1_14, x1_15, x1_16, x1_17, x1_18)) (.normal, S_viewportlaw06MunchScript_1 x1_0 x1_1 (x1_2, y1_8_0, y1_8_1, y1_8_2, y1_8_3, y1_8_4, x1_8, x1_9, y1_8_5, x1_11, y1_8_6, y1_8_7, y1_8_8, x1_15, y1_8_9, x1_17, (w64 (x1_18 + (1 : Int))))) :=
  runC_ok hm (A := aT [(5, .val (.bool true)), (17, .pur (gQ x1_18)), (18, .pur (gP x1_18 2)), (19, .ld (Value.string ((gL x1_18).2.2))), (21, .val (.bool false)), (29, .pur (gQ x1_18)), (30, .pur (gP x1_18 0)), (31, .ld (Value.int .i64 ((gL x1_18).1))), (32, .call ⟨0, [], (V_viewportkitPick ((gL x1_18).1) 3 y1_4_), (R_viewportkitPick ((gL x1_18).1) 3 y1_4_), []⟩), (33, .val (.bool false)), (39, .pur (gQ x1_18)), (40, .pur (gP x1_18 0)), (41, .ld (Value.int .i64 ((gL x1_18).1))), (42, .call ⟨0, [], (V_viewportkitPick ((gL x1_18).1) 3 y1_6_), (R_viewportkitPick ((gL x1_18).1) 3 y1_6_), []⟩), (43, .val (.bool false)), (52, .call ⟨3, [(0, 0, false), (1, 1, true), (2, 2, true)], (V_munchScannerLexeme x1_0 x1_1 x1_2 y1_8_0 y1_8_1 y1_8_2 y1_8_3 y1_8_4 x1_8 (y1_9_0, y1_9_1, y1_9_2, y1_9_3, y1_9_4)), (R_munchScannerLexeme x1_0 x1_1 x1_2 y1_8_0 y1_8_1 y1_8_2 y1_8_3 y1_8_4 x1_8 (y1_9_0, y1_9_1, y1_9_2, y1_9_3, y1_9_4)), [(4, 3, false)]⟩), (61, .call ⟨1, [(0, 3, false)], (V_viewportref06ScannerLexeme x1_9 y1_8_5 x1_11 y1_8_6 y1_8_7 y1_8_8 x1_15 y1_8_9 x1_17 (y1_10_0, y1_10_1, y1_10_2, y1_10_3, y1_10_4)), (R_viewportref06ScannerLexeme x1_9 y1_8_5 x1_11 y1_8_6 y1_8_7 y1_8_8 x1_15 y1_8_9 x1_17 (y1_10_0, y1_10_1, y1_10_2, y1_10_3, y1_10_4)), [(6, 1, false)]⟩), (72, .val (.bool false)), (75, .val (.bool false)), (79, .call ⟨3, [(0, 0, false), (1, 1, true), (2, 2, true)], (V_munchScannerExt x1_0 x1_1 x1_2 y1_8_0 y1_8_1 y1_8_2 y1_8_3 y1_8_4 x1_8 ()), (R_munchScannerExt x1_0 x1_1 x1_2 y1_8_0 y1_8_1 y1_8_2 y1_8_3 y1_8_4 x1_8 ()), []⟩), (81, .call ⟨1, [(0, 3, false)], (V_viewportref06ScannerExt x1_9 y1_8_5 x1_11 y1_8_6 y1_8_7 y1_8_8 x1_15 y1_8_9 x1_17 ()), (R_viewportref06ScannerExt x1_9 y1_8_5 x1_11 y1_8_6 y1_8_7 y1_8_8 x1_15 y1_8_9 x1_17 ()), []⟩), (82, .val (.bool false)), (86, .call ⟨3, [(0, 0, false), (1, 1, true), (2, 2, true)], (V_munchScannerSteps x1_0 x1_1 x1_2 y1_8_0 y1_8_1 y1_8_2 y1_8_3 y1_8_4 x1_8 ()), (R_munchScannerSteps x1_0 x1_1 x1_2 y1_8_0 y1_8_1 y1_8_2 y1_8_3 y1_8_4 x1_8 ()), []⟩), (91, .val (.bool false))]) (L := lT [(49, ⟨⟨[1, 5, 7, 9, 10, 11], [(0, 0, false), (1, 1, true), (2, 2, true), (3, 3, false)], 4, 0⟩, (X_viewportlaw06MunchScript_2 x1_0 x1_1 x1_2 x1_8 x1_9 x1_11 x1_15 x1_17 x1_18 1 (y1_8_0, y1_8_1, y1_8_2, y1_8_3, y1_8_4, y1_8_5, y1_8_6, y1_8_7, y1_8_8, y1_8_9)).1, (X_viewportlaw06MunchScript_2 x1_0 x1_1 x1_2 x1_8 x1_9 x1_11 x1_15 x1_17 x1_18 1 (y1_8_0, y1_8_1, y1_8_2, y1_8_3, y1_8_4, y1_8_5, y1_8_6, y1_8_7, y1_8_8, y1_8_9)).2⟩)]) (wk := ⟨[1, 5, 7, 9], [(0, 0, false), (1, 1, true), (2, 2, true), (3, 3, false)], 4, 0⟩)
    (ps := [(Value.bool (decide (x1_18 < (((Args.L).length : Nat) : Int)))) = (Value.bool true),
    gI x1_18,
    opFieldAddr P 44 (gQ x1_18) 2 Ax.h0 = some (gP x1_18 2, Ax.h0),
    loadG P 9 (gP x1_18 2) Ax.h0 = some ((Value.string ((gL x1_18).2.2)), Ax.h0),
    (Value.bool (decide ((((((gL x1_18).2.2)).size : Nat) : Int) > (60 : Int)))) = (Value.bool false),
    gI x1_18,
    opFieldAddr P 44 (gQ x1_18) 0 Ax.h0 = some (gP x1_18 0, Ax.h0),
    loadG P 3 (gP x1_18 0) Ax.h0 = some ((Value.int .i64 ((gL x1_18).1)), Ax.h0),
    G_viewportkitPick ((gL x1_18).1) 3 y1_4_,
    (Value.bool (y1_4_ == (2 : Int))) = (Value.bool false),
    gI x1_18,
    opFieldAddr P 44 (gQ x1_18) 0 Ax.h0 = some (gP x1_18 0, Ax.h0),
    loadG P 3 (gP x1_18 0) Ax.h0 = some ((Value.int .i64 ((gL x1_18).1)), Ax.h0),
    G_viewportkitPick ((gL x1_18).1) 3 y1_6_,
    (Value.bool (y1_6_ == (0 : Int))) = (Value.bool false),
    CG P none (fnN P 4) 0 (codeOf P 4 [false, true, false, true, true, true, true, false, false, true, false, false, true, false, true, true, true, true, true, true]) (S_viewportlaw06MunchScript_2 x1_0 x1_1 x1_2 x1_8 x1_9 x1_11 x1_15 x1_17 x1_18 1 (x1_3, x1_4, x1_5, x1_6, x1_7, x1_10, x1_12, x1_13, x1_14, x1_16, 0)) (X_viewportlaw06MunchScript_2 x1_0 x1_1 x1_2 x1_8 x1_9 x1_11 x1_15 x1_17 x1_18 1 (y1_8_0, y1_8_1, y1_8_2, y1_8_3, y1_8_4, y1_8_5, y1_8_6, y1_8_7, y1_8_8, y1_8_9)),
    FlatB (.cells (layT (iv x1_0)) 3),
    FlatB (.cells (layT (iv x1_1)) 3),
    G_munchScannerLexeme x1_0 x1_1 x1_2 y1_8_0 y1_8_1 y1_8_2 y1_8_3 y1_8_4 x1_8 (y1_9_0, y1_9_1, y1_9_2, y1_9_3, y1_9_4),
    FlatB (.cells (layT (iv x1_0)) 3),
    FlatB (.cells (layT (iv x1_1)) 3),
    G_viewportref06ScannerLexeme x1_9 y1_8_5 x1_11 y1_8_6 y1_8_7 y1_8_8 x1_15 y1_8_9 x1_17 (y1_10_0, y1_10_1, y1_10_2, y1_10_3, y1_10_4),
    (Value.bool (!((y1_9_0 == y1_10_0) && ((y1_9_1 == y1_10_1) && ((y1_9_2 == y1_10_2) && ((y1_9_3 == y1_10_3) && true)))))) = (Value.bool false),
    (Value.bool (!(y1_9_4 == y1_10_4))) = (Value.bool false),
    G_munchScannerExt x1_0 x1_1 x1_2 y1_8_0 y1_8_1 y1_8_2 y1_8_3 y1_8_4 x1_8 (),
    FlatB (.cells (layT (iv x1_0)) 3),
    FlatB (.cells (layT (iv x1_1)) 3),
    G_viewportref06ScannerExt x1_9 y1_8_5 x1_11 y1_8_6 y1_8_7 y1_8_8 x1_15 y1_8_9 x1_17 (),
    (Value.bool ((w64 (x1_2 + y1_8_0)) != (w64 (x1_11 + y1_8_6)))) = (Value.bool false),
    G_munchScannerSteps x1_0 x1_1 x1_2 y1_8_0 y1_8_1 y1_8_2 y1_8_3 y1_8_4 x1_8 (),
    FlatB (.cells (layT (iv x1_0)) 3),
    FlatB (.cells (layT (iv x1_1)) 3),
    (Value.bool (y1_8_0 != y1_8_6)) = (Value.bool false),
    FlatB (.cells (layT (iv x1_0)) 3),
    FlatB (.cells (layT (iv x1_1)) 3)]) (by kernel_rfl) ⟨(vbT hy1_1), (ixW (e := 44) (by kernel_rfl) (by kernel_rfl) (hy1_2).1 (hy1_2).2), (by kernel_rfl), (ldWS rwf_iis (0, 0, ByteArray.empty) (i := (x1_18).toNat) (q := 2) (L := Args.L) (Nat.add ((x1_18).toNat * 3) 2) rfl rfl (by kernel_rfl) (toNatLt hy1_2) (by decide) rfl), (vbF hy1_3), (ixW (e := 44) (by kernel_rfl) (by kernel_rfl) (hy1_2).1 (hy1_2).2), (by kernel_rfl), (ldWS rwf_iis (0, 0, ByteArray.empty) (i := (x1_18).toNat) (q := 0) (L := Args.L) (Nat.add ((x1_18).toNat * 3) 0) rfl rfl (by kernel_rfl) (toNatLt hy1_2) (by decide) rfl), (m_viewportkitPick_ok n ((gL x1_18).1) 3 y1_4_ hy1_4), (veF hy1_5), (ixW (e := 44) (by kernel_rfl) (by kernel_rfl) (hy1_2).1 (hy1_2).2), (by kernel_rfl), (ldWS rwf_iis (0, 0, ByteArray.empty) (i := (x1_18).toNat) (q := 0) (L := Args.L) (Nat.add ((x1_18).toNat * 3) 0) rfl rfl (by kernel_rfl) (toNatLt hy1_2) (by decide) rfl), (m_viewportkitPick_ok n ((gL x1_18).1) 3 y1_6_ hy1_6), (veF hy1_7), (m_viewportlaw06MunchScript_2_ok n x1_0 x1_1 x1_2 x1_8 x1_9 x1_11 x1_15 x1_17 x1_18 1 (x1_3, x1_4, x1_5, x1_6, x1_7, x1_10, x1_12, x1_13, x1_14, x1_16, 0) (y1_8_0, y1_8_1, y1_8_2, y1_8_3, y1_8_4, y1_8_5, y1_8_6, y1_8_7, y1_8_8, y1_8_9) hy1_8), (iv_flat _ _), (iv_flat _ _), (m_munchScannerLexeme_ok n x1_0 x1_1 x1_2 y1_8_0 y1_8_1 y1_8_2 y1_8_3 y1_8_4 x1_8 (y1_9_0, y1_9_1, y1_9_2, y1_9_3, y1_9_4) hy1_9), (iv_flat _ _), (iv_flat _ _), (m_viewportref06ScannerLexeme_ok n x1_9 y1_8_5 x1_11 y1_8_6 y1_8_7 y1_8_8 x1_15 y1_8_9 x1_17 (y1_10_0, y1_10_1, y1_10_2, y1_10_3, y1_10_4) hy1_10), (vB (Bool.eq_false_iff.2 hy1_11)), (vNeB hy1_12 hy1_13), (m_munchScannerExt_ok n x1_0 x1_1 x1_2 y1_8_0 y1_8_1 y1_8_2 y1_8_3 y1_8_4 x1_8 () hy1_14), (iv_flat _ _), (iv_flat _ _), (m_viewportref06ScannerExt_ok n x1_9 y1_8_5 x1_11 y1_8_6 y1_8_7 y1_8_8 x1_15 y1_8_9 x1_17 () hy1_15), (vnF hy1_16), (m_munchScannerSteps_ok n x1_0 x1_1 x1_2 y1_8_0 y1_8_1 y1_8_2 y1_8_3 y1_8_4 x1_8 () hy1_17), (iv_flat _ _), (iv_flat _ _), (vnF hy1_18), (iv_flat _ _), (iv_flat _ _), trivial⟩
set_option maxRecDepth 100000 in
theorem q_viewportlaw06MunchScript_1_6 (n : Nat) (x1_0 : List Int) (x1_1 : List Int) (x1_2 : Int) (x1_3 : Int) (x1_4 : Int) (x1_5 : Int) (x1_6 : Int) (x1_7 : Bool) (x1_8 : Bool) (x1_9 : Bool) (x1_10 : Bool) (x1_11 : Int) (x1_12 : Int) (x1_13 : Int) (x1_14 : Int) (x1_15 : Int) (x1_16 : Int) (x1_17 : Int) (x1_18 : Int) (hy1_1 : x1_18 < (((Args.L).length : Nat) : Int)) (hy1_2 : 0 ≤ x1_18 ∧ x1_18 < (((Args.L).length : Nat) : Int)) (hy1_3 : ¬ ((((((gL x1_18).2.2)).size : Nat) : Int) > (60 : Int))) (y1_4_ : Int) (hy1_4 : m_viewportkitPick n ((gL x1_18).1) 3 = some y1_4_) (hy1_5 : ¬ (y1_4_ = (2 : Int))) (y1_6_ : Int) (hy1_6 : m_viewportkitPick n ((gL x1_18).1) 3 = some y1_6_) (hy1_7 : ¬ (y1_6_ = (0 : Int))) (y1_8_0 : Int) (y1_8_1 : Int) (y1_8_2 : Int) (y1_8_3 : Int) (y1_8_4 : Bool) (y1_8_5 : Bool) (y1_8_6 : Int) (y1_8_7 : Int) (y1_8_8 : Int) (y1_8_9 : Int) (hy1_8 : m_viewportlaw06MunchScript_2 n x1_0 x1_1 x1_2 x1_8 x1_9 x1_11 x1_15 x1_17 x1_18 1 (x1_3, x1_4, x1_5, x1_6, x1_7, x1_10, x1_12, x1_13, x1_14, x1_16, 0) = some (y1_8_0, y1_8_1, y1_8_2, y1_8_3, y1_8_4, y1_8_5, y1_8_6, y1_8_7, y1_8_8, y1_8_9)) (y1_9_0 : Int) (y1_9_1 : Int) (y1_9_2 : Int) (y1_9_3 : Int) (y1_9_4 : Bool) (hy1_9 : m_munchScannerLexeme n x1_0 x1_1 x1_2 y1_8_0 y1_8_1 y1_8_2 y1_8_3 y1_8_4 x1_8 = some (y1_9_0, y1_9_1, y1_9_2, y1_9_3, y1_9_4)) (y1_10_0 : Int) (y1_10_1 : Int) (y1_10_2 : Int) (y1_10_3 : Int) (y1_10_4 : Bool) (hy1_10 : m_viewportref06ScannerLexeme n x1_9 y1_8_5 x1_11 y1_8_6 y1_8_7 y1_8_8 x1_15 y1_8_9 x1_17 = some (y1_10_0, y1_10_1, y1_10_2, y1_10_3, y1_10_4)) (hy1_11 : ¬ ((!((y1_9_0 == y1_10_0) && ((y1_9_1 == y1_10_1) && ((y1_9_2 == y1_10_2) && ((y1_9_3 == y1_10_3) && true))))) = true)) (hy1_12 : ¬ (y1_9_4 = true)) (hy1_13 : ¬ (y1_10_4 = true)) (hy1_14 : m_munchScannerExt n x1_0 x1_1 x1_2 y1_8_0 y1_8_1 y1_8_2 y1_8_3 y1_8_4 x1_8 = some ()) (hy1_15 : m_viewportref06ScannerExt n x1_9 y1_8_5 x1_11 y1_8_6 y1_8_7 y1_8_8 x1_15 y1_8_9 x1_17 = some ()) (hy1_16 : (w64 (x1_2 + y1_8_0)) = (w64 (x1_11 + y1_8_6))) (hy1_17 : m_munchScannerSteps n x1_0 x1_1 x1_2 y1_8_0 y1_8_1 y1_8_2 y1_8_3 y1_8_4 x1_8 = some ()) (hy1_18 : y1_8_0 = y1_8_6) : CG P none (fnN P 4) 0 (codeOf P 4 [false, false, true, false, true, true, true, true, true, true]) (S_viewportlaw06MunchScript_1 x1_0 x1_1 (x1_2, x1_3, x1_4, x1_5, x1_6, x1_7, x1_8, x1_9, x1_10, x1_11, x1_12, x1_13, x1_14, x1_15, x1_16, x1_17, x1_18)) (.normal, S_viewportlaw06MunchScript_1 x1_0 x1_1 (x1_2, y1_8_0, y1_8_1, y1_8_2, y1_8_3, y1_8_4, x1_8, x1_9, y1_8_5, x1_11, y1_8_6, y1_8_7, y1_8_8, x1_15, y1_8_9, x1_17, (w64 (x1_18 + (1 : Int))))) :=
  runC_ok hm (A := aT [(5, .val (.bool true)), (17, .pur (gQ x1_18)), (18, .pur (gP x1_18 2)), (19, .ld (Value.string ((gL x1_18).2.2))), (21, .val (.bool false)), (29, .pur (gQ x1_18)), (30, .pur (gP x1_18 0)), (31, .ld (Value.int .i64 ((gL x1_18).1))), (32, .call ⟨0, [], (V_viewportkitPick ((gL x1_18).1) 3 y1_4_), (R_viewportkitPick ((gL x1_18).1) 3 y1_4_), []⟩), (33, .val (.bool false)), (39, .pur (gQ x1_18)), (40, .pur (gP x1_18 0)), (41, .ld (Value.int .i64 ((gL x1_18).1))), (42, .call ⟨0, [], (V_viewportkitPick ((gL x1_18).1) 3 y1_6_), (R_viewportkitPick ((gL x1_18).1) 3 y1_6_), []⟩), (43, .val (.bool false)), (52, .call ⟨3, [(0, 0, false), (1, 1, true), (2, 2, true)], (V_munchScannerLexeme x1_0 x1_1 x1_2 y1_8_0 y1_8_1 y1_8_2 y1_8_3 y1_8_4 x1_8 (y1_9_0, y1_9_1, y1_9_2, y1_9_3, y1_9_4)), (R_munchScannerLexeme x1_0 x1_1 x1_2 y1_8_0 y1_8_1 y1_8_2 y1_8_3 y1_8_4 x1_8 (y1_9_0, y1_9_1, y1_9_2, y1_9_3, y1_9_4)), [(4, 3, false)]⟩), (61, .call ⟨1, [(0, 3, false)], (V_viewportref06ScannerLexeme x1_9 y1_8_5 x1_11 y1_8_6 y1_8_7 y1_8_8 x1_15 y1_8_9 x1_17 (y1_10_0, y1_10_1, y1_10_2, y1_10_3, y1_10_4)), (R_viewportref06ScannerLexeme x1_9 y1_8_5 x1_11 y1_8_6 y1_8_7 y1_8_8 x1_15 y1_8_9 x1_17 (y1_10_0, y1_10_1, y1_10_2, y1_10_3, y1_10_4)), [(6, 1, false)]⟩), (72, .val (.bool false)), (75, .val (.bool false)), (79, .call ⟨3, [(0, 0, false), (1, 1, true), (2, 2, true)], (V_munchScannerExt x1_0 x1_1 x1_2 y1_8_0 y1_8_1 y1_8_2 y1_8_3 y1_8_4 x1_8 ()), (R_munchScannerExt x1_0 x1_1 x1_2 y1_8_0 y1_8_1 y1_8_2 y1_8_3 y1_8_4 x1_8 ()), []⟩), (81, .call ⟨1, [(0, 3, false)], (V_viewportref06ScannerExt x1_9 y1_8_5 x1_11 y1_8_6 y1_8_7 y1_8_8 x1_15 y1_8_9 x1_17 ()), (R_viewportref06ScannerExt x1_9 y1_8_5 x1_11 y1_8_6 y1_8_7 y1_8_8 x1_15 y1_8_9 x1_17 ()), []⟩), (82, .val (.bool false)), (86, .call ⟨3, [(0, 0, false), (1, 1, true), (2, 2, true)], (V_munchScannerSteps x1_0 x1_1 x1_2 y1_8_0 y1_8_1 y1_8_2 y1_8_3 y1_8_4 x1_8 ()), (R_munchScannerSteps x1_0 x1_1 x1_2 y1_8_0 y1_8_1 y1_8_2 y1_8_3 y1_8_4 x1_8 ()), []⟩), (91, .val (.bool false))]) (L := lT [(49, ⟨⟨[1, 5, 7, 9, 10, 11], [(0, 0, false), (1, 1, true), (2, 2, true), (3, 3, false)], 4, 0⟩, (X_viewportlaw06MunchScript_2 x1_0 x1_1 x1_2 x1_8 x1_9 x1_11 x1_15 x1_17 x1_18 1 (y1_8_0, y1_8_1, y1_8_2, y1_8_3, y1_8_4, y1_8_5, y1_8_6, y1_8_7, y1_8_8, y1_8_9)).1, (X_viewportlaw06MunchScript_2 x1_0 x1_1 x1_2 x1_8 x1_9 x1_11 x1_15 x1_17 x1_18 1 (y1_8_0, y1_8_1, y1_8_2, y1_8_3, y1_8_4, y1_8_5, y1_8_6, y1_8_7, y1_8_8, y1_8_9)).2⟩)]) (wk := ⟨[1, 5, 7, 9], [(0, 0, false), (1, 1, true), (2, 2, true), (3, 3, false)], 4, 0⟩)
    (ps := [(Value.bool (decide (x1_18 < (((Args.L).length : Nat) : Int)))) = (Value.bool true),
    gI x1_18,
    opFieldAddr P 44 (gQ x1_18) 2 Ax.h0 = some (gP x1_18 2, Ax.h0),
    loadG P 9 (gP x1_18 2) Ax.h0 = some ((Value.string ((gL x1_18).2.2)), Ax.h0),
    (Value.bool (decide ((((((gL x1_18).2.2)).size : Nat) : Int) > (60 : Int)))) = (Value.bool false),
    gI x1_18,
    opFieldAddr P 44 (gQ x1_18) 0 Ax.h0 = some (gP x1_18 0, Ax.h0),
    loadG P 3 (gP x1_18 0) Ax.h0 = some ((Value.int .i64 ((gL x1_18).1)), Ax.h0),
    G_viewportkitPick ((gL x1_18).1) 3 y1_4_,
    (Value.bool (y1_4_ == (2 : Int))) = (Value.bool false),
    gI x1_18,
    opFieldAddr P 44 (gQ x1_18) 0 Ax.h0 = some (gP x1_18 0, Ax.h0),
    loadG P 3 (gP x1_18 0) Ax.h0 = some ((Value.int .i64 ((gL x1_18).1)), Ax.h0),
    G_viewportkitPick ((gL x1_18).1) 3 y1_6_,
    (Value.bool (y1_6_ == (0 : Int))) = (Value.bool false),
    CG P none (fnN P 4) 0 (codeOf P 4 [false, true, false, true, true, true, true, false, false, true, false, false, true, false, true, true, true, true, true, true]) (S_viewportlaw06MunchScript_2 x1_0 x1_1 x1_2 x1_8 x1_9 x1_11 x1_15 x1_17 x1_18 1 (x1_3, x1_4, x1_5, x1_6, x1_7, x1_10, x1_12, x1_13, x1_14, x1_16, 0)) (X_viewportlaw06MunchScript_2 x1_0 x1_1 x1_2 x1_8 x1_9 x1_11 x1_15 x1_17 x1_18 1 (y1_8_0, y1_8_1, y1_8_2, y1_8_3, y1_8_4, y1_8_5, y1_8_6, y1_8_7, y1_8_8, y1_8_9)),
    FlatB (.cells (layT (iv x1_0)) 3),
    FlatB (.cells (layT (iv x1_1)) 3),
    G_munchScannerLexeme x1_0 x1_1 x1_2 y1_8_0 y1_8_1 y1_8_2 y1_8_3 y1_8_4 x1_8 (y1_9_0, y1_9_1, y1_9_2, y1_9_3, y1_9_4),
    FlatB (.cells (layT (iv x1_0)) 3),
    FlatB (.cells (layT (iv x1_1)) 3),
    G_viewportref06ScannerLexeme x1_9 y1_8_5 x1_11 y1_8_6 y1_8_7 y1_8_8 x1_15 y1_8_9 x1_17 (y1_10_0, y1_10_1, y1_10_2, y1_10_3, y1_10_4),
    (Value.bool (!((y1_9_0 == y1_10_0) && ((y1_9_1 == y1_10_1) && ((y1_9_2 == y1_10_2) && ((y1_9_3 == y1_10_3) && true)))))) = (Value.bool false),
    (Value.bool (!(y1_9_4 == y1_10_4))) = (Value.bool false),
    G_munchScannerExt x1_0 x1_1 x1_2 y1_8_0 y1_8_1 y1_8_2 y1_8_3 y1_8_4 x1_8 (),
    FlatB (.cells (layT (iv x1_0)) 3),
    FlatB (.cells (layT (iv x1_1)) 3),
    G_viewportref06ScannerExt x1_9 y1_8_5 x1_11 y1_8_6 y1_8_7 y1_8_8 x1_15 y1_8_9 x1_17 (),
    (Value.bool ((w64 (x1_2 + y1_8_0)) != (w64 (x1_11 + y1_8_6)))) = (Value.bool false),
    G_munchScannerSteps x1_0 x1_1 x1_2 y1_8_0 y1_8_1 y1_8_2 y1_8_3 y1_8_4 x1_8 (),
    FlatB (.cells (layT (iv x1_0)) 3),
    FlatB (.cells (layT (iv x1_1)) 3),
    (Value.bool (y1_8_0 != y1_8_6)) = (Value.bool false),
    FlatB (.cells (layT (iv x1_0)) 3),
    FlatB (.cells (layT (iv x1_1)) 3)]) (by kernel_rfl) ⟨(vbT hy1_1), (ixW (e := 44) (by kernel_rfl) (by kernel_rfl) (hy1_2).1 (hy1_2).2), (by kernel_rfl), (ldWS rwf_iis (0, 0, ByteArray.empty) (i := (x1_18).toNat) (q := 2) (L := Args.L) (Nat.add ((x1_18).toNat * 3) 2) rfl rfl (by kernel_rfl) (toNatLt hy1_2) (by decide) rfl), (vbF hy1_3), (ixW (e := 44) (by kernel_rfl) (by kernel_rfl) (hy1_2).1 (hy1_2).2), (by kernel_rfl), (ldWS rwf_iis (0, 0, ByteArray.empty) (i := (x1_18).toNat) (q := 0) (L := Args.L) (Nat.add ((x1_18).toNat * 3) 0) rfl rfl (by kernel_rfl) (toNatLt hy1_2) (by decide) rfl), (m_viewportkitPick_ok n ((gL x1_18).1) 3 y1_4_ hy1_4), (veF hy1_5), (ixW (e := 44) (by kernel_rfl) (by kernel_rfl) (hy1_2).1 (hy1_2).2), (by kernel_rfl), (ldWS rwf_iis (0, 0, ByteArray.empty) (i := (x1_18).toNat) (q := 0) (L := Args.L) (Nat.add ((x1_18).toNat * 3) 0) rfl rfl (by kernel_rfl) (toNatLt hy1_2) (by decide) rfl), (m_viewportkitPick_ok n ((gL x1_18).1) 3 y1_6_ hy1_6), (veF hy1_7), (m_viewportlaw06MunchScript_2_ok n x1_0 x1_1 x1_2 x1_8 x1_9 x1_11 x1_15 x1_17 x1_18 1 (x1_3, x1_4, x1_5, x1_6, x1_7, x1_10, x1_12, x1_13, x1_14, x1_16, 0) (y1_8_0, y1_8_1, y1_8_2, y1_8_3, y1_8_4, y1_8_5, y1_8_6, y1_8_7, y1_8_8, y1_8_9) hy1_8), (iv_flat _ _), (iv_flat _ _), (m_munchScannerLexeme_ok n x1_0 x1_1 x1_2 y1_8_0 y1_8_1 y1_8_2 y1_8_3 y1_8_4 x1_8 (y1_9_0, y1_9_1, y1_9_2, y1_9_3, y1_9_4) hy1_9), (iv_flat _ _), (iv_flat _ _), (m_viewportref06ScannerLexeme_ok n x1_9 y1_8_5 x1_11 y1_8_6 y1_8_7 y1_8_8 x1_15 y1_8_9 x1_17 (y1_10_0, y1_10_1, y1_10_2, y1_10_3, y1_10_4) hy1_10), (vB (Bool.eq_false_iff.2 hy1_11)), (vNeB (Bool.eq_false_iff.2 hy1_12) (Bool.eq_false_iff.2 hy1_13)), (m_munchScannerExt_ok n x1_0 x1_1 x1_2 y1_8_0 y1_8_1 y1_8_2 y1_8_3 y1_8_4 x1_8 () hy1_14), (iv_flat _ _), (iv_flat _ _), (m_viewportref06ScannerExt_ok n x1_9 y1_8_5 x1_11 y1_8_6 y1_8_7 y1_8_8 x1_15 y1_8_9 x1_17 () hy1_15), (vnF hy1_16), (m_munchScannerSteps_ok n x1_0 x1_1 x1_2 y1_8_0 y1_8_1 y1_8_2 y1_8_3 y1_8_4 x1_8 () hy1_17), (iv_flat _ _), (iv_flat _ _), (vnF hy1_18), (iv_flat _ _), (iv_flat _ _), trivial⟩
set_option maxRecDepth 100000 in
theorem q_viewportlaw06MunchScript_1_7 (n : Nat) (x1_0 : List Int) (x1_1 : List Int) (x1_2 : Int) (x1_3 : Int) (x1_4 : Int) (x1_5 : Int) (x1_6 : Int) (x1_7 : Bool) (x1_8 : Bool) (x1_9 : Bool) (x1_10 : Bool) (x1_11 : Int) (x1_12 : Int) (x1_13 : Int) (x1_14 : Int) (x1_15 : Int) (x1_16 : Int) (x1_17 : Int) (x1_18 : Int) (hy1_1 : ¬ (x1_18 < (((Args.L).length : Nat) : Int))) : CG P none (fnN P 4) 0 (codeOf P 4 [false, false, true, false, true, true, true, true, true, true]) (S_viewportlaw06MunchScript_1 x1_0 x1_1 (x1_2, x1_3, x1_4, x1_5, x1_6, x1_7, x1_8, x1_9, x1_10, x1_11, x1_12, x1_13, x1_14, x1_15, x1_16, x1_17, x1_18)) (X_viewportlaw06MunchScript_1 x1_0 x1_1 (.inr ())) :=
  runC_ok hm (A := aT [(5, .val (.bool false))]) (L := lT []) (wk := ⟨[], [], 0, 0⟩)
    (ps := [(Value.bool (decide (x1_18 < (((Args.L).length : Nat) : Int)))) = (Value.bool false)]) (by kernel_rfl) ⟨(vbF hy1_1), trivial⟩
theorem m_viewportlaw06MunchScript_1_ok (n : Nat) (x1_0 : List Int) (x1_1 : List Int) (st : Int × Int × Int × Int × Int × Bool × Bool × Bool × Bool × Int × Int × Int × Int × Int × Int × Int × Int) (r : (Unit) ⊕ (Unit)) (h : m_viewportlaw06MunchScript_1 n x1_0 x1_1 st = some r) : CG P none (fnN P 4) 0 (codeOf P 4 [false, true, false, true, true, true, true, true, true]) (S_viewportlaw06MunchScript_1 x1_0 x1_1 st) (X_viewportlaw06MunchScript_1 x1_0 x1_1 r) :=
  CG.iter (b := codeOf P 4 [false, false, true, false, true, true, true, true, true, true]) (by kernel_rfl) (body := B_viewportlaw06MunchScript_1 n x1_0 x1_1) (S := S_viewportlaw06MunchScript_1 x1_0 x1_1) (X := X_viewportlaw06MunchScript_1 x1_0 x1_1)
    (fun s s' h => by
    obtain ⟨x1_2, x1_3, x1_4, x1_5, x1_6, x1_7, x1_8, x1_9, x1_10, x1_11, x1_12, x1_13, x1_14, x1_15, x1_16, x1_17, x1_18⟩ := s
    unfold B_viewportlaw06MunchScript_1 at h
    dsimp only at h
    by_cases hy1_1 : x1_18 < (((Args.L).length : Nat) : Int)
    · rw [if_pos hy1_1] at h
      by_cases hy1_2 : 0 ≤ x1_18 ∧ x1_18 < (((Args.L).length : Nat) : Int)
      · rw [if_pos hy1_2] at h
        by_cases hy1_3 : (((((gL x1_18).2.2)).size : Nat) : Int) > (60 : Int)
        · rw [if_pos hy1_3] at h
          cases h
        · rw [if_neg hy1_3] at h
          obtain ⟨y1_4_, hy1_4, h⟩ := Option.bind_eq_some_iff.1 h
          by_cases hy1_5 : y1_4_ = (2 : Int)
          · rw [if_pos hy1_5] at h
            obtain ⟨y1_6_, hy1_6, h⟩ := Option.bind_eq_some_iff.1 h
            by_cases hy1_7 : y1_6_ = (0 : Int)
            · rw [if_pos hy1_7] at h
              cases h
            · rw [if_neg hy1_7] at h
              obtain ⟨⟨y1_8_0, y1_8_1, y1_8_2, y1_8_3, y1_8_4, y1_8_5, y1_8_6, y1_8_7, y1_8_8, y1_8_9⟩, hy1_8, h⟩ := Option.bind_eq_some_iff.1 h
              dsimp only at h
              obtain ⟨⟨y1_9_0, y1_9_1, y1_9_2, y1_9_3, y1_9_4⟩, hy1_9, h⟩ := Option.bind_eq_some_iff.1 h
              dsimp only at h
              obtain ⟨⟨y1_10_0, y1_10_1, y1_10_2, y1_10_3, y1_10_4⟩, hy1_10, h⟩ := Option.bind_eq_some_iff.1 h
              dsimp only at h
              by_cases hy1_11 : (!((y1_9_0 == y1_10_0) && ((y1_9_1 == y1_10_1) && ((y1_9_2 == y1_10_2) && ((y1_9_3 == y1_10_3) && true))))) = true
              · rw [if_pos hy1_11] at h
                cases h
              · rw [if_neg hy1_11] at h
                by_cases hy1_12 : y1_9_4 = true
                · rw [if_pos hy1_12] at h
                  by_cases hy1_13 : y1_10_4 = true
                  · rw [if_pos hy1_13] at h
                    obtain ⟨_, hy1_14, h⟩ := Option.bind_eq_some_iff.1 h
                    obtain ⟨_, hy1_15, h⟩ := Option.bind_eq_some_iff.1 h
                    by_cases hy1_16 : (w64 (x1_2 + y1_8_0)) = (w64 (x1_11 + y1_8_6))
                    · rw [if_pos hy1_16] at h
                      obtain ⟨_, hy1_17, h⟩ := Option.bind_eq_some_iff.1 h
                      by_cases hy1_18 : y1_8_0 = y1_8_6
                      · rw [if_pos hy1_18] at h
                        obtain rfl := Sum.inl.inj (Option.some.inj h); exact q_viewportlaw06MunchScript_1_1 n x1_0 x1_1 x1_2 x1_3 x1_4 x1_5 x1_6 x1_7 x1_8 x1_9 x1_10 x1_11 x1_12 x1_13 x1_14 x1_15 x1_16 x1_17 x1_18 hy1_1 hy1_2 hy1_3 y1_4_ hy1_4 hy1_5 y1_6_ hy1_6 hy1_7 y1_8_0 y1_8_1 y1_8_2 y1_8_3 y1_8_4 y1_8_5 y1_8_6 y1_8_7 y1_8_8 y1_8_9 hy1_8 y1_9_0 y1_9_1 y1_9_2 y1_9_3 y1_9_4 hy1_9 y1_10_0 y1_10_1 y1_10_2 y1_10_3 y1_10_4 hy1_10 hy1_11 hy1_12 hy1_13 hy1_14 hy1_15 hy1_16 hy1_17 hy1_18
                      · rw [if_neg hy1_18] at h
                        cases h
                    · rw [if_neg hy1_16] at h
                      cases h
                  · rw [if_neg hy1_13] at h
                    cases h
                · rw [if_neg hy1_12] at h
                  by_cases hy1_13 : y1_10_4 = true
                  · rw [if_pos hy1_13] at h
                    cases h
                  · rw [if_neg hy1_13] at h
                    obtain ⟨_, hy1_14, h⟩ := Option.bind_eq_some_iff.1 h
                    obtain ⟨_, hy1_15, h⟩ := Option.bind_eq_some_iff.1 h
                    by_cases hy1_16 : (w64 (x1_2 + y1_8_0)) = (w64 (x1_11 + y1_8_6))
                    · rw [if_pos hy1_16] at h
                      obtain ⟨_, hy1_17, h⟩ := Option.bind_eq_some_iff.1 h
                      by_cases hy1_18 : y1_8_0 = y1_8_6
                      · rw [if_pos hy1_18] at h
                        obtain rfl := Sum.inl.inj (Option.some.inj h); exact q_viewportlaw06MunchScript_1_2 n x1_0 x1_1 x1_2 x1_3 x1_4 x1_5 x1_6 x1_7 x1_8 x1_9 x1_10 x1_11 x1_12 x1_13 x1_14 x1_15 x1_16 x1_17 x1_18 hy1_1 hy1_2 hy1_3 y1_4_ hy1_4 hy1_5 y1_6_ hy1_6 hy1_7 y1_8_0 y1_8_1 y1_8_2 y1_8_3 y1_8_4 y1_8_5 y1_8_6 y1_8_7 y1_8_8 y1_8_9 hy1_8 y1_9_0 y1_9_1 y1_9_2 y1_9_3 y1_9_4 hy1_9 y1_10_0 y1_10_1 y1_10_2 y1_10_3 y1_10_4 hy1_10 hy1_11 hy1_12 hy1_13 hy1_14 hy1_15 hy1_16 hy1_17 hy1_18
                      · rw [if_neg hy1_18] at h
                        cases h
                    · rw [if_neg hy1_16] at h
                      cases h
          · rw [if_neg hy1_5] at h
            obtain ⟨y1_6_, hy1_6, h⟩ := Option.bind_eq_some_iff.1 h
            by_cases hy1_7 : y1_6_ = (0 : Int)
            · rw [if_pos hy1_7] at h
              obtain ⟨⟨y1_8_0, y1_8_1, y1_8_2, y1_8_3, y1_8_4, y1_8_5, y1_8_6, y1_8_7⟩, hy1_8, h⟩ := Option.bind_eq_some_iff.1 h
              dsimp only at h
              obtain ⟨⟨y1_9_0, y1_9_1, y1_9_2, y1_9_3, y1_9_4, y1_9_5, y1_9_6, y1_9_7, y1_9_8, y1_9_9⟩, hy1_9, h⟩ := Option.bind_eq_some_iff.1 h
              dsimp only at h
              by_cases hy1_10 : y1_8_7 = y1_9_9
              · rw [if_pos hy1_10] at h
                obtain ⟨⟨y1_11_0, y1_11_1, y1_11_2, y1_11_3, y1_11_4, y1_11_5, y1_11_6, y1_11_7, y1_11_8, y1_11_9⟩, hy1_11, h⟩ := Option.bind_eq_some_iff.1 h
                dsimp only at h
                obtain ⟨⟨y1_12_0, y1_12_1, y1_12_2, y1_12_3, y1_12_4⟩, hy1_12, h⟩ := Option.bind_eq_some_iff.1 h
                dsimp only at h
                obtain ⟨⟨y1_13_0, y1_13_1, y1_13_2, y1_13_3, y1_13_4⟩, hy1_13, h⟩ := Option.bind_eq_some_iff.1 h
                dsimp only at h
                by_cases hy1_14 : (!((y1_12_0 == y1_13_0) && ((y1_12_1 == y1_13_1) && ((y1_12_2 == y1_13_2) && ((y1_12_3 == y1_13_3) && true))))) = true
                · rw [if_pos hy1_14] at h
                  cases h
                · rw [if_neg hy1_14] at h
                  by_cases hy1_15 : y1_12_4 = true
                  · rw [if_pos hy1_15] at h
                    by_cases hy1_16 : y1_13_4 = true
                    · rw [if_pos hy1_16] at h
                      obtain ⟨_, hy1_17, h⟩ := Option.bind_eq_some_iff.1 h
                      obtain ⟨_, hy1_18, h⟩ := Option.bind_eq_some_iff.1 h
                      by_cases hy1_19 : (w64 (y1_8_0 + y1_11_0)) = (w64 (y1_9_2 + y1_11_6))
                      · rw [if_pos hy1_19] at h
                        obtain ⟨_, hy1_20, h⟩ := Option.bind_eq_some_iff.1 h
                        by_cases hy1_21 : y1_11_0 = y1_11_6
                        · rw [if_pos hy1_21] at h
                          obtain rfl := Sum.inl.inj (Option.some.inj h); exact q_viewportlaw06MunchScript_1_3 n x1_0 x1_1 x1_2 x1_3 x1_4 x1_5 x1_6 x1_7 x1_8 x1_9 x1_10 x1_11 x1_12 x1_13 x1_14 x1_15 x1_16 x1_17 x1_18 hy1_1 hy1_2 hy1_3 y1_4_ hy1_4 hy1_5 y1_6_ hy1_6 hy1_7 y1_8_0 y1_8_1 y1_8_2 y1_8_3 y1_8_4 y1_8_5 y1_8_6 y1_8_7 hy1_8 y1_9_0 y1_9_1 y1_9_2 y1_9_3 y1_9_4 y1_9_5 y1_9_6 y1_9_7 y1_9_8 y1_9_9 hy1_9 hy1_10 y1_11_0 y1_11_1 y1_11_2 y1_11_3 y1_11_4 y1_11_5 y1_11_6 y1_11_7 y1_11_8 y1_11_9 hy1_11 y1_12_0 y1_12_1 y1_12_2 y1_12_3 y1_12_4 hy1_12 y1_13_0 y1_13_1 y1_13_2 y1_13_3 y1_13_4 hy1_13 hy1_14 hy1_15 hy1_16 hy1_17 hy1_18 hy1_19 hy1_20 hy1_21
                        · rw [if_neg hy1_21] at h
                          cases h
                      · rw [if_neg hy1_19] at h
                        cases h
                    · rw [if_neg hy1_16] at h
                      cases h
                  · rw [if_neg hy1_15] at h
                    by_cases hy1_16 : y1_13_4 = true
                    · rw [if_pos hy1_16] at h
                      cases h
                    · rw [if_neg hy1_16] at h
                      obtain ⟨_, hy1_17, h⟩ := Option.bind_eq_some_iff.1 h
                      obtain ⟨_, hy1_18, h⟩ := Option.bind_eq_some_iff.1 h
                      by_cases hy1_19 : (w64 (y1_8_0 + y1_11_0)) = (w64 (y1_9_2 + y1_11_6))
                      · rw [if_pos hy1_19] at h
                        obtain ⟨_, hy1_20, h⟩ := Option.bind_eq_some_iff.1 h
                        by_cases hy1_21 : y1_11_0 = y1_11_6
                        · rw [if_pos hy1_21] at h
                          obtain rfl := Sum.inl.inj (Option.some.inj h); exact q_viewportlaw06MunchScript_1_4 n x1_0 x1_1 x1_2 x1_3 x1_4 x1_5 x1_6 x1_7 x1_8 x1_9 x1_10 x1_11 x1_12 x1_13 x1_14 x1_15 x1_16 x1_17 x1_18 hy1_1 hy1_2 hy1_3 y1_4_ hy1_4 hy1_5 y1_6_ hy1_6 hy1_7 y1_8_0 y1_8_1 y1_8_2 y1_8_3 y1_8_4 y1_8_5 y1_8_6 y1_8_7 hy1_8 y1_9_0 y1_9_1 y1_9_2 y1_9_3 y1_9_4 y1_9_5 y1_9_6 y1_9_7 y1_9_8 y1_9_9 hy1_9 hy1_10 y1_11_0 y1_11_1 y1_11_2 y1_11_3 y1_11_4 y1_11_5 y1_11_6 y1_11_7 y1_11_8 y1_11_9 hy1_11 y1_12_0 y1_12_1 y1_12_2 y1_12_3 y1_12_4 hy1_12 y1_13_0 y1_13_1 y1_13_2 y1_13_3 y1_13_4 hy1_13 hy1_14 hy1_15 hy1_16 hy1_17 hy1_18 hy1_19 hy1_20 hy1_21
                        · rw [if_neg hy1_21] at h
                          cases h
                      · rw [if_neg hy1_19] at h
                        cases h
              · rw [if_neg hy1_10] at h
                cases h
            · rw [if_neg hy1_7] at h
              obtain ⟨⟨y1_8_0, y1_8_1, y1_8_2, y1_8_3, y1_8_4, y1_8_5, y1_8_6, y1_8_7, y1_8_8, y1_8_9⟩, hy1_8, h⟩ := Option.bind_eq_some_iff.1 h
              dsimp only at h
              obtain ⟨⟨y1_9_0, y1_9_1, y1_9_2, y1_9_3, y1_9_4⟩, hy1_9, h⟩ := Option.bind_eq_some_iff.1 h
              dsimp only at h
              obtain ⟨⟨y1_10_0, y1_10_1, y1_10_2, y1_10_3, y1_10_4⟩, hy1_10, h⟩ := Option.bind_eq_some_iff.1 h
              dsimp only at h
              by_cases hy1_11 : (!((y1_9_0 == y1_10_0) && ((y1_9_1 == y1_10_1) && ((y1_9_2 == y1_10_2) && ((y1_9_3 == y1_10_3) && true))))) = true
              · rw [if_pos hy1_11] at h
                cases h
              · rw [if_neg hy1_11] at h
                by_cases hy1_12 : y1_9_4 = true
                · rw [if_pos hy1_12] at h
                  by_cases hy1_13 : y1_10_4 = true
                  · rw [if_pos hy1_13] at h
                    obtain ⟨_, hy1_14, h⟩ := Option.bind_eq_some_iff.1 h
                    obtain ⟨_, hy1_15, h⟩ := Option.bind_eq_some_iff.1 h
                    by_cases hy1_16 : (w64 (x1_2 + y1_8_0)) = (w64 (x1_11 + y1_8_6))
                    · rw [if_pos hy1_16] at h
                      obtain ⟨_, hy1_17, h⟩ := Option.bind_eq_some_iff.1 h
                      by_cases hy1_18 : y1_8_0 = y1_8_6
                      · rw [if_pos hy1_18] at h
                        obtain rfl := Sum.inl.inj (Option.some.inj h); exact q_viewportlaw06MunchScript_1_5 n x1_0 x1_1 x1_2 x1_3 x1_4 x1_5 x1_6 x1_7 x1_8 x1_9 x1_10 x1_11 x1_12 x1_13 x1_14 x1_15 x1_16 x1_17 x1_18 hy1_1 hy1_2 hy1_3 y1_4_ hy1_4 hy1_5 y1_6_ hy1_6 hy1_7 y1_8_0 y1_8_1 y1_8_2 y1_8_3 y1_8_4 y1_8_5 y1_8_6 y1_8_7 y1_8_8 y1_8_9 hy1_8 y1_9_0 y1_9_1 y1_9_2 y1_9_3 y1_9_4 hy1_9 y1_10_0 y1_10_1 y1_10_2 y1_10_3 y1_10_4 hy1_10 hy1_11 hy1_12 hy1_13 hy1_14 hy1_15 hy1_16 hy1_17 hy1_18
                      · rw [if_neg hy1_18] at h
                        cases h
                    · rw [if_neg hy1_16] at h
                      cases h
                  · rw [if_neg hy1_13] at h
                    cases h
                · rw [if_neg hy1_12] at h
                  by_cases hy1_13 : y1_10_4 = true
                  · rw [if_pos hy1_13] at h
                    cases h
                  · rw [if_neg hy1_13] at h
                    obtain ⟨_, hy1_14, h⟩ := Option.bind_eq_some_iff.1 h
                    obtain ⟨_, hy1_15, h⟩ := Option.bind_eq_some_iff.1 h
                    by_cases hy1_16 : (w64 (x1_2 + y1_8_0)) = (w64 (x1_11 + y1_8_6))
                    · rw [if_pos hy1_16] at h
                      obtain ⟨_, hy1_17, h⟩ := Option.bind_eq_some_iff.1 h
                      by_cases hy1_18 : y1_8_0 = y1_8_6
                      · rw [if_pos hy1_18] at h
                        obtain rfl := Sum.inl.inj (Option.some.inj h); exact q_viewportlaw06MunchScript_1_6 n x1_0 x1_1 x1_2 x1_3 x1_4 x1_5 x1_6 x1_7 x1_8 x1_9 x1_10 x1_11 x1_12 x1_13 x1_14 x1_15 x1_16 x1_17 x1_18 hy1_1 hy1_2 hy1_3 y1_4_ hy1_4 hy1_5 y1_6_ hy1_6 hy1_7 y1_8_0 y1_8_1 y1_8_2 y1_8_3 y1_8_4 y1_8_5 y1_8_6 y1_8_7 y1_8_8 y1_8_9 hy1_8 y1_9_0 y1_9_1 y1_9_2 y1_9_3 y1_9_4 hy1_9 y1_10_0 y1_10_1 y1_10_2 y1_10_3 y1_10_4 hy1_10 hy1_11 hy1_12 hy1_13 hy1_14 hy1_15 hy1_16 hy1_17 hy1_18
                      · rw [if_neg hy1_18] at h
                        cases h
                    · rw [if_neg hy1_16] at h
                      cases h
      · rw [if_neg hy1_2] at h; cases h
    · rw [if_neg hy1_1] at h
      cases h)
    (fun s r h => by
    obtain ⟨x1_2, x1_3, x1_4, x1_5, x1_6, x1_7, x1_8, x1_9, x1_10, x1_11, x1_12, x1_13, x1_14, x1_15, x1_16, x1_17, x1_18⟩ := s
    unfold B_viewportlaw06MunchScript_1 at h
    dsimp only at h
    by_cases hy1_1 : x1_18 < (((Args.L).length : Nat) : Int)
    · rw [if_pos hy1_1] at h
      by_cases hy1_2 : 0 ≤ x1_18 ∧ x1_18 < (((Args.L).length : Nat) : Int)
      · rw [if_pos hy1_2] at h
        by_cases hy1_3 : (((((gL x1_18).2.2)).size : Nat) : Int) > (60 : Int)
        · rw [if_pos hy1_3] at h
          obtain rfl := Sum.inr.inj (Option.some.inj h); exact q_viewportlaw06MunchScript_1_0 n x1_0 x1_1 x1_2 x1_3 x1_4 x1_5 x1_6 x1_7 x1_8 x1_9 x1_10 x1_11 x1_12 x1_13 x1_14 x1_15 x1_16 x1_17 x1_18 hy1_1 hy1_2 hy1_3
        · rw [if_neg hy1_3] at h
          obtain ⟨y1_4_, hy1_4, h⟩ := Option.bind_eq_some_iff.1 h
          by_cases hy1_5 : y1_4_ = (2 : Int)
          · rw [if_pos hy1_5] at h
            obtain ⟨y1_6_, hy1_6, h⟩ := Option.bind_eq_some_iff.1 h
            by_cases hy1_7 : y1_6_ = (0 : Int)
            · rw [if_pos hy1_7] at h
              cases h
            · rw [if_neg hy1_7] at h
              obtain ⟨⟨y1_8_0, y1_8_1, y1_8_2, y1_8_3, y1_8_4, y1_8_5, y1_8_6, y1_8_7, y1_8_8, y1_8_9⟩, hy1_8, h⟩ := Option.bind_eq_some_iff.1 h
              dsimp only at h
              obtain ⟨⟨y1_9_0, y1_9_1, y1_9_2, y1_9_3, y1_9_4⟩, hy1_9, h⟩ := Option.bind_eq_some_iff.1 h
              dsimp only at h
              obtain ⟨⟨y1_10_0, y1_10_1, y1_10_2, y1_10_3, y1_10_4⟩, hy1_10, h⟩ := Option.bind_eq_some_iff.1 h
              dsimp only at h
              by_cases hy1_11 : (!((y1_9_0 == y1_10_0) && ((y1_9_1 == y1_10_1) && ((y1_9_2 == y1_10_2) && ((y1_9_3 == y1_10_3) && true))))) = true
              · rw [if_pos hy1_11] at h
                cases h
              · rw [if_neg hy1_11] at h
                by_cases hy1_12 : y1_9_4 = true
                · rw [if_pos hy1_12] at h
                  by_cases hy1_13 : y1_10_4 = true
                  · rw [if_pos hy1_13] at h
                    obtain ⟨_, hy1_14, h⟩ := Option.bind_eq_some_iff.1 h
                    obtain ⟨_, hy1_15, h⟩ := Option.bind_eq_some_iff.1 h
                    by_cases hy1_16 : (w64 (x1_2 + y1_8_0)) = (w64 (x1_11 + y1_8_6))
                    · rw [if_pos hy1_16] at h
                      obtain ⟨_, hy1_17, h⟩ := Option.bind_eq_some_iff.1 h
                      by_cases hy1_18 : y1_8_0 = y1_8_6
                      · rw [if_pos hy1_18] at h
                        cases h
                      · rw [if_neg hy1_18] at h
                        cases h
                    · rw [if_neg hy1_16] at h
                      cases h
                  · rw [if_neg hy1_13] at h
                    cases h
                · rw [if_neg hy1_12] at h
                  by_cases hy1_13 : y1_10_4 = true
                  · rw [if_pos hy1_13] at h
                    cases h
                  · rw [if_neg hy1_13] at h
                    obtain ⟨_, hy1_14, h⟩ := Option.bind_eq_some_iff.1 h
                    obtain ⟨_, hy1_15, h⟩ := Option.bind_eq_some_iff.1 h
                    by_cases hy1_16 : (w64 (x1_2 + y1_8_0)) = (w64 (x1_11 + y1_8_6))
                    · rw [if_pos hy1_16] at h
                      obtain ⟨_, hy1_17, h⟩ := Option.bind_eq_some_iff.1 h
                      by_cases hy1_18 : y1_8_0 = y1_8_6
                      · rw [if_pos hy1_18] at h
                        cases h
                      · rw [if_neg hy1_18] at h
                        cases h
                    · rw [if_neg hy1_16] at h
                      cases h
          · rw [if_neg hy1_5] at h
            obtain ⟨y1_6_, hy1_6, h⟩ := Option.bind_eq_some_iff.1 h
            by_cases hy1_7 : y1_6_ = (0 : Int)
            · rw [if_pos hy1_7] at h
              obtain ⟨⟨y1_8_0, y1_8_1, y1_8_2, y1_8_3, y1_8_4, y1_8_5, y1_8_6, y1_8_7⟩, hy1_8, h⟩ := Option.bind_eq_some_iff.1 h
              dsimp only at h
              obtain ⟨⟨y1_9_0, y1_9_1, y1_9_2, y1_9_3, y1_9_4, y1_9_5, y1_9_6, y1_9_7, y1_9_8, y1_9_9⟩, hy1_9, h⟩ := Option.bind_eq_some_iff.1 h
              dsimp only at h
              by_cases hy1_10 : y1_8_7 = y1_9_9
              · rw [if_pos hy1_10] at h
                obtain ⟨⟨y1_11_0, y1_11_1, y1_11_2, y1_11_3, y1_11_4, y1_11_5, y1_11_6, y1_11_7, y1_11_8, y1_11_9⟩, hy1_11, h⟩ := Option.bind_eq_some_iff.1 h
                dsimp only at h
                obtain ⟨⟨y1_12_0, y1_12_1, y1_12_2, y1_12_3, y1_12_4⟩, hy1_12, h⟩ := Option.bind_eq_some_iff.1 h
                dsimp only at h
                obtain ⟨⟨y1_13_0, y1_13_1, y1_13_2, y1_13_3, y1_13_4⟩, hy1_13, h⟩ := Option.bind_eq_some_iff.1 h
                dsimp only at h
                by_cases hy1_14 : (!((y1_12_0 == y1_13_0) && ((y1_12_1 == y1_13_1) && ((y1_12_2 == y1_13_2) && ((y1_12_3 == y1_13_3) && true))))) = true
                · rw [if_pos hy1_14] at h
                  cases h
                · rw [if_neg hy1_14] at h
                  by_cases hy1_15 : y1_12_4 = true
                  · rw [if_pos hy1_15] at h
                    by_cases hy1_16 : y1_13_4 = true
                    · rw [if_pos hy1_16] at h
                      obtain ⟨_, hy1_17, h⟩ := Option.bind_eq_some_iff.1 h
                      obtain ⟨_, hy1_18, h⟩ := Option.bind_eq_some_iff.1 h
                      by_cases hy1_19 : (w64 (y1_8_0 + y1_11_0)) = (w64 (y1_9_2 + y1_11_6))
                      · rw [if_pos hy1_19] at h
                        obtain ⟨_, hy1_20, h⟩ := Option.bind_eq_some_iff.1 h
                        by_cases hy1_21 : y1_11_0 = y1_11_6
                        · rw [if_pos hy1_21] at h
                          cases h
                        · rw [if_neg hy1_21] at h
                          cases h
                      · rw [if_neg hy1_19] at h
                        cases h
                    · rw [if_neg hy1_16] at h
                      cases h
                  · rw [if_neg hy1_15] at h
                    by_cases hy1_16 : y1_13_4 = true
                    · rw [if_pos hy1_16] at h
                      cases h
                    · rw [if_neg hy1_16] at h
                      obtain ⟨_, hy1_17, h⟩ := Option.bind_eq_some_iff.1 h
                      obtain ⟨_, hy1_18, h⟩ := Option.bind_eq_some_iff.1 h
                      by_cases hy1_19 : (w64 (y1_8_0 + y1_11_0)) = (w64 (y1_9_2 + y1_11_6))
                      · rw [if_pos hy1_19] at h
                        obtain ⟨_, hy1_20, h⟩ := Option.bind_eq_some_iff.1 h
                        by_cases hy1_21 : y1_11_0 = y1_11_6
                        · rw [if_pos hy1_21] at h
                          cases h
                        · rw [if_neg hy1_21] at h
                          cases h
                      · rw [if_neg hy1_19] at h
                        cases h
              · rw [if_neg hy1_10] at h
                cases h
            · rw [if_neg hy1_7] at h
              obtain ⟨⟨y1_8_0, y1_8_1, y1_8_2, y1_8_3, y1_8_4, y1_8_5, y1_8_6, y1_8_7, y1_8_8, y1_8_9⟩, hy1_8, h⟩ := Option.bind_eq_some_iff.1 h
              dsimp only at h
              obtain ⟨⟨y1_9_0, y1_9_1, y1_9_2, y1_9_3, y1_9_4⟩, hy1_9, h⟩ := Option.bind_eq_some_iff.1 h
              dsimp only at h
              obtain ⟨⟨y1_10_0, y1_10_1, y1_10_2, y1_10_3, y1_10_4⟩, hy1_10, h⟩ := Option.bind_eq_some_iff.1 h
              dsimp only at h
              by_cases hy1_11 : (!((y1_9_0 == y1_10_0) && ((y1_9_1 == y1_10_1) && ((y1_9_2 == y1_10_2) && ((y1_9_3 == y1_10_3) && true))))) = true
              · rw [if_pos hy1_11] at h
                cases h
              · rw [if_neg hy1_11] at h
                by_cases hy1_12 : y1_9_4 = true
                · rw [if_pos hy1_12] at h
                  by_cases hy1_13 : y1_10_4 = true
                  · rw [if_pos hy1_13] at h
                    obtain ⟨_, hy1_14, h⟩ := Option.bind_eq_some_iff.1 h
                    obtain ⟨_, hy1_15, h⟩ := Option.bind_eq_some_iff.1 h
                    by_cases hy1_16 : (w64 (x1_2 + y1_8_0)) = (w64 (x1_11 + y1_8_6))
                    · rw [if_pos hy1_16] at h
                      obtain ⟨_, hy1_17, h⟩ := Option.bind_eq_some_iff.1 h
                      by_cases hy1_18 : y1_8_0 = y1_8_6
                      · rw [if_pos hy1_18] at h
                        cases h
                      · rw [if_neg hy1_18] at h
                        cases h
                    · rw [if_neg hy1_16] at h
                      cases h
                  · rw [if_neg hy1_13] at h
                    cases h
                · rw [if_neg hy1_12] at h
                  by_cases hy1_13 : y1_10_4 = true
                  · rw [if_pos hy1_13] at h
                    cases h
                  · rw [if_neg hy1_13] at h
                    obtain ⟨_, hy1_14, h⟩ := Option.bind_eq_some_iff.1 h
                    obtain ⟨_, hy1_15, h⟩ := Option.bind_eq_some_iff.1 h
                    by_cases hy1_16 : (w64 (x1_2 + y1_8_0)) = (w64 (x1_11 + y1_8_6))
                    · rw [if_pos hy1_16] at h
                      obtain ⟨_, hy1_17, h⟩ := Option.bind_eq_some_iff.1 h
                      by_cases hy1_18 : y1_8_0 = y1_8_6
                      · rw [if_pos hy1_18] at h
                        cases h
                      · rw [if_neg hy1_18] at h
                        cases h
                    · rw [if_neg hy1_16] at h
                      cases h
      · rw [if_neg hy1_2] at h; cases h
    · rw [if_neg hy1_1] at h
      obtain rfl := Sum.inr.inj (Option.some.inj h); exact q_viewportlaw06MunchScript_1_7 n x1_0 x1_1 x1_2 x1_3 x1_4 x1_5 x1_6 x1_7 x1_8 x1_9 x1_10 x1_11 x1_12 x1_13 x1_14 x1_15 x1_16 x1_17 x1_18 hy1_1)
    (fun r => by intro hx; rcases r with _ | _ <;> cases hx) h
noncomputable def S_viewportlaw06MunchScript_3 (st : Unit) : XSt := match st with
  | _ => (sT 168 [(1, (Value.slice (some ⟨2, 0, some 1⟩) (Args.L).length Args.cL)), (5, (Value.pointer none)), (7, (Value.pointer none)), (9, (Value.int .i64 (0 : Int)))], [], ⟨sB [], 0, 0⟩)
noncomputable def X_viewportlaw06MunchScript_3 (r : Unit) : Ex × XSt := match r with
  | _ => (.exit 0, (sT 168 [], [], ⟨sB [], 0, 0⟩))
def B_viewportlaw06MunchScript_3 (n : Nat) (st : Unit) : Option ((Unit) ⊕ (Unit)) := match st with
  | _ =>
    if (0 : Int) < (((Args.L).length : Nat) : Int) then
      some (.inr ())
    else
      some (.inr ())
def m_viewportlaw06MunchScript_3 (n : Nat) (st : Unit) : Option (Unit) := iterM (B_viewportlaw06MunchScript_3 n) n st
set_option maxRecDepth 100000 in
theorem q_viewportlaw06MunchScript_3_0 (n : Nat) (hy3_1 : (0 : Int) < (((Args.L).length : Nat) : Int)) : CG P none (fnN P 4) 0 (codeOf P 4 [false, false, true, false, true, true, true, true, true, true]) (S_viewportlaw06MunchScript_3 ()) (X_viewportlaw06MunchScript_3 ()) :=
  runC_ok hm (A := aT [(5, .val (.bool true))]) (L := lT []) (wk := ⟨[], [], 0, 0⟩)
    (ps := [(Value.bool (decide ((0 : Int) < (((Args.L).length : Nat) : Int)))) = (Value.bool true)]) (by kernel_rfl) ⟨(vbT hy3_1), trivial⟩
set_option maxRecDepth 100000 in
theorem q_viewportlaw06MunchScript_3_1 (n : Nat) (hy3_1 : ¬ ((0 : Int) < (((Args.L).length : Nat) : Int))) : CG P none (fnN P 4) 0 (codeOf P 4 [false, false, true, false, true, true, true, true, true, true]) (S_viewportlaw06MunchScript_3 ()) (X_viewportlaw06MunchScript_3 ()) :=
  runC_ok hm (A := aT [(5, .val (.bool false))]) (L := lT []) (wk := ⟨[], [], 0, 0⟩)
    (ps := [(Value.bool (decide ((0 : Int) < (((Args.L).length : Nat) : Int)))) = (Value.bool false)]) (by kernel_rfl) ⟨(vbF hy3_1), trivial⟩
theorem m_viewportlaw06MunchScript_3_ok (n : Nat) (st : Unit) (r : Unit) (h : m_viewportlaw06MunchScript_3 n st = some r) : CG P none (fnN P 4) 0 (codeOf P 4 [false, true, false, true, true, true, true, true, true]) (S_viewportlaw06MunchScript_3 st) (X_viewportlaw06MunchScript_3 r) :=
  CG.iter (b := codeOf P 4 [false, false, true, false, true, true, true, true, true, true]) (by kernel_rfl) (body := B_viewportlaw06MunchScript_3 n) (S := S_viewportlaw06MunchScript_3) (X := X_viewportlaw06MunchScript_3)
    (fun s s' h => by
    unfold B_viewportlaw06MunchScript_3 at h
    dsimp only at h
    by_cases hy3_1 : (0 : Int) < (((Args.L).length : Nat) : Int)
    · rw [if_pos hy3_1] at h
      cases h
    · rw [if_neg hy3_1] at h
      cases h)
    (fun s r h => by
    unfold B_viewportlaw06MunchScript_3 at h
    dsimp only at h
    by_cases hy3_1 : (0 : Int) < (((Args.L).length : Nat) : Int)
    · rw [if_pos hy3_1] at h
      obtain rfl := Sum.inr.inj (Option.some.inj h); exact q_viewportlaw06MunchScript_3_0 n hy3_1
    · rw [if_neg hy3_1] at h
      obtain rfl := Sum.inr.inj (Option.some.inj h); exact q_viewportlaw06MunchScript_3_1 n hy3_1)
    (fun r => by intro hx; cases hx) h
noncomputable def A_viewportlaw06MunchScript : List Value := [(Value.agg #[(Value.slice (some ⟨0, 0, some 1⟩) (Args.N).length Args.cN), (Value.slice (some ⟨1, 0, some 1⟩) (Args.R).length Args.cR)]), (Value.slice (some ⟨2, 0, some 1⟩) (Args.L).length Args.cL)]
noncomputable def H_viewportlaw06MunchScript : AH := ⟨sB [], 0, 0⟩
noncomputable def V_viewportlaw06MunchScript (r : Unit) : Value := match r with
  | _ => (Value.bool true)
noncomputable def R_viewportlaw06MunchScript (r : Unit) : AH := match r with
  | _ => ⟨sB [], 0, 0⟩
noncomputable abbrev G_viewportlaw06MunchScript  (r : Unit) : Prop := Gv P (.func 4) (A_viewportlaw06MunchScript ) (H_viewportlaw06MunchScript ) (V_viewportlaw06MunchScript  r) (R_viewportlaw06MunchScript  r)
def m_viewportlaw06MunchScript (n : Nat) : Option (Unit) :=
  (m_viewportlaw06lives n).bind fun _ =>
  (m_viewportkitLightDfa n 24).bind fun c2_ =>
  if c2_ = true then
    if (((Args.L).length : Nat) : Int) > (40 : Int) then
      some ()
    else
      match m_munchNews n with
      | none => none
      | some (.inl (c5_0, c5_1)) =>
        match m_viewportref06New n with
        | none => none
        | some (.inl _) =>
          match m_viewportlaw06MunchScript_1 n c5_0 c5_1 (0, 0, 0, 0, 0, false, false, false, false, 0, 0, 0, 0, 0, 0, 0, 0) with
          | none => none
          | some (.inl _) =>
            some ()
          | some (.inr _) =>
            some ()
        | some (.inr c6_) =>
          if (0 : Int) = c6_ then
            none
          else
            none
      | some (.inr c5_) =>
        match m_viewportref06New n with
        | none => none
        | some (.inl _) =>
          if c5_ = (0 : Int) then
            none
          else
            none
        | some (.inr c6_) =>
          if c5_ = c6_ then
            (m_viewportlaw06MunchScript_3 n ()).bind fun _ =>
            some ()
          else
            none
  else
    some ()
set_option maxRecDepth 100000 in
theorem p_viewportlaw06MunchScript_0 (n : Nat) (hc1 : m_viewportlaw06lives n = some ()) (c2_ : Bool) (hc2 : m_viewportkitLightDfa n 24 = some c2_) (hc3 : c2_ = true) (hc4 : (((Args.L).length : Nat) : Int) > (40 : Int)) : G_viewportlaw06MunchScript  () :=
  runF_ok hm (A := aT [(5, .call ⟨0, [], (Value.bool true), Ax.h0, []⟩), (11, .call ⟨0, [], (V_viewportkitLightDfa 24 c2_), (R_viewportkitLightDfa 24 c2_), []⟩), (12, .val (.bool false)), (16, .val (.bool true))]) (L := lT []) (wk := ⟨[4], [], 0, 0⟩)
    (ps := [Gv P (.func 5) [] Ax.h0 (Value.bool true) Ax.h0,
    G_viewportkitLightDfa 24 c2_,
    (Value.bool (!c2_)) = (Value.bool false),
    (Value.bool (decide ((((Args.L).length : Nat) : Int) > (40 : Int)))) = (Value.bool true)]) (by kernel_rfl) ⟨(m_viewportlaw06lives_ok n () hc1), (m_viewportkitLightDfa_ok n 24 c2_ hc2), (vBn hc3), (vbT hc4), trivial⟩
set_option maxRecDepth 100000 in
theorem p_viewportlaw06MunchScript_1 (n : Nat) (hc1 : m_viewportlaw06lives n = some ()) (c2_ : Bool) (hc2 : m_viewportkitLightDfa n 24 = some c2_) (hc3 : c2_ = true) (hc4 : ¬ ((((Args.L).length : Nat) : Int) > (40 : Int))) (c5_0 : List Int) (c5_1 : List Int) (hc5 : m_munchNews n = some (.inl (c5_0, c5_1))) (hc6 : m_viewportref06New n = some (.inl ())) (hc7 : m_viewportlaw06MunchScript_1 n c5_0 c5_1 (0, 0, 0, 0, 0, false, false, false, false, 0, 0, 0, 0, 0, 0, 0, 0) = some (.inl ())) : G_viewportlaw06MunchScript  () :=
  runF_ok hm (A := aT [(5, .call ⟨0, [], (Value.bool true), Ax.h0, []⟩), (11, .call ⟨0, [], (V_viewportkitLightDfa 24 c2_), (R_viewportkitLightDfa 24 c2_), []⟩), (12, .val (.bool false)), (16, .val (.bool false)), (21, .call ⟨0, [], (V_munchNews  (.inl (c5_0, c5_1))), (R_munchNews  (.inl (c5_0, c5_1))), [(1, 0, false), (2, 1, true), (3, 2, true)]⟩), (29, .call ⟨0, [], (V_viewportref06New  (.inl ())), (R_viewportref06New  (.inl ())), [(4, 0, false)]⟩)]) (L := lT [(52, ⟨⟨[1, 5, 7, 9], [(0, 1, false), (1, 2, true), (2, 3, true), (3, 4, false)], 4, 0⟩, (X_viewportlaw06MunchScript_1 c5_0 c5_1 (.inl ())).1, (X_viewportlaw06MunchScript_1 c5_0 c5_1 (.inl ())).2⟩)]) (wk := ⟨[4], [], 0, 0⟩)
    (ps := [Gv P (.func 5) [] Ax.h0 (Value.bool true) Ax.h0,
    G_viewportkitLightDfa 24 c2_,
    (Value.bool (!c2_)) = (Value.bool false),
    (Value.bool (decide ((((Args.L).length : Nat) : Int) > (40 : Int)))) = (Value.bool false),
    G_munchNews  (.inl (c5_0, c5_1)),
    FlatB (.cells (layT (iv c5_0)) 3),
    FlatB (.cells (layT (iv c5_1)) 3),
    G_viewportref06New  (.inl ()),
    CG P none (fnN P 4) 0 (codeOf P 4 [false, true, false, true, true, true, true, true, true]) (S_viewportlaw06MunchScript_1 c5_0 c5_1 (0, 0, 0, 0, 0, false, false, false, false, 0, 0, 0, 0, 0, 0, 0, 0)) (X_viewportlaw06MunchScript_1 c5_0 c5_1 (.inl ())),
    FlatB (.cells (layT (iv c5_0)) 3),
    FlatB (.cells (layT (iv c5_1)) 3)]) (by kernel_rfl) ⟨(m_viewportlaw06lives_ok n () hc1), (m_viewportkitLightDfa_ok n 24 c2_ hc2), (vBn hc3), (vbF hc4), (m_munchNews_ok n (.inl (c5_0, c5_1)) hc5), (iv_flat _ _), (iv_flat _ _), (m_viewportref06New_ok n (.inl ()) hc6), (m_viewportlaw06MunchScript_1_ok n c5_0 c5_1 (0, 0, 0, 0, 0, false, false, false, false, 0, 0, 0, 0, 0, 0, 0, 0) (.inl ()) hc7), (iv_flat _ _), (iv_flat _ _), trivial⟩
set_option maxRecDepth 100000 in
theorem p_viewportlaw06MunchScript_2 (n : Nat) (hc1 : m_viewportlaw06lives n = some ()) (c2_ : Bool) (hc2 : m_viewportkitLightDfa n 24 = some c2_) (hc3 : c2_ = true) (hc4 : ¬ ((((Args.L).length : Nat) : Int) > (40 : Int))) (c5_0 : List Int) (c5_1 : List Int) (hc5 : m_munchNews n = some (.inl (c5_0, c5_1))) (hc6 : m_viewportref06New n = some (.inl ())) (hc7 : m_viewportlaw06MunchScript_1 n c5_0 c5_1 (0, 0, 0, 0, 0, false, false, false, false, 0, 0, 0, 0, 0, 0, 0, 0) = some (.inr ())) : G_viewportlaw06MunchScript  () :=
  runF_ok hm (A := aT [(5, .call ⟨0, [], (Value.bool true), Ax.h0, []⟩), (11, .call ⟨0, [], (V_viewportkitLightDfa 24 c2_), (R_viewportkitLightDfa 24 c2_), []⟩), (12, .val (.bool false)), (16, .val (.bool false)), (21, .call ⟨0, [], (V_munchNews  (.inl (c5_0, c5_1))), (R_munchNews  (.inl (c5_0, c5_1))), [(1, 0, false), (2, 1, true), (3, 2, true)]⟩), (29, .call ⟨0, [], (V_viewportref06New  (.inl ())), (R_viewportref06New  (.inl ())), [(4, 0, false)]⟩)]) (L := lT [(52, ⟨⟨[1, 5, 7, 9], [(0, 1, false), (1, 2, true), (2, 3, true), (3, 4, false)], 4, 0⟩, (X_viewportlaw06MunchScript_1 c5_0 c5_1 (.inr ())).1, (X_viewportlaw06MunchScript_1 c5_0 c5_1 (.inr ())).2⟩)]) (wk := ⟨[4], [], 0, 0⟩)
    (ps := [Gv P (.func 5) [] Ax.h0 (Value.bool true) Ax.h0,
    G_viewportkitLightDfa 24 c2_,
    (Value.bool (!c2_)) = (Value.bool false),
    (Value.bool (decide ((((Args.L).length : Nat) : Int) > (40 : Int)))) = (Value.bool false),
    G_munchNews  (.inl (c5_0, c5_1)),
    FlatB (.cells (layT (iv c5_0)) 3),
    FlatB (.cells (layT (iv c5_1)) 3),
    G_viewportref06New  (.inl ()),
    CG P none (fnN P 4) 0 (codeOf P 4 [false, true, false, true, true, true, true, true, true]) (S_viewportlaw06MunchScript_1 c5_0 c5_1 (0, 0, 0, 0, 0, false, false, false, false, 0, 0, 0, 0, 0, 0, 0, 0)) (X_viewportlaw06MunchScript_1 c5_0 c5_1 (.inr ())),
    FlatB (.cells (layT (iv c5_0)) 3),
    FlatB (.cells (layT (iv c5_1)) 3)]) (by kernel_rfl) ⟨(m_viewportlaw06lives_ok n () hc1), (m_viewportkitLightDfa_ok n 24 c2_ hc2), (vBn hc3), (vbF hc4), (m_munchNews_ok n (.inl (c5_0, c5_1)) hc5), (iv_flat _ _), (iv_flat _ _), (m_viewportref06New_ok n (.inl ()) hc6), (m_viewportlaw06MunchScript_1_ok n c5_0 c5_1 (0, 0, 0, 0, 0, false, false, false, false, 0, 0, 0, 0, 0, 0, 0, 0) (.inr ()) hc7), (iv_flat _ _), (iv_flat _ _), trivial⟩
set_option maxRecDepth 100000 in
theorem p_viewportlaw06MunchScript_3 (n : Nat) (hc1 : m_viewportlaw06lives n = some ()) (c2_ : Bool) (hc2 : m_viewportkitLightDfa n 24 = some c2_) (hc3 : c2_ = true) (hc4 : ¬ ((((Args.L).length : Nat) : Int) > (40 : Int))) (c5_ : Int) (hc5 : m_munchNews n = some (.inr c5_)) (c6_ : Int) (hc6 : m_viewportref06New n = some (.inr c6_)) (hc7 : c5_ = c6_) (hc8 : m_viewportlaw06MunchScript_3 n () = some ()) : G_viewportlaw06MunchScript  () :=
  runF_ok hm (A := aT [(5, .call ⟨0, [], (Value.bool true), Ax.h0, []⟩), (11, .call ⟨0, [], (V_viewportkitLightDfa 24 c2_), (R_viewportkitLightDfa 24 c2_), []⟩), (12, .val (.bool false)), (16, .val (.bool false)), (21, .call ⟨0, [], (V_munchNews  (.inr c5_)), (R_munchNews  (.inr c5_)), []⟩), (29, .call ⟨0, [], (V_viewportref06New  (.inr c6_)), (R_viewportref06New  (.inr c6_)), []⟩), (39, .val (.bool false))]) (L := lT [(52, ⟨⟨[1, 5, 7, 9], [], 0, 0⟩, (X_viewportlaw06MunchScript_3 ()).1, (X_viewportlaw06MunchScript_3 ()).2⟩)]) (wk := ⟨[4], [], 0, 0⟩)
    (ps := [Gv P (.func 5) [] Ax.h0 (Value.bool true) Ax.h0,
    G_viewportkitLightDfa 24 c2_,
    (Value.bool (!c2_)) = (Value.bool false),
    (Value.bool (decide ((((Args.L).length : Nat) : Int) > (40 : Int)))) = (Value.bool false),
    G_munchNews  (.inr c5_),
    G_viewportref06New  (.inr c6_),
    (Value.bool (c5_ != c6_)) = (Value.bool false),
    CG P none (fnN P 4) 0 (codeOf P 4 [false, true, false, true, true, true, true, true, true]) (S_viewportlaw06MunchScript_3 ()) (X_viewportlaw06MunchScript_3 ())]) (by kernel_rfl) ⟨(m_viewportlaw06lives_ok n () hc1), (m_viewportkitLightDfa_ok n 24 c2_ hc2), (vBn hc3), (vbF hc4), (m_munchNews_ok n (.inr c5_) hc5), (m_viewportref06New_ok n (.inr c6_) hc6), (vnF hc7), (m_viewportlaw06MunchScript_3_ok n () () hc8), trivial⟩
set_option maxRecDepth 100000 in
theorem p_viewportlaw06MunchScript_4 (n : Nat) (hc1 : m_viewportlaw06lives n = some ()) (c2_ : Bool) (hc2 : m_viewportkitLightDfa n 24 = some c2_) (hc3 : ¬ (c2_ = true)) : G_viewportlaw06MunchScript  () :=
  runF_ok hm (A := aT [(5, .call ⟨0, [], (Value.bool true), Ax.h0, []⟩), (11, .call ⟨0, [], (V_viewportkitLightDfa 24 c2_), (R_viewportkitLightDfa 24 c2_), []⟩), (12, .val (.bool true))]) (L := lT []) (wk := ⟨[4], [], 0, 0⟩)
    (ps := [Gv P (.func 5) [] Ax.h0 (Value.bool true) Ax.h0,
    G_viewportkitLightDfa 24 c2_,
    (Value.bool (!c2_)) = (Value.bool true)]) (by kernel_rfl) ⟨(m_viewportlaw06lives_ok n () hc1), (m_viewportkitLightDfa_ok n 24 c2_ hc2), (vBn (Bool.eq_false_iff.2 hc3)), trivial⟩
theorem m_viewportlaw06MunchScript_ok (n : Nat) (r : Unit) (h : m_viewportlaw06MunchScript n = some r) : G_viewportlaw06MunchScript  r := by
  unfold m_viewportlaw06MunchScript at h
  obtain ⟨_, hc1, h⟩ := Option.bind_eq_some_iff.1 h
  obtain ⟨c2_, hc2, h⟩ := Option.bind_eq_some_iff.1 h
  by_cases hc3 : c2_ = true
  · rw [if_pos hc3] at h
    by_cases hc4 : (((Args.L).length : Nat) : Int) > (40 : Int)
    · rw [if_pos hc4] at h
      obtain rfl := Option.some.inj h; exact p_viewportlaw06MunchScript_0 n hc1 c2_ hc2 hc3 hc4
    · rw [if_neg hc4] at h
      rcases hc5 : m_munchNews n with _ | (⟨c5_0, c5_1⟩ | c5_)
      · rw [hc5] at h; cases h
      · rw [hc5] at h
        dsimp only at h
        rcases hc6 : m_viewportref06New n with _ | (⟨⟩ | c6_)
        · rw [hc6] at h; cases h
        · rw [hc6] at h
          dsimp only at h
          rcases hc7 : m_viewportlaw06MunchScript_1 n c5_0 c5_1 (0, 0, 0, 0, 0, false, false, false, false, 0, 0, 0, 0, 0, 0, 0, 0) with _ | (⟨⟩ | ⟨⟩)
          · rw [hc7] at h; cases h
          · rw [hc7] at h
            dsimp only at h
            obtain rfl := Option.some.inj h; exact p_viewportlaw06MunchScript_1 n hc1 c2_ hc2 hc3 hc4 c5_0 c5_1 hc5 hc6 hc7
          · rw [hc7] at h
            dsimp only at h
            obtain rfl := Option.some.inj h; exact p_viewportlaw06MunchScript_2 n hc1 c2_ hc2 hc3 hc4 c5_0 c5_1 hc5 hc6 hc7
        · rw [hc6] at h
          dsimp only at h
          by_cases hc7 : (0 : Int) = c6_
          · rw [if_pos hc7] at h
            cases h
          · rw [if_neg hc7] at h
            cases h
      · rw [hc5] at h
        dsimp only at h
        rcases hc6 : m_viewportref06New n with _ | (⟨⟩ | c6_)
        · rw [hc6] at h; cases h
        · rw [hc6] at h
          dsimp only at h
          by_cases hc7 : c5_ = (0 : Int)
          · rw [if_pos hc7] at h
            cases h
          · rw [if_neg hc7] at h
            cases h
        · rw [hc6] at h
          dsimp only at h
          by_cases hc7 : c5_ = c6_
          · rw [if_pos hc7] at h
            obtain ⟨_, hc8, h⟩ := Option.bind_eq_some_iff.1 h
            obtain rfl := Option.some.inj h; exact p_viewportlaw06MunchScript_3 n hc1 c2_ hc2 hc3 hc4 c5_ hc5 c6_ hc6 hc7 hc8
          · rw [if_neg hc7] at h
            cases h
  · rw [if_neg hc3] at h
    obtain rfl := Option.some.inj h; exact p_viewportlaw06MunchScript_4 n hc1 c2_ hc2 hc3

end Go.Proofs.Ytaompjplflaloaa.munchs
