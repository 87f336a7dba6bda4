/- The law of WearLimit. -/
import Derived.Test.YtbfnffecmglgfaaLawKit
import Derived.Test.YtbfnffecmglgfaaWearL
import Derived.Deep.RegionHeld3
namespace Go.Proofs.Ytbfnffecmglgfaa
open Go Go.RowKit

set_option maxRecDepth 100000 in
set_option maxHeartbeats 2000000 in
theorem lawWearLimit_any (m : Mk) (V : Option Addr) (n c : Nat) (yss : List (List Int)) (A : Option Addr) (q d : Nat) (xs : List Int) (t : Int) (w : World) (h : Sets w w.heap.size V n yss) (hcm : n ≤ 9223372036854775807) (hi : Ints w w.heap.size A q xs) :
    Calls Try.prog 13 #[.agg #[.int .i64 m.C, .int .i64 m.D, .int .i64 m.S, .int .i64 m.M, .int .i64 m.L], .agg #[.slice V n c], .slice A q d, .int .i64 t] w fun e w' => e = .returned (.bool true) ∧ Below w.heap.size w w' := by
  have K0 := Lib.hid (LArg.new w m V n c yss h)
  have HL := Lib.hid h.len
  have HI := Lib.hid hi
  obtain ⟨q0, q1, q2, q3, q4, ck⟩ := K0.out.cells
  clear h hi
  by_cases hq : q ≤ 1048576
  rotate_left
  · have C0 := K0.out.below
    go_enter Try.func13, Try.ntmps13
    go_wp2
    go_ret
    exact ⟨rfl, C0⟩
  go_enter Try.func13, Try.ntmps13
  go_wp2_with fail
  refine (szLock_any _ _ _ yss 1048576 _ K0.out.sets (by omega) (by omega) hcm).mono ?_
  rintro e w1 ⟨⟨r, rfl, hr⟩, b1⟩
  have K1 := Lib.hid (K0.out.on b1)
  clear q0 q1 q2 q3 q4 ck
  rcases hr with rfl | ⟨hr, hr0⟩
  · have C1 := K1.out.below
    clear K0 K1 b1
    go_wp2
    go_ret
    exact ⟨rfl, C1⟩
  have hneg : ¬ r < 0 := by omega
  have HN : Hid (n + sizeL yss ≤ 1048576) := Lib.hid (by omega)
  obtain ⟨q0, q1, q2, q3, q4, ck⟩ := K1.out.cells
  clear hr hr0 b1 K0
  go_wp2
  go_region_held3 (fun w' => w'.cell? ⟨w.heap.size, 0, none⟩ = some (.int .i64 m.C) ∧ w'.cell? ⟨w.heap.size, 1, none⟩ = some (.int .i64 m.D) ∧ w'.cell? ⟨w.heap.size, 2, none⟩ = some (.int .i64 m.S) ∧ w'.cell? ⟨w.heap.size, 3, none⟩ = some (.int .i64 m.M) ∧ w'.cell? ⟨w.heap.size, 4, none⟩ = some (.int .i64 m.L) ∧ w'.cell? ⟨w.heap.size + 1, 0, none⟩ = some (.slice V n c))
    (first
      | go_keep
      | with_reducible exact K2.out.cells
      | with_reducible exact K3.out.cells
      | with_reducible exact K4.out.cells
      | with_reducible exact K5.out.cells)
    (first
      | (go_at_call 74; refine (toMaker_any m _).mono ?_; rintro e w2 ⟨rfl, b2⟩; have K2 := Lib.hid ((K1.out.drewN 1).on b2))
      | (go_at_call 82; refine (toLock_any _ _ _ yss _ K2.out.sets HN.out).mono ?_; rintro e w3 ⟨V3, n3, c3, gs3, rfl, R3, z3, y3, b3⟩; have K3 := Lib.hid (K2.out.on b3); have S3 := Lib.hid R3.sets; have N3 := Lib.hid (R3.len.symm.trans HL.out))
      | (go_at_call 83; refine (toInt64S_any _ _ _ xs _ (HI.out.on K3.out.below) hq).mono ?_; rintro e w4 ⟨g4, rfl, _, r4, b4⟩; have K4 := Lib.hid (K3.out.on b4); have S4 := Lib.hid (S3.out.on b4); have I4 := Lib.hid (Ints.of_row r4 HI.out.len))
      | (go_at_call 60; refine (specWearLimit_any m _ _ _ yss _ _ _ xs t _ S4.out (by have := HN.out; have := N3.out; omega) I4.out hq (Nat.le_refl _) (by omega)).mono ?_; rintro e w5 ⟨rfl, b5⟩; have K5 := Lib.hid (K4.out.on b5)))
  all_goals
    clear q0 q1 q2 q3 q4 ck K1 K2 K3 K4 R3 S3 S4 I4 N3 r4 b2 b3 b4 b5 z3 y3
    obtain ⟨q0, q1, q2, q3, q4, ck⟩ := K5.out.cells
    go_wp2_with fail
    refine (toLock_any _ _ _ yss _ K5.out.sets HN.out).mono ?_
    rintro e w6 ⟨V5, n5, c5, gs5, rfl, R5, z5, y5, b5⟩
    have K6 := Lib.hid (K5.out.on b5)
    have S6 := Lib.hid R5.sets
    obtain rfl : n5 = n := R5.len.symm.trans HL.out
    have S7 := Lib.hid (S6.out.alloc (.cells #[.slice V5 n5 c5] 30))
    have K7 := Lib.hid (K6.out.alloc (.cells #[.slice V5 n5 c5] 30))
    have X7 := Lib.hid (Cell1.new w6 30 (.slice V5 n5 c5))
    clear q0 q1 q2 q3 q4 ck K5 R5 b5 K6 S6
    go_wp2_with fail
    refine (toInt64S_any _ _ _ xs _ (HI.out.on K7.out.below) hq).mono ?_
    rintro e w8 ⟨g8, rfl, _, r8, b8⟩
    have K8 := Lib.hid (K7.out.on b8)
    have S8 := Lib.hid (S7.out.on b8)
    have X8 := Lib.hid (X7.out.on b8)
    have I8 := Lib.hid (Ints.of_row r8 HI.out.len)
    clear K7 S7 X7 r8 b8
    obtain ⟨q0, q1, q2, q3, q4, ck⟩ := K8.out.cells
    have cx := X8.out.cell
    go_wp2
    go_region_held3 (fun w' => w'.cell? ⟨w.heap.size, 0, none⟩ = some (.int .i64 m.C) ∧ w'.cell? ⟨w.heap.size, 1, none⟩ = some (.int .i64 m.D) ∧ w'.cell? ⟨w.heap.size, 2, none⟩ = some (.int .i64 m.S) ∧ w'.cell? ⟨w.heap.size, 3, none⟩ = some (.int .i64 m.M) ∧ w'.cell? ⟨w.heap.size, 4, none⟩ = some (.int .i64 m.L) ∧ w'.cell? ⟨w6.heap.size, 0, none⟩ = some (.slice V5 n5 c5))
      (first
        | go_keep
        | with_reducible exact boxed_and K9.out.box X9.out.cell
        | with_reducible exact boxed_and KA.out.box XA.out.cell)
      (first
        | (go_at_call 74; refine (toMaker_any m _).mono ?_; rintro e w9 ⟨rfl, b9⟩; have K9 := Lib.hid ((K8.out.drewN 1).on b9); have X9 := Lib.hid ((X8.out.drewN 1).on b9); have S9 := Lib.hid ((S8.out.drewN 1).on b9); have I9 := Lib.hid ((I8.out.drewH 1).on b9))
        | (go_at_call 59; refine (wearLimit_any m _ _ _ yss _ _ _ xs t _ S9.out HN.out I9.out hq).mono ?_; rintro e wA ⟨rfl, bA⟩; have KA := Lib.hid (K9.out.on bA); have XA := Lib.hid (X9.out.on bA); have SA := Lib.hid (S9.out.on bA); have IA := Lib.hid (I9.out.on bA)))
    all_goals
      clear q0 q1 q2 q3 q4 ck cx K8 X8 S8 I8 K9 X9 S9 I9 b9 bA
      have ck := KA.out.cell.cell
      have cx := XA.out.cell
      have d0 : (wlV m yss xs t != wlV m yss xs t) = false := by simp
      have d1 : (wlE m yss xs t != wlE m yss xs t) = false := by simp
      go_wp2
      go_region_held3 (fun w' => w'.cell? ⟨w6.heap.size, 0, none⟩ = some (.slice V5 n5 c5) ∧ w'.cell? ⟨w.heap.size + 1, 0, none⟩ = some (.slice V n5 c))
        (first
          | go_keep
          | with_reducible exact ⟨XB.out.cell, KB.out.cell.cell⟩
          | with_reducible exact ⟨XC.out.cell, KC.out.cell.cell⟩)
        (first
          | (go_at_call 82; refine (toLock_any _ _ _ yss _ (KA.out.drewN 1).sets HN.out).mono ?_; rintro e wB ⟨V9, n9, c9, gs9, rfl, R9, z9, y9, bB⟩; have KB := Lib.hid ((KA.out.drewN 1).on bB); have XB := Lib.hid ((XA.out.drewN 1).on bB); have SB := Lib.hid ((SA.out.drewN 1).on bB); have IB := Lib.hid ((IA.out.drewH 1).on bB); have TB := Lib.hid R9.sets; obtain rfl : n9 = n5 := R9.len.symm.trans HL.out)
          | (go_at_call 84; refine (eqLock_true _ _ _ _ _ yss _ SB.out TB.out HN.out).mono ?_; rintro e wC ⟨rfl, bC⟩; have KC := Lib.hid (KB.out.on bC); have XC := Lib.hid (XB.out.on bC); have IC := Lib.hid (IB.out.on bC)))
      all_goals
        clear ck cx KA XA SA IA KB XB SB IB TB R9 bB bC XC
        go_wp2_with fail
        refine (toInt64S_any _ _ _ xs _ (HI.out.on KC.out.below) hq).mono ?_
        rintro e wD ⟨gD, rfl, _, rD, bD⟩
        have KD := Lib.hid (KC.out.on bD)
        have ID := Lib.hid (IC.out.on bD)
        have JD := Lib.hid (Ints.of_row rD HI.out.len)
        clear KC IC rD bD
        go_wp2_with fail
        refine (eqInts_true _ _ _ _ _ xs _ ID.out JD.out hq).mono ?_
        rintro e wE ⟨rfl, bE⟩
        have CE := (KD.out.on bE).below
        clear KD ID JD bE
        go_wp2
        go_ret
        exact ⟨rfl, CE⟩


end Go.Proofs.Ytbfnffecmglgfaa
