/- The law of CountMayOpen. -/
import Derived.Test.YtbfnffecmglgfaaLawKit
import Derived.Test.YtbfnffecmglgfaaCntMay
import Derived.Deep.RegionHeld3
namespace Go.Proofs.Ytbfnffecmglgfaa
open Go Go.RowKit

set_option maxRecDepth 100000 in
set_option maxHeartbeats 2000000 in
theorem lawCountMayOpen_any (m : Mk) (V : Option Addr) (n c : Nat) (yss : List (List Int)) (wr t : Int) (w : World) (h : Sets w w.heap.size V n yss) (hcm : n ≤ 9223372036854775807) :
    Calls Try.prog 14 #[.agg #[.int .i64 m.C, .int .i64 m.D, .int .i64 m.S, .int .i64 m.M, .int .i64 m.L], .agg #[.slice V n c], .int .i64 wr, .int .i64 t] w fun e w' => e = .returned (.bool true) ∧ Below w.heap.size w w' := by
  have K0 := Lib.hid (LArg.new w m V n c yss h)
  have HL := Lib.hid h.len
  obtain ⟨q0, q1, q2, q3, q4, ck⟩ := K0.out.cells
  clear h
  go_enter Try.func14, Try.ntmps14
  go_wp2_with fail
  refine (szLock_any _ _ _ yss 1048576 _ K0.out.sets (by omega) (by omega) hcm).mono ?_
  rintro e w1 ⟨⟨r, rfl, hr⟩, b1⟩
  have K1 := Lib.hid (K0.out.on b1)
  clear q0 q1 q2 q3 q4 ck
  rcases hr with rfl | ⟨hr, hr0⟩
  · have C1 := K1.out.below
    clear K0 K1 b1
    go_wp2
    go_ret
    exact ⟨rfl, C1⟩
  have hneg : ¬ r < 0 := by omega
  have HN : Hid (n + sizeL yss ≤ 1048576) := Lib.hid (by omega)
  have hn1 : n ≤ 1048576 := by omega
  obtain ⟨q0, q1, q2, q3, q4, ck⟩ := K1.out.cells
  clear hr hr0 b1 K0
  go_wp2
  go_region_held3 (fun w' => w'.cell? ⟨w.heap.size, 0, none⟩ = some (.int .i64 m.C) ∧ w'.cell? ⟨w.heap.size, 1, none⟩ = some (.int .i64 m.D) ∧ w'.cell? ⟨w.heap.size, 2, none⟩ = some (.int .i64 m.S) ∧ w'.cell? ⟨w.heap.size, 3, none⟩ = some (.int .i64 m.M) ∧ w'.cell? ⟨w.heap.size, 4, none⟩ = some (.int .i64 m.L) ∧ w'.cell? ⟨w.heap.size + 1, 0, none⟩ = some (.slice V n c))
    (first
      | go_keep
      | with_reducible exact K2.out.cells
      | with_reducible exact K3.out.cells
      | with_reducible exact K4.out.cells)
    (first
      | (go_at_call 74; refine (toMaker_any m _).mono ?_; rintro e w2 ⟨rfl, b2⟩; have K2 := Lib.hid ((K1.out.drewN 1).on b2))
      | (go_at_call 82; refine (toLock_any _ _ _ yss _ K2.out.sets HN.out).mono ?_; rintro e w3 ⟨V3, n3, c3, gs3, rfl, R3, z3, y3, b3⟩; have K3 := Lib.hid (K2.out.on b3); have S3 := Lib.hid R3.sets; have N3 := Lib.hid (R3.len.symm.trans HL.out))
      | (go_at_call 63; refine (specCountMayOpen_any m _ _ _ yss wr t _ S3.out (by have := HN.out; have := N3.out; omega)).mono ?_; rintro e w4 ⟨rfl, b4⟩; have K4 := Lib.hid (K3.out.on b4)))
  all_goals
    clear q0 q1 q2 q3 q4 ck K1 K2 K3 R3 S3 N3 b2 b3 b4 z3 y3
    obtain ⟨q0, q1, q2, q3, q4, ck⟩ := K4.out.cells
    go_wp2_with fail
    refine (toLock_any _ _ _ yss _ K4.out.sets HN.out).mono ?_
    rintro e w5 ⟨V5, n5, c5, gs5, rfl, R5, z5, y5, b5⟩
    have K5 := Lib.hid (K4.out.on b5)
    have S5 := Lib.hid R5.sets
    obtain rfl : n5 = n := R5.len.symm.trans HL.out
    have S6 := Lib.hid (S5.out.alloc (.cells #[.slice V5 n5 c5] 30))
    have K6 := Lib.hid (K5.out.alloc (.cells #[.slice V5 n5 c5] 30))
    have X6 := Lib.hid (Cell1.new w5 30 (.slice V5 n5 c5))
    clear q0 q1 q2 q3 q4 ck K4 R5 b5 K5 S5
    obtain ⟨q0, q1, q2, q3, q4, ck⟩ := K6.out.cells
    have cx := X6.out.cell
    go_wp2
    go_region_held3 (fun w' => w'.cell? ⟨w.heap.size, 0, none⟩ = some (.int .i64 m.C) ∧ w'.cell? ⟨w.heap.size, 1, none⟩ = some (.int .i64 m.D) ∧ w'.cell? ⟨w.heap.size, 2, none⟩ = some (.int .i64 m.S) ∧ w'.cell? ⟨w.heap.size, 3, none⟩ = some (.int .i64 m.M) ∧ w'.cell? ⟨w.heap.size, 4, none⟩ = some (.int .i64 m.L) ∧ w'.cell? ⟨w5.heap.size, 0, none⟩ = some (.slice V5 n5 c5))
      (first
        | go_keep
        | with_reducible exact boxed_and K7.out.box X7.out.cell
        | with_reducible exact boxed_and K8.out.box X8.out.cell)
      (first
        | (go_at_call 74; refine (toMaker_any m _).mono ?_; rintro e w7 ⟨rfl, b7⟩; have K7 := Lib.hid ((K6.out.drewN 1).on b7); have X7 := Lib.hid ((X6.out.drewN 1).on b7); have S7 := Lib.hid ((S6.out.drewN 1).on b7))
        | (go_at_call 62; refine (countMayOpen_any m _ _ _ yss wr t _ S7.out HN.out).mono ?_; rintro e w8 ⟨rfl, b8⟩; have K8 := Lib.hid (K7.out.on b8); have X8 := Lib.hid (X7.out.on b8); have S8 := Lib.hid (S7.out.on b8)))
    all_goals
      clear q0 q1 q2 q3 q4 ck cx K6 X6 S6 K7 X7 S7 b7 b8
      have ck := K8.out.cell.cell
      have cx := X8.out.cell
      have d0 : (cmV m yss wr t != cmV m yss wr t) = false := by simp
      have d1 : (wlkE m yss wr t != wlkE m yss wr t) = false := by simp
      go_wp2
      go_region_held3 (fun w' => w'.cell? ⟨w5.heap.size, 0, none⟩ = some (.slice V5 n5 c5) ∧ w'.cell? ⟨w.heap.size + 1, 0, none⟩ = some (.slice V n5 c))
        (first
          | go_keep
          | with_reducible exact ⟨X9.out.cell, K9.out.cell.cell⟩
          | with_reducible exact ⟨XA.out.cell, KA.out.cell.cell⟩)
        (first
          | (go_at_call 82; refine (toLock_any _ _ _ yss _ (K8.out.drewN 1).sets HN.out).mono ?_; rintro e w9 ⟨V9, n9, c9, gs9, rfl, R9, z9, y9, b9⟩; have K9 := Lib.hid ((K8.out.drewN 1).on b9); have X9 := Lib.hid ((X8.out.drewN 1).on b9); have S9 := Lib.hid ((S8.out.drewN 1).on b9); have T9 := Lib.hid R9.sets; obtain rfl : n9 = n5 := R9.len.symm.trans HL.out)
          | (go_at_call 84; refine (eqLock_true _ _ _ _ _ yss _ S9.out T9.out HN.out).mono ?_; rintro e wA ⟨rfl, bA⟩; have KA := Lib.hid (K9.out.on bA); have XA := Lib.hid (X9.out.on bA)))
      all_goals
        have CA := KA.out.below
        clear ck cx K8 X8 S8 K9 X9 S9 T9 R9 b9 bA KA XA
        go_wp2
        go_ret
        exact ⟨rfl, CA⟩

end Go.Proofs.Ytbfnffecmglgfaa
