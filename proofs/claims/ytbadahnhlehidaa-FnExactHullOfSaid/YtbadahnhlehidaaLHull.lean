/- The law of HullOf. -/
import Derived.Test.YtbadahnhlehidaaLawKit
import Derived.Test.YtbadahnhlehidaaSHull
namespace Go.Proofs.Ytbadahnhlehidaa
open Go Go.RowKit

theorem sizeAt_bound {yss : List (List Int)} {b : Nat} (h : ∀ i, (yss.getD i []).length ≤ b) : ∀ k, sizeAt yss k ≤ k * b
  | 0 => Nat.zero_le _
  | k + 1 => by
    have h1 := sizeAt_bound h k
    have h2 := h k
    show sizeAt yss k + _ ≤ (k + 1) * b
    rw [Nat.add_mul, Nat.one_mul]
    omega
theorem lockOf_size {C D : Nat} {p : Nat → Nat → Bool} (hC : C ≤ 6) (hD : D ≤ 8) : (lockOf C D p).length + sizeL (lockOf C D p) ≤ 1048576 := by
  have h1 : ∀ i, ((lockOf C D p).getD i []).length ≤ 8 := by
    intro i
    rcases Nat.lt_or_ge i C with h | h
    · rw [getD_list (lockOf_at h)]
      have := setOf_len D (p i)
      omega
    · rw [List.getD_eq_getElem?_getD, List.getElem?_eq_none (by rw [lockOf_len]; exact h)]
      exact Nat.zero_le _
  have h2 := sizeAt_bound h1 (lockOf C D p).length
  unfold sizeL
  rw [lockOf_len] at *
  omega
theorem hull_size (m : Mk) (xss : List (List Int)) : (hullL m xss).length + sizeL (hullL m xss) ≤ 1048576 := by
  unfold hullL
  by_cases h : hullE m xss = 0
  · rw [if_pos h]
    have hz : codeF m xss = 0 := by
      unfold hullE at h
      by_cases h2 : codeF m xss = 0
      · exact h2
      · rw [if_neg h2] at h; exact absurd h h2
    obtain ⟨hm, _⟩ := code_zero.1 hz
    obtain ⟨m1, m2, m3, m4, _⟩ := Mk.ok_true hm
    exact lockOf_size (by omega) (by omega)
  · rw [if_neg h]
    simp [sizeL, sizeAt]

set_option maxRecDepth 100000 in
set_option maxHeartbeats 4000000 in
theorem lawHullOf_any (m : Mk) (V : Option Addr) (n c : Nat) (yss : List (List Int)) (w : World) (h : Sets w w.heap.size V n yss) (hcm : n ≤ 9223372036854775807) :
    Calls Try.prog 4 #[.agg #[.int .i64 m.C, .int .i64 m.D, .int .i64 m.S, .int .i64 m.M, .int .i64 m.L], .slice V n c] w fun e w' => e = .returned (.bool true) ∧ Below w.heap.size w w' := by
  have X0 := Lib.hid (Boxed.new w 23 m)
  have C0 := Lib.hid ((Below.refl w.heap.size w).alloc (Nat.le_refl _) (.cells #[.int .i64 m.C, .int .i64 m.D, .int .i64 m.S, .int .i64 m.M, .int .i64 m.L] 23))
  have H := Lib.hid h
  have HL := Lib.hid h.len
  clear h
  go_enter Try.func4, Try.ntmps4
  go_wp2_with fail
  refine (szLists_any _ _ _ yss 1048576 _ (H.out.on C0.out) (by omega) (by omega) hcm).mono ?_
  rintro e w1 ⟨⟨r, rfl, hr⟩, rfl⟩
  rcases hr with rfl | ⟨hr, hr0⟩
  · go_wp2
    go_ret
    exact ⟨rfl, C0.out⟩
  have hneg : ¬ r < 0 := by omega
  have HN : Hid (n + sizeL yss ≤ 1048576) := Lib.hid (by omega)
  have HNL := Lib.hid (hull_size m yss)
  clear hr hr0
  obtain ⟨q0, q1, q2, q3, q4⟩ := X0.out.cells
  go_wp2_with fail
  clear q0 q1 q2 q3 q4
  refine (toMaker_any m _).mono ?_
  rintro e w2 ⟨rfl, b2⟩
  have C2 := Lib.hid (below_trans' C0.out b2)
  have X2 := Lib.hid (X0.out.on b2)
  clear C0 X0 b2
  go_wp2_with fail
  refine (toLists_any _ _ _ yss _ (H.out.on C2.out) HN.out).mono ?_
  rintro e w3 ⟨V3, n3, c3, gs3, rfl, R3, z3, y3, b3⟩
  obtain rfl : n3 = n := R3.len.symm.trans HL.out
  have S3 := Lib.hid R3.sets
  clear R3
  have C3 := Lib.hid (below_trans' C2.out b3)
  have X3 := Lib.hid (X2.out.on b3)
  clear C2 X2 b3
  go_wp2_with fail
  refine (specHullOf_any m _ _ _ yss _ S3.out HN.out).mono ?_
  rintro e w4 ⟨V4, n4, c4, rfl, S4, z4, y4, b4⟩
  clear S3
  have C4 := Lib.hid (below_trans' C3.out b4)
  have X4 := Lib.hid (X3.out.on b4)
  clear C3 X3 b4
  have HL4 := Lib.hid S4.len
  have C5 := Lib.hid (C4.out.alloc C4.out.size (.cells #[.slice V4 n4 c4] 31))
  have X5 := Lib.hid (X4.out.alloc (.cells #[.slice V4 n4 c4] 31))
  have S5 := Lib.hid (S4.alloc (.cells #[.slice V4 n4 c4] 31))
  have T5 := Lib.hid (Cell1.new w4 31 (.slice V4 n4 c4))
  obtain ⟨w5, hw5⟩ : ∃ w5, w5 = w4.alloc (.cells #[.slice V4 n4 c4] 31) := ⟨_, rfl⟩
  have hz5 : w5.heap.size = w4.heap.size + 1 := by rw [hw5]; simp
  have hzw : w.heap.size < w4.heap.size := X4.out.lt
  rw [← hw5] at C5 X5 S5 T5
  have HW5 := Lib.hid hw5
  have D5 := Lib.hid (Below.refl w5.heap.size w5)
  clear S4 C4 X4 hw5
  go_wp2_with fail
  rw [← HW5.out]
  refine (toLists_any _ _ _ yss _ (H.out.on C5.out) HN.out).mono ?_
  rintro e w6 ⟨V6, n6, c6, gs6, rfl, R6', z6, y6, b6⟩
  obtain rfl : n6 = n3 := R6'.len.symm.trans HL.out
  have R6 := Lib.hid R6'
  have TX := Lib.hid R6'.top
  have hz6 := b6.size
  clear R6' 
  have C6 := Lib.hid (below_trans' C5.out b6)
  have D6 := Lib.hid (below_trans' D5.out b6)
  have X6 := Lib.hid (X5.out.on b6)
  have T6 := Lib.hid (T5.out.on b6)
  clear C5 D5 X5 T5 b6
  obtain ⟨q0, q1, q2, q3, q4⟩ := X6.out.cells
  go_wp2_with fail
  clear q0 q1 q2 q3 q4
  refine (toMaker_any m _).mono ?_
  rintro e w7 ⟨rfl, b7⟩
  have hz7 := b7.size
  have C7 := Lib.hid (below_trans' C6.out b7)
  have D7 := Lib.hid (below_trans' D6.out b7)
  have X7 := Lib.hid (X6.out.on b7)
  have T7 := Lib.hid (T6.out.on b7)
  have R7 := Lib.hid (R6.out.on b7)
  clear C6 D6 X6 T6 R6 b7
  go_wp2_with fail
  refine (hullOf_any m _ _ _ yss _ R7.out.sets HN.out).mono ?_
  rintro e w8 ⟨V8, n8, c8, gs8, rfl, G8', z8, y8, b8⟩
  obtain rfl : n8 = n4 := G8'.len.symm.trans HL4.out
  have G8 := Lib.hid G8'
  have TG := Lib.hid G8'.top
  have hz8 := b8.size
  clear G8' 
  have C8 := Lib.hid (below_trans' C7.out b8)
  have D8 := Lib.hid (below_trans' D7.out b8)
  have X8 := Lib.hid (X7.out.on b8)
  have T8 := Lib.hid (T7.out.on b8)
  have R8 := Lib.hid (R7.out.on b8)
  clear C7 D7 X7 T7 R7 b8
  have K9 := Lib.hid (Cell1.new w8 31 (.slice V8 n8 c8))
  have a9 := (Below.refl w8.heap.size w8).alloc (Nat.le_refl _) (.cells #[.slice V8 n8 c8] 31)
  obtain ⟨w9, hw9⟩ : ∃ w9, w9 = w8.alloc (.cells #[.slice V8 n8 c8] 31) := ⟨_, rfl⟩
  rw [← hw9] at K9 a9
  have HW9 := Lib.hid hw9
  have hz9 := a9.size
  clear hw9
  have C9 := Lib.hid (below_trans' C8.out a9)
  have D9 := Lib.hid (below_trans' D8.out a9)
  have X9 := Lib.hid (X8.out.on a9)
  have T9 := Lib.hid (T8.out.on a9)
  have R9 := Lib.hid (R8.out.on a9)
  have G9 := Lib.hid (G8.out.on a9)
  clear C8 D8 X8 T8 R8 G8 a9
  have d1 : (hullE m yss != hullE m yss) = false := by simp
  have ck := K9.out.cell
  have ct := T9.out.cell
  have HD := Lib.hid d1
  rw [HW9.out] at ck ct
  go_wp2_with fail
  clear ck ct
  rw [← HW9.out]
  refine (eqLock_true _ _ _ _ _ (hullL m yss) _ G9.out.sets (S5.out.on D9.out) (by have := HL4.out; have := HNL.out; omega)).mono ?_
  rintro e w10 ⟨rfl, b10⟩
  have C10 := Lib.hid (below_trans' C9.out b10)
  have D10 := Lib.hid (below_trans' D9.out b10)
  have X10 := Lib.hid (X9.out.on b10)
  have T10 := Lib.hid (T9.out.on b10)
  have R10 := Lib.hid (R9.out.on b10)
  have G10 := Lib.hid (G9.out.on b10)
  have K10 := Lib.hid (K9.out.on b10)
  clear C9 D9 X9 T9 R9 G9 K9 b10
  go_wp2_with fail
  refine (toLists_any _ _ _ yss _ (H.out.on C10.out) HN.out).mono ?_
  rintro e w11 ⟨V11, n11, c11, gs11, rfl, R11', z11, y11, b11⟩
  obtain rfl : n11 = n6 := R11'.len.symm.trans HL.out
  have S11 := Lib.hid R11'.sets
  clear R11' 
  have C11 := Lib.hid (below_trans' C10.out b11)
  have D11 := Lib.hid (below_trans' D10.out b11)
  have X11 := Lib.hid (X10.out.on b11)
  have T11 := Lib.hid (T10.out.on b11)
  have R11 := Lib.hid (R10.out.on b11)
  have G11 := Lib.hid (G10.out.on b11)
  have K11 := Lib.hid (K10.out.on b11)
  clear C10 D10 X10 T10 R10 G10 K10 b11
  go_wp2_with fail
  refine (eqSets_true _ _ _ _ _ yss _ R11.out.sets S11.out HN.out).mono ?_
  rintro e w12 ⟨rfl, k12, rfl⟩
  have b12 := below_drewN (Below.refl w11.heap.size w11) k12
  clear S11
  have C12 := Lib.hid (below_trans' C11.out b12)
  have D12 := Lib.hid (below_trans' D11.out b12)
  have X12 := Lib.hid (X11.out.on b12)
  have T12 := Lib.hid (T11.out.on b12)
  have R12 := Lib.hid (R11.out.on b12)
  have G12 := Lib.hid (G11.out.on b12)
  have K12 := Lib.hid (K11.out.on b12)
  clear C11 D11 X11 T11 R11 G11 K11 b12
  go_wp2_with fail
  refine (markRag_any _ _ _ _ gs6 yss 1 _ R12.out HN.out (by omega) (by omega)).mono ?_
  rintro e w13 ⟨rfl, _, hap⟩
  have ap := hap _ TX.out
  have bl := ap.below (by have := D12.out.size; exact this)
  have C13 := Lib.hid (C12.out.trans (bl.mono (by omega)))
  have D13 := Lib.hid (D12.out.trans bl)
  have X13 := Lib.hid (X12.out.below bl (by omega))
  have T13 := Lib.hid (T12.out.below bl (by omega))
  have G13 := Lib.hid (G12.out.past ap (by omega))
  have K13 : Hid (Cell1 w13 w8.heap.size 31 (.slice V8 n8 c8)) := Lib.hid ((ap.block _ K12.out.lt (.inr (by omega))).trans K12.out)
  have hn13 : ¬ rAt 1 yss n11 < 0 := by
    have := (rAt_range (k := 1) (i := n11) (by omega) (by omega) (show sizeL yss ≤ 1048576 by have := HN.out; omega) (by rw [HL.out]; exact Nat.le_refl _)).1
    omega
  clear hap ap bl C12 D12 X12 T12 G12 K12 R12
  have ck := K13.out.cell
  have ct := T13.out.cell
  go_wp2_with fail
  clear ck ct
  refine (eqLock_true _ _ _ _ _ (hullL m yss) _ G13.out.sets (S5.out.on D13.out) (by have := HL4.out; have := HNL.out; omega)).mono ?_
  rintro e w14 ⟨rfl, b14⟩
  have C14 := Lib.hid (below_trans' C13.out b14)
  have D14 := Lib.hid (below_trans' D13.out b14)
  have X14 := Lib.hid (X13.out.on b14)
  have T14 := Lib.hid (T13.out.on b14)
  have G14 := Lib.hid (G13.out.on b14)
  have K14 := Lib.hid (K13.out.on b14)
  clear C13 D13 X13 T13 G13 K13 b14
  have ck := K14.out.cell
  go_wp2_with fail
  clear ck
  refine (markLock_any _ _ _ _ gs8 (hullL m yss) 1 _ G14.out (by have := HL4.out; have := HNL.out; omega) (by omega) (by omega)).mono ?_
  rintro e w15 ⟨rfl, G15', hap⟩
  have ap := hap _ TG.out
  have bl := ap.below (by have := D14.out.size; have := G14.out.low; omega)
  have C15 := Lib.hid (C14.out.trans (bl.mono (by omega)))
  have D15 := Lib.hid (D14.out.trans (bl.mono (by omega)))
  have X15 := Lib.hid (X14.out.below bl (by omega))
  have T15 := Lib.hid (T14.out.below bl (by omega))
  have G15 := Lib.hid G15'
  have K15 : Hid (Cell1 w15 w8.heap.size 31 (.slice V8 n8 c8)) := Lib.hid ((ap.block _ K14.out.lt (.inr (Nat.le_refl _))).trans K14.out)
  clear hap ap bl C14 D14 X14 T14 G14 K14 G15' 
  have hr15 := rAt_range (k := 1) (yss := hullL m yss) (i := n8) (by omega) (by omega) (by have := HNL.out; omega) (by rw [HL4.out]; exact Nat.le_refl _)
  have hn15 : ¬ rAt 1 (hullL m yss) n8 < 0 := by omega
  have hd15 : (rAt 1 (hullL m yss) n8 != rAt 1 (hullL m yss) n8) = false := by simp
  clear hr15
  have ck := K15.out.cell
  go_wp2_with fail
  clear ck
  refine (heldLock_any _ _ _ (hullL m yss) 1 _ G15.out.sets HL4.out (by have := HL4.out; have := HNL.out; omega) (by omega) (by omega)).mono ?_
  rintro e w16 ⟨rfl, b16⟩
  have C16 := Lib.hid (below_trans' C15.out b16)
  have D16 := Lib.hid (below_trans' D15.out b16)
  have X16 := Lib.hid (X15.out.on b16)
  have T16 := Lib.hid (T15.out.on b16)
  have G16 := Lib.hid (G15.out.on b16)
  have K16 := Lib.hid (K15.out.on b16)
  clear C15 D15 X15 T15 G15 K15 b16
  obtain ⟨q0, q1, q2, q3, q4⟩ := X16.out.cells
  go_wp2_with fail
  clear q0 q1 q2 q3 q4
  refine (toMaker_any m _).mono ?_
  rintro e w17 ⟨rfl, b17⟩
  have C17 := Lib.hid (below_trans' C16.out b17)
  have D17 := Lib.hid (below_trans' D16.out b17)
  have X17 := Lib.hid (X16.out.on b17)
  have T17 := Lib.hid (T16.out.on b17)
  have G17 := Lib.hid (G16.out.on b17)
  have K17 := Lib.hid (K16.out.on b17)
  clear C16 D16 X16 T16 G16 K16 b17
  go_wp2_with fail
  refine (toLists_any _ _ _ yss _ (H.out.on C17.out) HN.out).mono ?_
  rintro e w18 ⟨V18, n18, c18, gs18, rfl, R18', z18, y18, b18⟩
  obtain rfl : n18 = n11 := R18'.len.symm.trans HL.out
  have S18 := Lib.hid R18'.sets
  clear R18' 
  have C18 := Lib.hid (below_trans' C17.out b18)
  have D18 := Lib.hid (below_trans' D17.out b18)
  have X18 := Lib.hid (X17.out.on b18)
  have T18 := Lib.hid (T17.out.on b18)
  have G18 := Lib.hid (G17.out.on b18)
  have K18 := Lib.hid (K17.out.on b18)
  clear C17 D17 X17 T17 G17 K17 b18
  go_wp2_with fail
  refine (hullOf_any m _ _ _ yss _ S18.out HN.out).mono ?_
  rintro e w19 ⟨V19, n19, c19, gs19, rfl, P19', z19, y19, b19⟩
  obtain rfl : n19 = n8 := P19'.len.symm.trans HL4.out
  have P19 := Lib.hid P19'.sets
  clear P19' S18
  have C19 := Lib.hid (below_trans' C18.out b19)
  have D19 := Lib.hid (below_trans' D18.out b19)
  have X19 := Lib.hid (X18.out.on b19)
  have T19 := Lib.hid (T18.out.on b19)
  have G19 := Lib.hid (G18.out.on b19)
  have K19 := Lib.hid (K18.out.on b19)
  clear C18 D18 X18 T18 G18 K18 b19
  have M20 := Lib.hid (Cell1.new w19 31 (.slice V19 n19 c19))
  have a20 := (Below.refl w19.heap.size w19).alloc (Nat.le_refl _) (.cells #[.slice V19 n19 c19] 31)
  obtain ⟨w20, hw20⟩ : ∃ w20, w20 = w19.alloc (.cells #[.slice V19 n19 c19] 31) := ⟨_, rfl⟩
  rw [← hw20] at M20 a20
  have P20 := Lib.hid (P19.out.on a20)
  have HW20 := Lib.hid hw20
  clear hw20 P19
  have C20 := Lib.hid (below_trans' C19.out a20)
  have D20 := Lib.hid (below_trans' D19.out a20)
  have X20 := Lib.hid (X19.out.on a20)
  have T20 := Lib.hid (T19.out.on a20)
  have G20 := Lib.hid (G19.out.on a20)
  have K20 := Lib.hid (K19.out.on a20)
  clear C19 D19 X19 T19 G19 K19 a20
  have ck := M20.out.cell
  have ct := T20.out.cell
  rw [HW20.out] at ck ct
  go_wp2_with fail
  clear ck ct
  rw [← HW20.out]
  refine (eqLock_true _ _ _ _ _ (hullL m yss) _ P20.out (S5.out.on D20.out) (by have := HL4.out; have := HNL.out; omega)).mono ?_
  rintro e w21 ⟨rfl, b21⟩
  have C21 := Lib.hid (below_trans' C20.out b21)
  have D21 := Lib.hid (below_trans' D20.out b21)
  have X21 := Lib.hid (X20.out.on b21)
  have T21 := Lib.hid (T20.out.on b21)
  have G21 := Lib.hid (G20.out.on b21)
  have K21 := Lib.hid (K20.out.on b21)
  clear C20 D20 X20 T20 G20 K20 b21
  have ck := K21.out.cell
  go_wp2_with fail
  clear ck
  refine (heldLock_any _ _ _ (hullL m yss) 1 _ G21.out.sets HL4.out (by have := HL4.out; have := HNL.out; omega) (by omega) (by omega)).mono ?_
  rintro e w22 ⟨rfl, b22⟩
  have C22 := Lib.hid (below_trans' C21.out b22)
  clear C21 b22
  clear D21 X21 T21 G21 K21
  go_wp2
  go_ret
  exact ⟨rfl, C22.out⟩

end Go.Proofs.Ytbadahnhlehidaa
