/- The draw of a maker and two keys, and lists compared. -/
import Derived.Test.YtpbimekfhdgdoaaDrawKey
namespace Go.Proofs.Ytpbimekfhdgdoaa
open Go Go.RowKit

/-- what a draw of a maker and two keys answers -/
def DrawnMOO (w : World) (e : Ending) (w' : World) : Prop :=
  ∃ (m : Mk) (A : Option Addr) (k c : Nat) (xs : List Int) (A' : Option Addr) (k' c' : Nat) (ys : List Int), e = .returned (.tuple #[.agg #[.int .i64 m.C, .int .i64 m.D, .int .i64 m.S, .int .i64 m.M, .int .i64 m.L], .slice A k c, .slice A' k' c']) ∧ Small m ∧ Own w' w.heap.size w'.heap.size A k xs ∧ k ≤ 1048576 ∧ k ≤ c ∧ c ≤ 9223372036854775807 ∧ Own w' w.heap.size w'.heap.size A' k' ys ∧ k' ≤ 1048576 ∧ k' ≤ c' ∧ c' ≤ 9223372036854775807 ∧ Below w.heap.size w w'

set_option maxRecDepth 100000 in
set_option maxHeartbeats 8000000 in
theorem drawDifferenceOf_any (B : Nat) (A : Option Addr) (n c : Nat) (w : World) (hb : Bts w B A n) (hB : B ≤ w.heap.size) (hn : n ≤ 4096) :
    Calls Try.prog 5 #[.slice A n c] w (DrawnMOO w) := by
  have HB := Lib.hid (hb.keep (fun p hp => Below.cell ((Below.refl w.heap.size w).alloc (Nat.le_refl _) (.cells #[.int .i64 0, .int .i64 0, .int .i64 0, .int .i64 0, .int .i64 0] 25)) (by omega)))
  have x1 := Boxed.new w 25 ⟨0, 0, 0, 0, 0⟩
  have b1 := (Below.refl w.heap.size w).alloc (Nat.le_refl _) (.cells #[.int .i64 0, .int .i64 0, .int .i64 0, .int .i64 0, .int .i64 0] 25)
  clear hb
  go_enter Try.func5, Try.ntmps5
  go_wp2_with fail
  refine (l01From_any B A n c _ HB.out (by simp; omega) hn).mono ?_
  rintro e w2 ⟨g, rfl, hg, hg1, h2, b2⟩
  have x2 := x1.on b2
  have c2 := b1.trans (b2.mono (by simp))
  have hgw : w.heap.size < g := by simp at hg; omega
  clear x1 b1 b2 HB
  go_wp2_with fail
  refine (l02Draw_any B g A n c _ h2).mono ?_
  rintro e w3 ⟨m, rfl, hSm, h3, g3⟩
  have x3 := x2.grown g3 (by intro e; injection e with e; omega)
  have c3 := below_grown c2 g3 (fun q e => by injection e with e; omega)
  have s3 : g < w3.heap.size := h3.lt
  clear h2 x2 c2 g3 hg1
  have H4 := Lib.hid (h3.alloc (.cells #[.int .i64 m.C, .int .i64 m.D, .int .i64 m.S, .int .i64 m.M, .int .i64 m.L] 25))
  have Y4 := Lib.hid (Boxed.new w3 25 m)
  have X4 := Lib.hid (x3.alloc (.cells #[.int .i64 m.C, .int .i64 m.D, .int .i64 m.S, .int .i64 m.M, .int .i64 m.L] 25))
  have C4 := Lib.hid (c3.alloc (Nat.le_trans (by omega) (Nat.le_of_lt s3)) (.cells #[.int .i64 m.C, .int .i64 m.D, .int .i64 m.S, .int .i64 m.M, .int .i64 m.L] 25))
  clear h3 x3 c3
  have gW0 := H4.out.lt
  obtain ⟨q0, q1, q2, q3, q4⟩ := Y4.out.cells
  go_wp2_with fail
  refine (l02DrawKey_any m hSm B g A n c _ H4.out (by rw [World.size_alloc]; omega)).mono ?_
  rintro e W ⟨A1, k1, k1c, ys, rfl, P5, hk1, hkc1, hcm1, T5, f5⟩
  clear q0 q1 q2 q3 q4 gW0
  rw [World.size_alloc] at P5
  have O1 := Lib.hid P5
  have Y5' := Lib.hid (Y4.out.grown f5 (by intro e; injection e with e; omega))
  have X5' := Lib.hid (X4.out.grown f5 (by intro e; injection e with e; omega))
  have C5 := Lib.hid (below_grown C4.out f5 (fun q e => by injection e with e; omega))
  clear H4 Y4 X4 C4 P5 f5
  have HH := And.intro (Lib.hid T5) (And.intro Y5' (And.intro X5' C5))
  clear T5 Y5' X5' C5
  obtain ⟨H4, Y4, X4, C4⟩ := HH
  go_wp2
  obtain ⟨q0, q1, q2, q3, q4⟩ := Y4.out.cells
  have c4s := C4.out.size
  have gW := H4.out.lt
  have hne : ¬ w.heap.size = w3.heap.size := by omega
  have hne2 : ¬ w3.heap.size = w.heap.size := by omega
  go_region_held3 (fun w' => w'.cell? ⟨w3.heap.size, 0, none⟩ = some (.int .i64 m.C) ∧ w'.cell? ⟨w3.heap.size, 1, none⟩ = some (.int .i64 m.D) ∧ w'.cell? ⟨w3.heap.size, 2, none⟩ = some (.int .i64 m.S) ∧ w'.cell? ⟨w3.heap.size, 3, none⟩ = some (.int .i64 m.M) ∧ w'.cell? ⟨w3.heap.size, 4, none⟩ = some (.int .i64 m.L))
    (first
      | go_keep
      | with_reducible exact Y5.out.cells
      | with_reducible exact HPU)
    (first
      | (go_at_call 17; refine (l02DrawKey_any m hSm B g A n c _ (show Src W.drew B g A n c from H4.out) (show B ≤ W.heap.size by omega)).mono ?_; rintro e w5 ⟨A', k, c', xs, rfl, O5, hk, hkc, hcm, S5, g5⟩; have Y5 := Lib.hid (Boxed.grown (w := W.drew) Y4.out g5 (by intro e; injection e with e; omega)); have X5 := Lib.hid (Boxed.grown (w := W.drew) X4.out g5 (by intro e; injection e with e; omega)); obtain ⟨d0, d1, d2, d3, d4⟩ := X5.out.thawed; obtain ⟨p0, p1, p2, p3, p4⟩ := X5.out.cells; have HPU := (Y5.out.put_other (b' := w.heap.size) (by omega) m).cells; unfold put5 at HPU))
  all_goals
    clear q0 q1 q2 q3 q4 d0 d1 d2 d3 d4 p0 p1 p2 p3 p4 HPU
    obtain ⟨r0, r1, r2, r3, r4⟩ := (X5.out.put m).cells
    unfold put5 at r0 r1 r2 r3 r4
    have I1 := ((O1.out.apart (w := W.drew) g5 (fun q e => by injection e with e; omega)).put5 (b := w.heap.size) (by omega) m).more (show w.heap.size ≤ w3.heap.size + 1 by omega) (show W.heap.size ≤ _ from by rw [put5_size]; exact g5.size) (Nat.le_refl _)
    have I6 := (O5.put5 (b := w.heap.size) (show w.heap.size < W.heap.size by omega) m).more (show w.heap.size ≤ W.heap.size by omega) (Nat.le_of_eq (put5_size _ _ m).symm) (Nat.le_refl _)
    have C6 := below_put (b := w.heap.size) (below_grown (w := W.drew) C4.out.drew g5 (fun q e => by injection e with e; omega)) (Nat.le_refl _) m
    go_wp2
    have OA := I1
    have OB := I6
    have OC := C6
    clear I1 I6 C6
    unfold put5 at OA OB OC
    generalize hW : (World.setCell _ { block := w.heap.size, off := 4 } (Value.int IntKind.i64 m.L)) = Z at *
    clear hW
    refine bodyPost_ret (v := .tuple #[.agg #[.int .i64 m.C, .int .i64 m.D, .int .i64 m.S, .int .i64 m.M, .int .i64 m.L], .slice A1 k1 k1c, .slice A' k c']) ?_ rfl ⟨m, A1, k1, k1c, ys, A', k, c', xs, rfl, hSm, OA, hk1, hkc1, hcm1, OB, by omega, hkc, hcm, OC⟩
    simp [results, Try.results5, go_sem, r0, r1, r2, r3, r4]

end Go.Proofs.Ytpbimekfhdgdoaa
