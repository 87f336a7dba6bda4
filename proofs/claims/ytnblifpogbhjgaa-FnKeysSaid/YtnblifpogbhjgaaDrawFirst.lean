/- The draw for FirstKeys. -/
import Derived.Test.YtnblifpogbhjgaaDrawFault
namespace Go.Proofs.Ytnblifpogbhjgaa
open Go.RowKit

/-- what a draw of a maker and a number answers -/
def DrawnMN (w : World) (e : Ending) (w' : World) : Prop :=
  ∃ (m : Mk) (k : Int), e = .returned (.tuple #[.agg #[.int .i64 m.C, .int .i64 m.D, .int .i64 m.S, .int .i64 m.M, .int .i64 m.L], .int .i64 k]) ∧ Small m ∧ Below w.heap.size w w'

set_option maxRecDepth 100000 in
set_option maxHeartbeats 8000000 in
theorem drawFirstKeys_any (B : Nat) (A : Option Addr) (n c : Nat) (w : World) (hb : Bts w B A n) (hB : B ≤ w.heap.size) (hn : n ≤ 4096) :
    Calls Try.prog 31 #[.slice A n c] w (DrawnMN w) := by
  have HB := Lib.hid (hb.keep (fun p hp => Below.cell ((Below.refl w.heap.size w).alloc (Nat.le_refl _) (.cells #[.int .i64 0, .int .i64 0, .int .i64 0, .int .i64 0, .int .i64 0] 25)) (by omega)))
  have x1 := Boxed.new w 25 ⟨0, 0, 0, 0, 0⟩
  have b1 := (Below.refl w.heap.size w).alloc (Nat.le_refl _) (.cells #[.int .i64 0, .int .i64 0, .int .i64 0, .int .i64 0, .int .i64 0] 25)
  clear hb
  go_enter Try.func31, Try.ntmps31
  go_wp2_with fail
  refine (l01From_any B A n c _ HB.out (by simp; omega) hn).mono ?_
  rintro e w2 ⟨g, rfl, hg, hg1, h2, b2⟩
  have x2 := x1.on b2
  have c2 := b1.trans (b2.mono (by simp))
  have hgw : w.heap.size < g := by simp at hg; omega
  clear x1 b1 b2 HB
  go_wp2_with fail
  refine (l02Draw_any B g A n c _ h2).mono ?_
  rintro e w3 ⟨m, rfl, hSm, h3, g3⟩
  have x3 := x2.grown g3 (by intro e; injection e with e; omega)
  have c3 := below_grown c2 g3 (fun q e => by injection e with e; omega)
  have s3 : g < w3.heap.size := h3.lt
  clear h2 x2 c2 g3 hg1
  have H4 := Lib.hid (h3.alloc (.cells #[.int .i64 m.C, .int .i64 m.D, .int .i64 m.S, .int .i64 m.M, .int .i64 m.L] 25))
  have Y4 := Lib.hid (Boxed.new w3 25 m)
  have X4 := Lib.hid (x3.alloc (.cells #[.int .i64 m.C, .int .i64 m.D, .int .i64 m.S, .int .i64 m.M, .int .i64 m.L] 25))
  have C4 := Lib.hid (c3.alloc (Nat.le_trans (by omega) (Nat.le_of_lt s3)) (.cells #[.int .i64 m.C, .int .i64 m.D, .int .i64 m.S, .int .i64 m.M, .int .i64 m.L] 25))
  clear h3 x3 c3
  go_wp2
  generalize (w3.alloc (.cells #[.int .i64 m.C, .int .i64 m.D, .int .i64 m.S, .int .i64 m.M, .int .i64 m.L] 25)) = W at *
  obtain ⟨q0, q1, q2, q3, q4⟩ := Y4.out.cells
  have c4s := C4.out.size
  have gW := H4.out.lt
  have hne : ¬ w.heap.size = w3.heap.size := by omega
  have hne2 : ¬ w3.heap.size = w.heap.size := by omega
  have HIV := Lib.hid (show Ints (W.alloc (.cells ([0, 1, 5, 20, 100, 300, 301, -1].map (Value.int .i64)).toArray 2)).drew (W.alloc (.cells ([0, 1, 5, 20, 100, 300, 301, -1].map (Value.int .i64)).toArray 2)).drew.heap.size (some ⟨W.heap.size, 0, none⟩) 8 [0, 1, 5, 20, 100, 300, 301, -1] from ints_new W [0, 1, 5, 20, 100, 300, 301, -1] 2)
  have HSV := Lib.hid (show Src (W.alloc (.cells ([0, 1, 5, 20, 100, 300, 301, -1].map (Value.int .i64)).toArray 2)).drew B g A n c from H4.out.alloc _)
  go_region_held3 (fun w' => w'.cell? ⟨w3.heap.size, 0, none⟩ = some (.int .i64 m.C) ∧ w'.cell? ⟨w3.heap.size, 1, none⟩ = some (.int .i64 m.D) ∧ w'.cell? ⟨w3.heap.size, 2, none⟩ = some (.int .i64 m.S) ∧ w'.cell? ⟨w3.heap.size, 3, none⟩ = some (.int .i64 m.M) ∧ w'.cell? ⟨w3.heap.size, 4, none⟩ = some (.int .i64 m.L))
    (first
      | go_keep
      | with_reducible exact Y5.out.cells
      | with_reducible exact HPU)
    (first
      | (go_at_call 71; refine (l01Pick_any B g A n c _ _ _ _ _ HSV.out HIV.out (fun ad e => by injection e with e; subst e; show W.heap.size ≠ g; omega) (by simp) (by simp)).mono ?_; rintro e w5 ⟨r, rfl, hr, S5, g5⟩; have Y5 := Lib.hid (Boxed.grown (w := (W.alloc (.cells ([0, 1, 5, 20, 100, 300, 301, -1].map (Value.int .i64)).toArray 2)).drew) (Y4.out.alloc _) g5 (by intro e; injection e with e; omega)); have X5 := Lib.hid (Boxed.grown (w := (W.alloc (.cells ([0, 1, 5, 20, 100, 300, 301, -1].map (Value.int .i64)).toArray 2)).drew) (X4.out.alloc _) g5 (by intro e; injection e with e; omega)); obtain ⟨d0, d1, d2, d3, d4⟩ := X5.out.thawed; obtain ⟨p0, p1, p2, p3, p4⟩ := X5.out.cells; have HPU := (Y5.out.put_other (b' := w.heap.size) (by omega) m).cells; unfold put5 at HPU))
  all_goals
    clear q0 q1 q2 q3 q4 d0 d1 d2 d3 d4 p0 p1 p2 p3 p4 HPU
    obtain ⟨r0, r1, r2, r3, r4⟩ := (X5.out.put m).cells
    unfold put5 at r0 r1 r2 r3 r4
    have C6 := below_put (b := w.heap.size) (below_grown (w := (W.alloc (.cells ([0, 1, 5, 20, 100, 300, 301, -1].map (Value.int .i64)).toArray 2)).drew) (C4.out.alloc c4s _).drew g5 (fun q e => by injection e with e; omega)) (Nat.le_refl _) m
    go_wp2
    refine bodyPost_ret (v := .tuple #[.agg #[.int .i64 m.C, .int .i64 m.D, .int .i64 m.S, .int .i64 m.M, .int .i64 m.L], .int .i64 r]) (by simp [results, Try.results31, go_sem, r0, r1, r2, r3, r4]) rfl ⟨m, r, rfl, hSm, C6⟩

end Go.Proofs.Ytnblifpogbhjgaa
