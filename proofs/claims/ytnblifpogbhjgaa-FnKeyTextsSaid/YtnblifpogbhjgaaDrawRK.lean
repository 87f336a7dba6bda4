/- The draw for ReadKey. -/
import Derived.Test.YtnblifpogbhjgaaDrawKT
import Derived.Test.YtnblifpogbhjgaaKText2
import Derived.Test.YtnblifpogbhjgaaDamage
namespace Go.Proofs.Ytnblifpogbhjgaa
open Go.RowKit

theorem key_text_small {m : Mk} {xs : List Int} {t : ByteArray} (h : Txt t (ktT m xs)) : t.size ≤ 6 := by
  rw [size_of h]
  unfold ktT
  rcases hk : isKeyB m xs with _ | _
  · simp
  · obtain ⟨hm, hl, _⟩ := key_facts hk
    obtain ⟨m1, m2, _⟩ := Mk.ok_true hm
    simp [textK]; omega

/-- what a draw of a maker and a text answers -/
def DrawnMT (w : World) (e : Ending) (w' : World) : Prop :=
  ∃ (m : Mk) (t : ByteArray), e = .returned (.tuple #[.agg #[.int .i64 m.C, .int .i64 m.D, .int .i64 m.S, .int .i64 m.M, .int .i64 m.L], .string t]) ∧ Small m ∧ t.size ≤ 1048576 ∧ Below w.heap.size w w'

set_option maxRecDepth 100000 in
set_option maxHeartbeats 8000000 in
theorem drawReadKey_any (B : Nat) (A : Option Addr) (n c : Nat) (w : World) (hb : Bts w B A n) (hB : B ≤ w.heap.size) (hn : n ≤ 4096) :
    Calls Try.prog 38 #[.slice A n c] w (DrawnMT w) := by
  have HB := Lib.hid (hb.keep (fun p hp => Below.cell ((Below.refl w.heap.size w).alloc (Nat.le_refl _) (.cells #[.int .i64 0, .int .i64 0, .int .i64 0, .int .i64 0, .int .i64 0] 25)) (by omega)))
  have x1 := Boxed.new w 25 ⟨0, 0, 0, 0, 0⟩
  have b1 := (Below.refl w.heap.size w).alloc (Nat.le_refl _) (.cells #[.int .i64 0, .int .i64 0, .int .i64 0, .int .i64 0, .int .i64 0] 25)
  clear hb
  go_enter Try.func38, Try.ntmps38
  go_wp2_with fail
  refine (l01From_any B A n c _ HB.out (by simp; omega) hn).mono ?_
  rintro e w2 ⟨g, rfl, hg, hg1, h2, b2⟩
  have x2 := x1.on b2
  have c2 := b1.trans (b2.mono (by simp))
  have hgw : w.heap.size < g := by simp at hg; omega
  clear x1 b1 b2 HB
  go_wp2_with fail
  refine (l02Draw_any B g A n c _ h2).mono ?_
  rintro e w3 ⟨m, rfl, hSm, h3, g3⟩
  have x3 := x2.grown g3 (by intro e; injection e with e; omega)
  have c3 := below_grown c2 g3 (fun q e => by injection e with e; omega)
  have s3 : g < w3.heap.size := h3.lt
  clear h2 x2 c2 g3 hg1
  have H4 := Lib.hid (h3.alloc (.cells #[.int .i64 m.C, .int .i64 m.D, .int .i64 m.S, .int .i64 m.M, .int .i64 m.L] 25))
  have Y4 := Lib.hid (Boxed.new w3 25 m)
  have X4 := Lib.hid (x3.alloc (.cells #[.int .i64 m.C, .int .i64 m.D, .int .i64 m.S, .int .i64 m.M, .int .i64 m.L] 25))
  have C4 := Lib.hid (c3.alloc (Nat.le_trans (by omega) (Nat.le_of_lt s3)) (.cells #[.int .i64 m.C, .int .i64 m.D, .int .i64 m.S, .int .i64 m.M, .int .i64 m.L] 25))
  clear h3 x3 c3
  go_wp2
  generalize (w3.alloc (.cells #[.int .i64 m.C, .int .i64 m.D, .int .i64 m.S, .int .i64 m.M, .int .i64 m.L] 25)) = W at *
  obtain ⟨q0, q1, q2, q3, q4⟩ := Y4.out.cells
  have c4s := C4.out.size
  have gW := H4.out.lt
  have hne : ¬ w.heap.size = w3.heap.size := by omega
  have hne2 : ¬ w3.heap.size = w.heap.size := by omega
  go_region_held3 (fun w' => w'.cell? ⟨w3.heap.size, 0, none⟩ = some (.int .i64 m.C) ∧ w'.cell? ⟨w3.heap.size, 1, none⟩ = some (.int .i64 m.D) ∧ w'.cell? ⟨w3.heap.size, 2, none⟩ = some (.int .i64 m.S) ∧ w'.cell? ⟨w3.heap.size, 3, none⟩ = some (.int .i64 m.M) ∧ w'.cell? ⟨w3.heap.size, 4, none⟩ = some (.int .i64 m.L))
    (first
      | go_keep
      | with_reducible exact Y5.out.cells
      | with_reducible exact Y6.out.cells)
    (first
      | (go_at_call 58; refine (l02DrawKey_any m hSm B g A n c _ (show Src W.drew B g A n c from H4.out) (show B ≤ W.heap.size by omega)).mono ?_; rintro e w5 ⟨A', k, c', xs, rfl, O5, hk, hkc, hcm, S5, g5⟩; have Y5 := Lib.hid (Boxed.grown (w := W.drew) Y4.out g5 (by intro e; injection e with e; omega)); have X5 := Lib.hid (Boxed.grown (w := W.drew) X4.out g5 (by intro e; injection e with e; omega)))
      | (go_at_call 37; refine (specKeyText_any m _ _ _ xs _ O5.ints hk hkc hcm).mono ?_; rintro e w6 ⟨t, rfl, ht, hts, b6⟩; have Y6 := Lib.hid (Y5.out.on b6)))
  all_goals
    have X6 := Lib.hid (X5.out.on b6)
    have g5s := g5.size
    have S6 := Lib.hid (S5.on b6 (by have := O5.size; simp at g5s; omega))
    have C6 := Lib.hid (below_trans' (below_grown (w := W.drew) C4.out.drew g5 (fun q e => by injection e with e; omega)) b6)
    have hts6 := key_text_small ht
    clear q0 q1 q2 q3 q4 Y5 X5 S5 O5 g5 b6 H4 Y4 X4 C4 g5s
    go_wp2_with fail
    refine (l01Next_any B g A n c _ _ S6 (by omega)).mono ?_
    rintro e w7 ⟨x, rfl, x0, x9, S7, g7⟩
    have Y7 := Lib.hid (Y6.out.grown g7 (by intro e; injection e with e; omega))
    have X7 := Lib.hid (X6.out.grown g7 (by intro e; injection e with e; omega))
    have C7 := Lib.hid (below_grown C6.out g7 (fun q e => by injection e with e; omega))
    have hnT : t.size ≤ 1000000 := by omega
    clear X6 Y6 S6 C6 g7 x9 ht hts
    by_cases hx : x = 0
    · subst hx
      obtain ⟨q0, q1, q2, q3, q4⟩ := Y7.out.cells
      go_wp2
      go_region_held3 (fun w' => w'.cell? ⟨w3.heap.size, 0, none⟩ = some (.int .i64 m.C) ∧ w'.cell? ⟨w3.heap.size, 1, none⟩ = some (.int .i64 m.D) ∧ w'.cell? ⟨w3.heap.size, 2, none⟩ = some (.int .i64 m.S) ∧ w'.cell? ⟨w3.heap.size, 3, none⟩ = some (.int .i64 m.M) ∧ w'.cell? ⟨w3.heap.size, 4, none⟩ = some (.int .i64 m.L))
        (first
          | go_keep
          | with_reducible exact Y8.out.cells
          | with_reducible exact HPU)
        (first
          | (go_at_call 75; refine (damage_any B g A n c t _ (show Src w7.drew B g A n c from S7) hnT).mono ?_; rintro e w8 ⟨t', rfl, ht', S8, g8⟩; have Y8 := Lib.hid (Boxed.grown (w := w7.drew) Y7.out g8 (by intro e; injection e with e; omega)); have X8 := Lib.hid (Boxed.grown (w := w7.drew) X7.out g8 (by intro e; injection e with e; omega)); obtain ⟨d0, d1, d2, d3, d4⟩ := X8.out.thawed; obtain ⟨p0, p1, p2, p3, p4⟩ := X8.out.cells; have HPU := (Y8.out.put_other (b' := w.heap.size) (by omega) m).cells; unfold put5 at HPU))
      all_goals
        clear q0 q1 q2 q3 q4 d0 d1 d2 d3 d4 p0 p1 p2 p3 p4 HPU
        obtain ⟨r0, r1, r2, r3, r4⟩ := (X8.out.put m).cells
        unfold put5 at r0 r1 r2 r3 r4
        have C9 := below_put (b := w.heap.size) (below_grown (w := w7.drew) C7.out.drew g8 (fun q e => by injection e with e; omega)) (Nat.le_refl _) m
        go_wp2
        refine bodyPost_ret (v := .tuple #[.agg #[.int .i64 m.C, .int .i64 m.D, .int .i64 m.S, .int .i64 m.M, .int .i64 m.L], .string t']) (by simp [results, Try.results38, go_sem, r0, r1, r2, r3, r4]) rfl ⟨m, t', rfl, hSm, by omega, C9⟩
    · have xb : (x == 0) = false := by simpa using hx
      obtain ⟨q0, q1, q2, q3, q4⟩ := Y7.out.cells
      obtain ⟨d0, d1, d2, d3, d4⟩ := X7.out.thawed
      obtain ⟨p0, p1, p2, p3, p4⟩ := X7.out.cells
      have HPU := (X7.out.put m).cells
      unfold put5 at HPU
      obtain ⟨r0, r1, r2, r3, r4⟩ := HPU
      have C9 := Lib.hid (below_put (b := w.heap.size) C7.out (Nat.le_refl _) m)
      go_wp2
      refine bodyPost_ret (v := .tuple #[.agg #[.int .i64 m.C, .int .i64 m.D, .int .i64 m.S, .int .i64 m.M, .int .i64 m.L], .string t]) (by simp [results, Try.results38, go_sem, r0, r1, r2, r3, r4]) rfl ⟨m, t, rfl, hSm, by omega, C9.out⟩

end Go.Proofs.Ytnblifpogbhjgaa
