/- The draw for NearestKey. -/
import Derived.Test.YtbadahnhlehidaaDrawKey
namespace Go.Proofs.Ytbadahnhlehidaa
open Go Go.RowKit

theorem small_ok {m : Mk} (h : m.ok = true) : Small m := by
  obtain ⟨m1, m2, m3, m4, m5, m6, m7, m8, m9, m10, m11⟩ := Mk.ok_true h
  unfold Small
  omega

theorem Src.put5 {w : World} {B g n c b : Nat} {A : Option Addr} (h : Src w B g A n c) (hb : g < b) (m : Mk) : Src (put5 w b m) B g A n c := by
  have k : ∀ (w : World) (i : Nat) (v : Value), Src w B g A n c → Src (w.setCell ⟨b, i, none⟩ v) B g A n c := fun w i v h =>
    h.apart (grown_set (p := ⟨b, i, none⟩) (World.grownBy.refl w (some b)) rfl v) (fun q e => by injection e with e; omega)
  exact k _ _ _ (k _ _ _ (k _ _ _ (k _ _ _ (k _ _ _ h))))

set_option maxRecDepth 100000 in
set_option maxHeartbeats 8000000 in
theorem drawNearestKey_any (B : Nat) (A : Option Addr) (n c : Nat) (w : World) (hb : Bts w B A n) (hB : B ≤ w.heap.size) (hn : n ≤ 4096) :
    Calls Try.prog 75 #[.slice A n c] w (DrawnMO w) := by
  have HB := Lib.hid (hb.keep (fun p hp => Below.cell ((Below.refl w.heap.size w).alloc (Nat.le_refl _) (.cells #[.int .i64 0, .int .i64 0, .int .i64 0, .int .i64 0, .int .i64 0] 29)) (by omega)))
  have x1 := Boxed.new w 29 ⟨0, 0, 0, 0, 0⟩
  have b1 := (Below.refl w.heap.size w).alloc (Nat.le_refl _) (.cells #[.int .i64 0, .int .i64 0, .int .i64 0, .int .i64 0, .int .i64 0] 29)
  clear hb
  go_enter Try.func75, Try.ntmps75
  go_wp2_with fail
  refine (l01From_any B A n c _ HB.out (by simp; omega) hn).mono ?_
  rintro e w2 ⟨g, rfl, hg, hg1, h2, b2⟩
  have x2 := x1.on b2
  have c2 := b1.trans (b2.mono (by simp))
  have hgw : w.heap.size < g := by simp at hg; omega
  clear x1 b1 b2 HB
  go_wp2_with fail
  refine (l02Valid_any B g A n c _ h2).mono ?_
  rintro e w3 ⟨m, rfl, ⟨hOk, hC4, hD4⟩, h3, g3⟩
  have hSm := small_ok hOk
  have x3 := x2.grown g3 (by intro e; injection e with e; omega)
  have c3 := below_grown c2 g3 (fun q e => by injection e with e; omega)
  have s3 : g < w3.heap.size := h3.lt
  clear h2 x2 c2 g3 hg1 hOk hC4 hD4
  have H4 := Lib.hid (h3.alloc (.cells #[.int .i64 m.C, .int .i64 m.D, .int .i64 m.S, .int .i64 m.M, .int .i64 m.L] 29))
  have Y4 := Lib.hid (Boxed.new w3 29 m)
  have X4 := Lib.hid (x3.alloc (.cells #[.int .i64 m.C, .int .i64 m.D, .int .i64 m.S, .int .i64 m.M, .int .i64 m.L] 29))
  have C4 := Lib.hid (c3.alloc (Nat.le_trans (by omega) (Nat.le_of_lt s3)) (.cells #[.int .i64 m.C, .int .i64 m.D, .int .i64 m.S, .int .i64 m.M, .int .i64 m.L] 29))
  clear h3 x3 c3
  go_wp2_with fail
  refine (l01Next_any B g A n c _ _ H4.out (by omega)).mono ?_
  rintro e w5 ⟨x, rfl, x0, x9, S5, g5⟩
  have H5 := Lib.hid S5
  have Y5 := Lib.hid (Y4.out.grown g5 (by intro e; injection e with e; omega))
  have X5 := Lib.hid (X4.out.grown g5 (by intro e; injection e with e; omega))
  have C5 := Lib.hid (below_grown C4.out g5 (fun q e => by injection e with e; omega))
  have w53 := Nat.lt_of_lt_of_le Y4.out.lt g5.size
  clear H4 Y4 X4 C4 S5 g5 x9
  have hgne : g < w3.heap.size := s3
  by_cases hx : x = 0
  · subst hx
    obtain ⟨d0, d1, d2, d3, d4⟩ := Y5.out.thawed
    go_wp2_with fail
    clear d0 d1 d2 d3 d4
    refine (l02Draw_any B g A n c _ H5.out).mono ?_
    rintro e w6 ⟨m9, rfl, hSm9, h6, g6⟩
    have Y6 := Lib.hid (Y5.out.grown g6 (by intro e; injection e with e; omega))
    have X6 := Lib.hid (X5.out.grown g6 (by intro e; injection e with e; omega))
    have C6 := Lib.hid (below_grown C5.out g6 (fun q e => by injection e with e; omega))
    have w63 := Nat.lt_of_lt_of_le w53 g6.size
    clear H5 Y5 X5 C5 g6
    have H4 := Lib.hid (show Src (put5 w6 w3.heap.size m9) B g A n c from h6.put5 s3 m9)
    have Y4 := Lib.hid (Y6.out.put m9)
    have X4 := Lib.hid (X6.out.put_other (b' := w3.heap.size) (by omega) m9)
    have C4 := Lib.hid (below_put (b := w3.heap.size) C6.out (by omega) m9)
    obtain ⟨d0, d1, d2, d3, d4⟩ := Y6.out.thawed
    obtain ⟨p0, p1, p2, p3, p4⟩ := Y6.out.cells
    go_wp2
    clear d0 d1 d2 d3 d4 p0 p1 p2 p3 p4 Y6 X6 C6 h6
    have hWs : w6.heap.size = (put5 w6 w3.heap.size m9).heap.size := (put5_size _ _ _).symm
    unfold put5 at H4 Y4 X4 C4 hWs
    generalize hW : (World.setCell _ { block := w3.heap.size, off := 4 } (Value.int IntKind.i64 m9.L)) = W at *
    rw [hWs] at w63
    clear hW hWs hSm
    obtain ⟨mo, rfl⟩ : ∃ mo, mo = m := ⟨_, rfl⟩
    obtain ⟨m, rfl⟩ : ∃ m, m = m9 := ⟨_, rfl⟩
    have hSm := hSm9
    obtain ⟨q0, q1, q2, q3, q4⟩ := Y4.out.cells
    have c4s := C4.out.size
    have gW := H4.out.lt
    have hne : ¬ w.heap.size = w3.heap.size := by omega
    have hne2 : ¬ w3.heap.size = w.heap.size := by omega
    go_region_held3 (fun w' => w'.cell? ⟨w3.heap.size, 0, none⟩ = some (.int .i64 m.C) ∧ w'.cell? ⟨w3.heap.size, 1, none⟩ = some (.int .i64 m.D) ∧ w'.cell? ⟨w3.heap.size, 2, none⟩ = some (.int .i64 m.S) ∧ w'.cell? ⟨w3.heap.size, 3, none⟩ = some (.int .i64 m.M) ∧ w'.cell? ⟨w3.heap.size, 4, none⟩ = some (.int .i64 m.L))
      (first
        | go_keep
        | with_reducible exact Y5.out.cells
        | with_reducible exact HPU)
      (first
        | (go_at_call 105; refine (l02DrawKey_any m hSm B g A n c _ (show Src W.drew B g A n c from H4.out) (show B ≤ W.heap.size by omega)).mono ?_; rintro e w5 ⟨A', k, c', xs, rfl, O5, hk, hkc, hcm, S5, g5⟩; have Y5 := Lib.hid (Boxed.grown (w := W.drew) Y4.out g5 (by intro e; injection e with e; omega)); have X5 := Lib.hid (Boxed.grown (w := W.drew) X4.out g5 (by intro e; injection e with e; omega)); obtain ⟨d0, d1, d2, d3, d4⟩ := X5.out.thawed; obtain ⟨p0, p1, p2, p3, p4⟩ := X5.out.cells; have HPU := (Y5.out.put_other (b' := w.heap.size) (by omega) m).cells; unfold put5 at HPU))
    all_goals
      clear q0 q1 q2 q3 q4 d0 d1 d2 d3 d4 p0 p1 p2 p3 p4 HPU
      obtain ⟨r0, r1, r2, r3, r4⟩ := (X5.out.put m).cells
      unfold put5 at r0 r1 r2 r3 r4
      have OA := (O5.put5 (b := w.heap.size) (show w.heap.size < W.heap.size by omega) m).more (show w.heap.size ≤ W.heap.size by omega) (Nat.le_of_eq (put5_size _ _ m).symm) (Nat.le_refl _)
      have OC := below_put (b := w.heap.size) (below_grown (w := W.drew) C4.out.drew g5 (fun q e => by injection e with e; omega)) (Nat.le_refl _) m
      go_wp2
      unfold put5 at OA OC
      generalize hW : (World.setCell _ { block := w.heap.size, off := 4 } (Value.int IntKind.i64 m.L)) = Z at *
      clear hW
      refine bodyPost_ret (v := .tuple #[.agg #[.int .i64 m.C, .int .i64 m.D, .int .i64 m.S, .int .i64 m.M, .int .i64 m.L], .slice A' k c']) ?_ rfl ⟨m, A', k, c', xs, rfl, hSm, OA, by omega, hkc, hcm, OC⟩
      simp [results, Try.results75, go_sem, r0, r1, r2, r3, r4]
  · have xb : (x == 0) = false := by simpa using hx
    obtain ⟨W, rfl⟩ : ∃ W : World, W = w5 := ⟨_, rfl⟩
    have HH := And.intro H5 (And.intro Y5 (And.intro X5 C5))
    clear H5 Y5 X5 C5
    obtain ⟨H4, Y4, X4, C4⟩ := HH
    go_wp2
    obtain ⟨q0, q1, q2, q3, q4⟩ := Y4.out.cells
    have c4s := C4.out.size
    have gW := H4.out.lt
    have hne : ¬ w.heap.size = w3.heap.size := by omega
    have hne2 : ¬ w3.heap.size = w.heap.size := by omega
    go_region_held3 (fun w' => w'.cell? ⟨w3.heap.size, 0, none⟩ = some (.int .i64 m.C) ∧ w'.cell? ⟨w3.heap.size, 1, none⟩ = some (.int .i64 m.D) ∧ w'.cell? ⟨w3.heap.size, 2, none⟩ = some (.int .i64 m.S) ∧ w'.cell? ⟨w3.heap.size, 3, none⟩ = some (.int .i64 m.M) ∧ w'.cell? ⟨w3.heap.size, 4, none⟩ = some (.int .i64 m.L))
      (first
        | go_keep
        | with_reducible exact Y5.out.cells
        | with_reducible exact HPU)
      (first
        | (go_at_call 105; refine (l02DrawKey_any m hSm B g A n c _ (show Src W.drew B g A n c from H4.out) (show B ≤ W.heap.size by omega)).mono ?_; rintro e w5 ⟨A', k, c', xs, rfl, O5, hk, hkc, hcm, S5, g5⟩; have Y5 := Lib.hid (Boxed.grown (w := W.drew) Y4.out g5 (by intro e; injection e with e; omega)); have X5 := Lib.hid (Boxed.grown (w := W.drew) X4.out g5 (by intro e; injection e with e; omega)); obtain ⟨d0, d1, d2, d3, d4⟩ := X5.out.thawed; obtain ⟨p0, p1, p2, p3, p4⟩ := X5.out.cells; have HPU := (Y5.out.put_other (b' := w.heap.size) (by omega) m).cells; unfold put5 at HPU))
    all_goals
      clear q0 q1 q2 q3 q4 d0 d1 d2 d3 d4 p0 p1 p2 p3 p4 HPU
      obtain ⟨r0, r1, r2, r3, r4⟩ := (X5.out.put m).cells
      unfold put5 at r0 r1 r2 r3 r4
      have OA := (O5.put5 (b := w.heap.size) (show w.heap.size < W.heap.size by omega) m).more (show w.heap.size ≤ W.heap.size by omega) (Nat.le_of_eq (put5_size _ _ m).symm) (Nat.le_refl _)
      have OC := below_put (b := w.heap.size) (below_grown (w := W.drew) C4.out.drew g5 (fun q e => by injection e with e; omega)) (Nat.le_refl _) m
      go_wp2
      unfold put5 at OA OC
      generalize hW : (World.setCell _ { block := w.heap.size, off := 4 } (Value.int IntKind.i64 m.L)) = Z at *
      clear hW
      refine bodyPost_ret (v := .tuple #[.agg #[.int .i64 m.C, .int .i64 m.D, .int .i64 m.S, .int .i64 m.M, .int .i64 m.L], .slice A' k c']) ?_ rfl ⟨m, A', k, c', xs, rfl, hSm, OA, by omega, hkc, hcm, OC⟩
      simp [results, Try.results75, go_sem, r0, r1, r2, r3, r4]

end Go.Proofs.Ytbadahnhlehidaa
