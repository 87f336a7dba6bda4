/- The draw of a maker. -/
import Derived.Test.YtlgaocjcfdfhmaaDrawMk
namespace Go.Proofs.Ytlgaocjcfdfhmaa
open Go.RowKit

/-- how great a drawn maker's numbers are -/
def Small (m : Mk) : Prop := 1 ≤ m.C ∧ m.C ≤ 7 ∧ 1 ≤ m.D ∧ m.D ≤ 9 ∧ 0 ≤ m.S ∧ m.S ≤ 9 ∧ 0 ≤ m.M ∧ m.M ≤ 9 ∧ 0 ≤ m.L ∧ m.L ≤ 9

set_option maxRecDepth 100000 in
set_option maxHeartbeats 8000000 in
theorem l02Draw_any (B g : Nat) (A : Option Addr) (n c : Nat) (w : World) (h : Src w B g A n c) :
    Calls Try.prog 48 #[.pointer (some ⟨g, 0, none⟩)] w (DrawnMk w B g A n c Small) := by
  have hg1 := h.lt
  have h1 := h.alloc (.cells #[.int .i64 0, .int .i64 0, .int .i64 0, .int .i64 0, .int .i64 0] 25)
  have x1 := Boxed.new w 25 ⟨0, 0, 0, 0, 0⟩
  have k1 := grown_alloc (World.grownBy.refl w (some g)) (.cells #[.int .i64 0, .int .i64 0, .int .i64 0, .int .i64 0, .int .i64 0] 25)
  clear h
  go_enter Try.func48, Try.ntmps48
  go_wp2_with fail
  refine (l02Valid_any B g A n c _ h1).mono ?_
  rintro e w2 ⟨m, rfl, ⟨mok, mC, mD⟩, h2, g2⟩
  obtain ⟨m1, m2, m3, m4, m5, m6, m7, m8, m9, m10, m11⟩ := Mk.ok_true mok
  have x2 := x1.grown g2 (by intro e; injection e with e; omega)
  have k2 := grown_trans' k1 g2
  have s2 : w.heap.size < w2.heap.size := by have := g2.size; simp at this; omega
  clear h1 x1 k1 g2 mok
  go_wp2_with fail
  have y2 := Boxed.new w2 25 m
  refine (l01Next_any B g A n c _ _ (h2.alloc _) (by omega)).mono ?_
  rintro e w3 ⟨k, rfl, k0, k9, h3, g3⟩
  have x3 := (x2.alloc _).grown g3 (by intro e; injection e with e; omega)
  have y3 := y2.grown g3 (by intro e; injection e with e; omega)
  have k3 := grown_trans' (grown_alloc k2 _) g3
  have s3 : w2.heap.size < w3.heap.size := by have := g3.size; simp at this; omega
  clear h2 x2 y2 k2 g3
  obtain ⟨q0, q1, q2, q3, q4⟩ := y3.cells
  obtain ⟨f0, f1, f2, f3, f4⟩ := y3.thawed
  by_cases n0 : k = 0
  · subst n0
    have HI := Lib.hid (ints_new w3 [1, 6, 7] 2)
    go_wp2_with fail
    refine (l01Pick_any B g A n c _ _ _ _ _ (h3.alloc _) HI.out (fun ad e => by injection e with e; subst e; show w3.heap.size ≠ g; omega) (by simp) (by simp)).mono ?_
    rintro e w4 ⟨r, rfl, hr, h4, g4⟩
    simp only [List.mem_cons, List.not_mem_nil, or_false] at hr
    have x4 := (x3.alloc _).grown g4 (by intro e; injection e with e; omega)
    have y4 := (y3.alloc _).grown g4 (by intro e; injection e with e; omega)
    have k4 := grown_trans' (grown_alloc k3 _) g4
    clear h3 x3 y3 k3 g4 q0 q1 q2 q3 q4 f0 f1 f2 f3 f4
    obtain ⟨h5, k5⟩ := set_new h4 k4 (p := ⟨w2.heap.size, 0, none⟩) (by show w.heap.size ≤ w2.heap.size; omega) (by show g < w2.heap.size; omega) (.int .i64 r)
    have x5 := x4.other (p := ⟨w2.heap.size, 0, none⟩) (by simp; omega) (.int .i64 r)
    have y5 := y4.set0 r
    obtain ⟨f0, f1, f2, f3, f4⟩ := y4.thawed
    obtain ⟨q0, q1, q2, q3, q4⟩ := y4.cells
    obtain ⟨d0, d1, d2, d3, d4⟩ := x4.thawed
    obtain ⟨p0, p1, p2, p3, p4⟩ := x4.cells
    clear h4 x4 y4 k4
    go_wp2
    obtain ⟨h10, k10⟩ := put_new h5 k5 (b := w.heap.size) (Nat.le_refl _) hg1 ⟨r, m.D, m.S, m.M, m.L⟩
    obtain ⟨r0, r1, r2, r3, r4⟩ := (x5.put ⟨r, m.D, m.S, m.M, m.L⟩).cells
    unfold put5 at r0 r1 r2 r3 r4
    refine bodyPost_ret (v := .agg #[.int .i64 (⟨r, m.D, m.S, m.M, m.L⟩ : Mk).C, .int .i64 (⟨r, m.D, m.S, m.M, m.L⟩ : Mk).D, .int .i64 (⟨r, m.D, m.S, m.M, m.L⟩ : Mk).S, .int .i64 (⟨r, m.D, m.S, m.M, m.L⟩ : Mk).M, .int .i64 (⟨r, m.D, m.S, m.M, m.L⟩ : Mk).L]) (by simp [results, Try.results48, go_sem, r0, r1, r2, r3, r4]) rfl ⟨⟨r, m.D, m.S, m.M, m.L⟩, rfl, (by unfold Small; dsimp only; omega), h10, k10⟩
  by_cases n1 : k = 1
  · subst n1
    have HI := Lib.hid (ints_new w3 [1, 8, 9] 2)
    go_wp2_with fail
    refine (l01Pick_any B g A n c _ _ _ _ _ (h3.alloc _) HI.out (fun ad e => by injection e with e; subst e; show w3.heap.size ≠ g; omega) (by simp) (by simp)).mono ?_
    rintro e w4 ⟨r, rfl, hr, h4, g4⟩
    simp only [List.mem_cons, List.not_mem_nil, or_false] at hr
    have x4 := (x3.alloc _).grown g4 (by intro e; injection e with e; omega)
    have y4 := (y3.alloc _).grown g4 (by intro e; injection e with e; omega)
    have k4 := grown_trans' (grown_alloc k3 _) g4
    clear h3 x3 y3 k3 g4 q0 q1 q2 q3 q4 f0 f1 f2 f3 f4
    obtain ⟨h5, k5⟩ := set_new h4 k4 (p := ⟨w2.heap.size, 1, none⟩) (by show w.heap.size ≤ w2.heap.size; omega) (by show g < w2.heap.size; omega) (.int .i64 r)
    have x5 := x4.other (p := ⟨w2.heap.size, 1, none⟩) (by simp; omega) (.int .i64 r)
    have y5 := y4.set1 r
    obtain ⟨f0, f1, f2, f3, f4⟩ := y4.thawed
    obtain ⟨q0, q1, q2, q3, q4⟩ := y4.cells
    obtain ⟨d0, d1, d2, d3, d4⟩ := x4.thawed
    obtain ⟨p0, p1, p2, p3, p4⟩ := x4.cells
    clear h4 x4 y4 k4
    go_wp2
    obtain ⟨h10, k10⟩ := put_new h5 k5 (b := w.heap.size) (Nat.le_refl _) hg1 ⟨m.C, r, m.S, m.M, m.L⟩
    obtain ⟨r0, r1, r2, r3, r4⟩ := (x5.put ⟨m.C, r, m.S, m.M, m.L⟩).cells
    unfold put5 at r0 r1 r2 r3 r4
    refine bodyPost_ret (v := .agg #[.int .i64 (⟨m.C, r, m.S, m.M, m.L⟩ : Mk).C, .int .i64 (⟨m.C, r, m.S, m.M, m.L⟩ : Mk).D, .int .i64 (⟨m.C, r, m.S, m.M, m.L⟩ : Mk).S, .int .i64 (⟨m.C, r, m.S, m.M, m.L⟩ : Mk).M, .int .i64 (⟨m.C, r, m.S, m.M, m.L⟩ : Mk).L]) (by simp [results, Try.results48, go_sem, r0, r1, r2, r3, r4]) rfl ⟨⟨m.C, r, m.S, m.M, m.L⟩, rfl, (by unfold Small; dsimp only; omega), h10, k10⟩
  by_cases n2 : k = 2
  · subst n2
    have HI := Lib.hid (ints_new w3 [0, m.D - 1, m.D] 2)
    go_wp2_with fail
    refine (l01Pick_any B g A n c _ _ _ _ _ (h3.alloc _) HI.out (fun ad e => by injection e with e; subst e; show w3.heap.size ≠ g; omega) (by simp) (by simp)).mono ?_
    rintro e w4 ⟨r, rfl, hr, h4, g4⟩
    simp only [List.mem_cons, List.not_mem_nil, or_false] at hr
    have x4 := (x3.alloc _).grown g4 (by intro e; injection e with e; omega)
    have y4 := (y3.alloc _).grown g4 (by intro e; injection e with e; omega)
    have k4 := grown_trans' (grown_alloc k3 _) g4
    clear h3 x3 y3 k3 g4 q0 q1 q2 q3 q4 f0 f1 f2 f3 f4
    obtain ⟨h5, k5⟩ := set_new h4 k4 (p := ⟨w2.heap.size, 2, none⟩) (by show w.heap.size ≤ w2.heap.size; omega) (by show g < w2.heap.size; omega) (.int .i64 r)
    have x5 := x4.other (p := ⟨w2.heap.size, 2, none⟩) (by simp; omega) (.int .i64 r)
    have y5 := y4.set2 r
    obtain ⟨f0, f1, f2, f3, f4⟩ := y4.thawed
    obtain ⟨q0, q1, q2, q3, q4⟩ := y4.cells
    obtain ⟨d0, d1, d2, d3, d4⟩ := x4.thawed
    obtain ⟨p0, p1, p2, p3, p4⟩ := x4.cells
    clear h4 x4 y4 k4
    go_wp2
    obtain ⟨h10, k10⟩ := put_new h5 k5 (b := w.heap.size) (Nat.le_refl _) hg1 ⟨m.C, m.D, r, m.M, m.L⟩
    obtain ⟨r0, r1, r2, r3, r4⟩ := (x5.put ⟨m.C, m.D, r, m.M, m.L⟩).cells
    unfold put5 at r0 r1 r2 r3 r4
    refine bodyPost_ret (v := .agg #[.int .i64 (⟨m.C, m.D, r, m.M, m.L⟩ : Mk).C, .int .i64 (⟨m.C, m.D, r, m.M, m.L⟩ : Mk).D, .int .i64 (⟨m.C, m.D, r, m.M, m.L⟩ : Mk).S, .int .i64 (⟨m.C, m.D, r, m.M, m.L⟩ : Mk).M, .int .i64 (⟨m.C, m.D, r, m.M, m.L⟩ : Mk).L]) (by simp [results, Try.results48, go_sem, r0, r1, r2, r3, r4]) rfl ⟨⟨m.C, m.D, r, m.M, m.L⟩, rfl, (by unfold Small; dsimp only; omega), h10, k10⟩
  by_cases n3 : k = 3
  · subst n3
    have HI := Lib.hid (ints_new w3 [0, m.C, m.C + 1] 2)
    go_wp2_with fail
    refine (l01Pick_any B g A n c _ _ _ _ _ (h3.alloc _) HI.out (fun ad e => by injection e with e; subst e; show w3.heap.size ≠ g; omega) (by simp) (by simp)).mono ?_
    rintro e w4 ⟨r, rfl, hr, h4, g4⟩
    simp only [List.mem_cons, List.not_mem_nil, or_false] at hr
    have x4 := (x3.alloc _).grown g4 (by intro e; injection e with e; omega)
    have y4 := (y3.alloc _).grown g4 (by intro e; injection e with e; omega)
    have k4 := grown_trans' (grown_alloc k3 _) g4
    clear h3 x3 y3 k3 g4 q0 q1 q2 q3 q4 f0 f1 f2 f3 f4
    obtain ⟨h5, k5⟩ := set_new h4 k4 (p := ⟨w2.heap.size, 3, none⟩) (by show w.heap.size ≤ w2.heap.size; omega) (by show g < w2.heap.size; omega) (.int .i64 r)
    have x5 := x4.other (p := ⟨w2.heap.size, 3, none⟩) (by simp; omega) (.int .i64 r)
    have y5 := y4.set3 r
    obtain ⟨f0, f1, f2, f3, f4⟩ := y4.thawed
    obtain ⟨q0, q1, q2, q3, q4⟩ := y4.cells
    obtain ⟨d0, d1, d2, d3, d4⟩ := x4.thawed
    obtain ⟨p0, p1, p2, p3, p4⟩ := x4.cells
    clear h4 x4 y4 k4
    go_wp2
    obtain ⟨h10, k10⟩ := put_new h5 k5 (b := w.heap.size) (Nat.le_refl _) hg1 ⟨m.C, m.D, m.S, r, m.L⟩
    obtain ⟨r0, r1, r2, r3, r4⟩ := (x5.put ⟨m.C, m.D, m.S, r, m.L⟩).cells
    unfold put5 at r0 r1 r2 r3 r4
    refine bodyPost_ret (v := .agg #[.int .i64 (⟨m.C, m.D, m.S, r, m.L⟩ : Mk).C, .int .i64 (⟨m.C, m.D, m.S, r, m.L⟩ : Mk).D, .int .i64 (⟨m.C, m.D, m.S, r, m.L⟩ : Mk).S, .int .i64 (⟨m.C, m.D, m.S, r, m.L⟩ : Mk).M, .int .i64 (⟨m.C, m.D, m.S, r, m.L⟩ : Mk).L]) (by simp [results, Try.results48, go_sem, r0, r1, r2, r3, r4]) rfl ⟨⟨m.C, m.D, m.S, r, m.L⟩, rfl, (by unfold Small; dsimp only; omega), h10, k10⟩
  by_cases n4 : k = 4
  · subst n4
    by_cases hcd : m.D < m.C
    · have hcb : (m.D < m.C) = True := by simpa using hcd
      have HI := Lib.hid (ints_new w3 [0, m.D, m.D + 1] 2)
      go_wp2_with fail
      refine (l01Pick_any B g A n c _ _ _ _ _ (h3.alloc _) HI.out (fun ad e => by injection e with e; subst e; show w3.heap.size ≠ g; omega) (by simp) (by simp)).mono ?_
      rintro e w4 ⟨r, rfl, hr, h4, g4⟩
      simp only [List.mem_cons, List.not_mem_nil, or_false] at hr
      have x4 := (x3.alloc _).grown g4 (by intro e; injection e with e; omega)
      have y4 := (y3.alloc _).grown g4 (by intro e; injection e with e; omega)
      have k4 := grown_trans' (grown_alloc k3 _) g4
      clear h3 x3 y3 k3 g4 q0 q1 q2 q3 q4 f0 f1 f2 f3 f4
      obtain ⟨h5, k5⟩ := set_new h4 k4 (p := ⟨w2.heap.size, 4, none⟩) (by show w.heap.size ≤ w2.heap.size; omega) (by show g < w2.heap.size; omega) (.int .i64 r)
      have x5 := x4.other (p := ⟨w2.heap.size, 4, none⟩) (by simp; omega) (.int .i64 r)
      have y5 := y4.set4 r
      obtain ⟨f0, f1, f2, f3, f4⟩ := y4.thawed
      obtain ⟨q0, q1, q2, q3, q4⟩ := y4.cells
      obtain ⟨d0, d1, d2, d3, d4⟩ := x4.thawed
      obtain ⟨p0, p1, p2, p3, p4⟩ := x4.cells
      clear h4 x4 y4 k4
      go_wp2
      obtain ⟨h10, k10⟩ := put_new h5 k5 (b := w.heap.size) (Nat.le_refl _) hg1 ⟨m.C, m.D, m.S, m.M, r⟩
      obtain ⟨r0, r1, r2, r3, r4⟩ := (x5.put ⟨m.C, m.D, m.S, m.M, r⟩).cells
      unfold put5 at r0 r1 r2 r3 r4
      refine bodyPost_ret (v := .agg #[.int .i64 (⟨m.C, m.D, m.S, m.M, r⟩ : Mk).C, .int .i64 (⟨m.C, m.D, m.S, m.M, r⟩ : Mk).D, .int .i64 (⟨m.C, m.D, m.S, m.M, r⟩ : Mk).S, .int .i64 (⟨m.C, m.D, m.S, m.M, r⟩ : Mk).M, .int .i64 (⟨m.C, m.D, m.S, m.M, r⟩ : Mk).L]) (by simp [results, Try.results48, go_sem, r0, r1, r2, r3, r4]) rfl ⟨⟨m.C, m.D, m.S, m.M, r⟩, rfl, (by unfold Small; dsimp only; omega), h10, k10⟩
    have HI := Lib.hid (ints_new w3 [0, m.C, m.C + 1] 2)
    go_wp2_with fail
    refine (l01Pick_any B g A n c _ _ _ _ _ (h3.alloc _) HI.out (fun ad e => by injection e with e; subst e; show w3.heap.size ≠ g; omega) (by simp) (by simp)).mono ?_
    rintro e w4 ⟨r, rfl, hr, h4, g4⟩
    simp only [List.mem_cons, List.not_mem_nil, or_false] at hr
    have x4 := (x3.alloc _).grown g4 (by intro e; injection e with e; omega)
    have y4 := (y3.alloc _).grown g4 (by intro e; injection e with e; omega)
    have k4 := grown_trans' (grown_alloc k3 _) g4
    clear h3 x3 y3 k3 g4 q0 q1 q2 q3 q4 f0 f1 f2 f3 f4
    obtain ⟨h5, k5⟩ := set_new h4 k4 (p := ⟨w2.heap.size, 4, none⟩) (by show w.heap.size ≤ w2.heap.size; omega) (by show g < w2.heap.size; omega) (.int .i64 r)
    have x5 := x4.other (p := ⟨w2.heap.size, 4, none⟩) (by simp; omega) (.int .i64 r)
    have y5 := y4.set4 r
    obtain ⟨f0, f1, f2, f3, f4⟩ := y4.thawed
    obtain ⟨q0, q1, q2, q3, q4⟩ := y4.cells
    obtain ⟨d0, d1, d2, d3, d4⟩ := x4.thawed
    obtain ⟨p0, p1, p2, p3, p4⟩ := x4.cells
    clear h4 x4 y4 k4
    go_wp2
    obtain ⟨h10, k10⟩ := put_new h5 k5 (b := w.heap.size) (Nat.le_refl _) hg1 ⟨m.C, m.D, m.S, m.M, r⟩
    obtain ⟨r0, r1, r2, r3, r4⟩ := (x5.put ⟨m.C, m.D, m.S, m.M, r⟩).cells
    unfold put5 at r0 r1 r2 r3 r4
    refine bodyPost_ret (v := .agg #[.int .i64 (⟨m.C, m.D, m.S, m.M, r⟩ : Mk).C, .int .i64 (⟨m.C, m.D, m.S, m.M, r⟩ : Mk).D, .int .i64 (⟨m.C, m.D, m.S, m.M, r⟩ : Mk).S, .int .i64 (⟨m.C, m.D, m.S, m.M, r⟩ : Mk).M, .int .i64 (⟨m.C, m.D, m.S, m.M, r⟩ : Mk).L]) (by simp [results, Try.results48, go_sem, r0, r1, r2, r3, r4]) rfl ⟨⟨m.C, m.D, m.S, m.M, r⟩, rfl, (by unfold Small; dsimp only; omega), h10, k10⟩
  by_cases n5 : k = 5
  · subst n5
    go_wp2_with fail
    refine (l01Next_any B g A n c _ _ h3 (by omega)).mono ?_
    rintro e w4 ⟨r, rfl, r0, r9, h4, g4⟩
    have x4 := x3.grown g4 (by intro e; injection e with e; omega)
    have k4 := grown_trans' k3 g4
    have r9 : r ≤ 1 := by omega
    clear h3 x3 y3 k3 g4 q0 q1 q2 q3 q4 f0 f1 f2 f3 f4
    go_wp2_with fail
    refine (l01Next_any B g A n c _ _ h4 (by omega)).mono ?_
    rintro e w5 ⟨s, rfl, s0, s9, h5, g5⟩
    have x5 := x4.grown g5 (by intro e; injection e with e; omega)
    have k5 := grown_trans' k4 g5
    have s9 : s ≤ 1 := by omega
    clear h4 x4 k4 g5
    obtain ⟨d0, d1, d2, d3, d4⟩ := x5.thawed
    obtain ⟨p0, p1, p2, p3, p4⟩ := x5.cells
    go_wp2
    obtain ⟨h10, k10⟩ := put_new h5 k5 (b := w.heap.size) (Nat.le_refl _) hg1 ⟨6, 4 + r, 2 + s, 2, 3⟩
    obtain ⟨r0, r1, r2, r3, r4⟩ := (x5.put ⟨6, 4 + r, 2 + s, 2, 3⟩).cells
    unfold put5 at r0 r1 r2 r3 r4
    refine bodyPost_ret (v := .agg #[.int .i64 (⟨6, 4 + r, 2 + s, 2, 3⟩ : Mk).C, .int .i64 (⟨6, 4 + r, 2 + s, 2, 3⟩ : Mk).D, .int .i64 (⟨6, 4 + r, 2 + s, 2, 3⟩ : Mk).S, .int .i64 (⟨6, 4 + r, 2 + s, 2, 3⟩ : Mk).M, .int .i64 (⟨6, 4 + r, 2 + s, 2, 3⟩ : Mk).L]) (by simp [results, Try.results48, go_sem, r0, r1, r2, r3, r4]) rfl ⟨⟨6, 4 + r, 2 + s, 2, 3⟩, rfl, (by unfold Small; dsimp only; omega), h10, k10⟩
  have e0 : (k == 0) = false := by simpa using n0
  have e1 : (k == 1) = false := by simpa using n1
  have e2 : (k == 2) = false := by simpa using n2
  have e3 : (k == 3) = false := by simpa using n3
  have e4 : (k == 4) = false := by simpa using n4
  have e5 : (k == 5) = false := by simpa using n5
  obtain ⟨d0, d1, d2, d3, d4⟩ := x3.thawed
  obtain ⟨p0, p1, p2, p3, p4⟩ := x3.cells
  go_wp2
  obtain ⟨h10, k10⟩ := put_new h3 k3 (b := w.heap.size) (Nat.le_refl _) hg1 m
  obtain ⟨r0, r1, r2, r3, r4⟩ := (x3.put m).cells
  unfold put5 at r0 r1 r2 r3 r4
  refine bodyPost_ret (v := .agg #[.int .i64 (m : Mk).C, .int .i64 (m : Mk).D, .int .i64 (m : Mk).S, .int .i64 (m : Mk).M, .int .i64 (m : Mk).L]) (by simp [results, Try.results48, go_sem, r0, r1, r2, r3, r4]) rfl ⟨m, rfl, (by unfold Small; omega), h10, k10⟩

end Go.Proofs.Ytlgaocjcfdfhmaa
