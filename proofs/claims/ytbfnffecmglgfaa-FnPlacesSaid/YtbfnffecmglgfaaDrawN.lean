/- The draw of a maker, a key and two numbers. -/
import Derived.Test.YtbfnffecmglgfaaDrawO
import Derived.Test.YtbfnffecmglgfaaDrawNear
namespace Go.Proofs.Ytbfnffecmglgfaa
open Go Go.RowKit

theorem FarI.put5 {w W : World} {lo q : Nat} {A : Option Addr} {m : Mk} {xs : List Int} (h : FarI W lo A q xs) (hl : w.heap.size < lo) : FarI (put5 W w.heap.size m) w.heap.size A q xs := by
  unfold Go.Proofs.Ytbfnffecmglgfaa.put5
  exact (((((h.aside (p := ⟨w.heap.size, 0, none⟩) (by show w.heap.size < lo; omega) _).aside (p := ⟨w.heap.size, 1, none⟩) (by show w.heap.size < lo; omega) _).aside (p := ⟨w.heap.size, 2, none⟩) (by show w.heap.size < lo; omega) _).aside (p := ⟨w.heap.size, 3, none⟩) (by show w.heap.size < lo; omega) _).aside (p := ⟨w.heap.size, 4, none⟩) (by show w.heap.size < lo; omega) _).down (by omega)
/-- a maker, a list and two numbers -/
def DrawnMK2 (w : World) (e : Ending) (w' : World) : Prop :=
  ∃ (m : Mk) (A1 : Option Addr) (q d : Nat) (xs : List Int) (r z : Int), e = .returned (.tuple #[.agg #[.int .i64 m.C, .int .i64 m.D, .int .i64 m.S, .int .i64 m.M, .int .i64 m.L], .slice A1 q d, .int .i64 r, .int .i64 z]) ∧ Small m ∧ FarI w' w.heap.size A1 q xs ∧ q ≤ 1048576 ∧ q ≤ d ∧ d ≤ 9223372036854775807 ∧ Below w.heap.size w w'

set_option maxRecDepth 100000 in
set_option maxHeartbeats 8000000 in
theorem drawWornNeighbours_any (B : Nat) (A : Option Addr) (n c : Nat) (w : World) (hb : Bts w B A n) (hB : B ≤ w.heap.size) (hn : n ≤ 4096) :
    Calls Try.prog 67 #[.slice A n c] w (DrawnMK2 w) := by
  have HB := Lib.hid (hb.keep (fun p hp => Below.cell ((Below.refl w.heap.size w).alloc (Nat.le_refl _) (.cells #[.int .i64 0, .int .i64 0, .int .i64 0, .int .i64 0, .int .i64 0] 25)) (by omega)))
  have x1 := Boxed.new w 25 ⟨0, 0, 0, 0, 0⟩
  have b1 := (Below.refl w.heap.size w).alloc (Nat.le_refl _) (.cells #[.int .i64 0, .int .i64 0, .int .i64 0, .int .i64 0, .int .i64 0] 25)
  clear hb
  go_enter Try.func67, Try.ntmps67
  go_wp2_with fail
  refine (l01From_any B A n c _ HB.out (by simp; omega) hn).mono ?_
  rintro e w2 ⟨g, rfl, hg, hg1, h2, b2⟩
  have x2 := x1.on b2
  have c2 := b1.trans (b2.mono (by simp))
  have hgw : w.heap.size < g := by simp at hg; omega
  clear x1 b1 b2 HB
  go_wp2_with fail
  refine (l02Valid_any B g A n c _ h2).mono ?_
  rintro e w3 ⟨m, rfl, ⟨hOk, hC4, hD4⟩, h3, g3⟩
  have hSm := small_ok hOk
  have x3 := x2.grown g3 (by intro e; injection e with e; omega)
  have c3 := below_grown c2 g3 (fun q e => by injection e with e; omega)
  have s3 : g < w3.heap.size := h3.lt
  clear h2 x2 c2 g3 hg1 hOk hC4 hD4
  have H4 := Lib.hid (h3.alloc (.cells #[.int .i64 m.C, .int .i64 m.D, .int .i64 m.S, .int .i64 m.M, .int .i64 m.L] 25))
  have Y4 := Lib.hid (Boxed.new w3 25 m)
  have X4 := Lib.hid (x3.alloc (.cells #[.int .i64 m.C, .int .i64 m.D, .int .i64 m.S, .int .i64 m.M, .int .i64 m.L] 25))
  have C4 := Lib.hid (c3.alloc (Nat.le_trans (by omega) (Nat.le_of_lt s3)) (.cells #[.int .i64 m.C, .int .i64 m.D, .int .i64 m.S, .int .i64 m.M, .int .i64 m.L] 25))
  clear h3 x3 c3
  go_wp2_with fail
  refine (l01Next_any B g A n c _ _ H4.out (by omega)).mono ?_
  rintro e w5 ⟨x, rfl, x0, x9, S5, g5⟩
  have H5 := Lib.hid S5
  have Y5 := Lib.hid (Y4.out.grown g5 (by intro e; injection e with e; omega))
  have X5 := Lib.hid (X4.out.grown g5 (by intro e; injection e with e; omega))
  have C5 := Lib.hid (below_grown C4.out g5 (fun q e => by injection e with e; omega))
  have w53 := Nat.lt_of_lt_of_le Y4.out.lt g5.size
  clear H4 Y4 X4 C4 S5 g5 x9
  have hgne : g < w3.heap.size := s3
  by_cases hx : x = 0
  · subst hx
    obtain ⟨d0, d1, d2, d3, d4⟩ := Y5.out.thawed
    go_wp2_with fail
    clear d0 d1 d2 d3 d4
    refine (l02Draw_any B g A n c _ H5.out).mono ?_
    rintro e w6 ⟨m9, rfl, hSm9, h6, g6⟩
    have Y6 := Lib.hid (Y5.out.grown g6 (by intro e; injection e with e; omega))
    have X6 := Lib.hid (X5.out.grown g6 (by intro e; injection e with e; omega))
    have C6 := Lib.hid (below_grown C5.out g6 (fun q e => by injection e with e; omega))
    have w63 := Nat.lt_of_lt_of_le w53 g6.size
    clear H5 Y5 X5 C5 g6
    have H4 := Lib.hid (show Src (put5 w6 w3.heap.size m9) B g A n c from h6.put5 s3 m9)
    have Y4 := Lib.hid (Y6.out.put m9)
    have X4 := Lib.hid (X6.out.put_other (b' := w3.heap.size) (by omega) m9)
    have C4 := Lib.hid (below_put (b := w3.heap.size) C6.out (by omega) m9)
    obtain ⟨d0, d1, d2, d3, d4⟩ := Y6.out.thawed
    obtain ⟨p0, p1, p2, p3, p4⟩ := Y6.out.cells
    go_wp2_with fail
    clear d0 d1 d2 d3 d4 p0 p1 p2 p3 p4 Y6 X6 C6 h6
    have hWs : w6.heap.size = (put5 w6 w3.heap.size m9).heap.size := (put5_size _ _ _).symm
    unfold put5 at H4 Y4 X4 C4 hWs
    generalize hW : (World.setCell _ { block := w3.heap.size, off := 4 } (Value.int IntKind.i64 m9.L)) = W at *
    rw [hWs] at w63
    clear hW hWs hSm
    obtain ⟨mo, rfl⟩ : ∃ mo, mo = m := ⟨_, rfl⟩
    obtain ⟨m, rfl⟩ : ∃ m, m = m9 := ⟨_, rfl⟩
    have hSm := hSm9
    obtain ⟨q0, q1, q2, q3, q4⟩ := Y4.out.cells
    have c4s := C4.out.size
    go_wp2_with fail
    refine (l02DrawKey_any m hSm B g A n c _ H4.out (by omega)).mono ?_
    rintro e w7 ⟨A', k, c', xs, rfl, O5, hk, hkc, hcm, S5, g5⟩
    have Y5 := Lib.hid (Y4.out.grown g5 (by intro e; injection e with e; omega))
    have X5 := Lib.hid (X4.out.grown g5 (by intro e; injection e with e; omega))
    have C5 := Lib.hid (below_grown C4.out g5 (fun q e => by injection e with e; omega))
    have F5 := Lib.hid (FarI.of_own O5 (Nat.le_refl _))
    clear q0 q1 q2 q3 q4 H4 Y4 X4 C4 O5 g5
    go_wp2_with fail
    refine (l08DrawNumbers_any B g A n c _ S5).mono ?_
    rintro e w8 ⟨r, z, rfl, h8, g8⟩
    have Y6 := Lib.hid (Y5.out.grown g8 (by intro e; injection e with e; omega))
    have X6 := Lib.hid (X5.out.grown g8 (by intro e; injection e with e; omega))
    have C6 := Lib.hid (below_grown C5.out g8 (fun q e => by injection e with e; omega))
    have F6 := Lib.hid (F5.out.past g8 (fun g' e => by injection e with e; omega))
    clear S5 Y5 X5 C5 F5 g8 h8
    obtain ⟨q0, q1, q2, q3, q4⟩ := Y6.out.cells
    obtain ⟨d0, d1, d2, d3, d4⟩ := X6.out.thawed
    obtain ⟨p0, p1, p2, p3, p4⟩ := X6.out.cells
    have hne : ¬ w.heap.size = w3.heap.size := by omega
    have hne2 : ¬ w3.heap.size = w.heap.size := by omega
    have X7 := X6.out.put m
    have C7 := below_put (b := w.heap.size) C6.out (Nat.le_refl _) m
    have F7 := F6.out.put5 (w := w) (m := m) (by omega)
    unfold put5 at X7 C7 F7
    go_wp2
    generalize hW : ((((((w8.setCell ⟨w.heap.size, 0, none⟩ (.int .i64 m.C)).setCell ⟨w.heap.size, 1, none⟩ (.int .i64 m.D)).setCell ⟨w.heap.size, 2, none⟩ (.int .i64 m.S)).setCell ⟨w.heap.size, 3, none⟩ (.int .i64 m.M)).setCell ⟨w.heap.size, 4, none⟩ (.int .i64 m.L))) = W7 at X7 C7 F7 ⊢
    clear q0 q1 q2 q3 q4 p0 p1 p2 p3 p4 d0 d1 d2 d3 d4 hW Y6 X6 C6 F6
    obtain ⟨r0, r1, r2, r3, r4⟩ := X7.cells
    refine bodyPost_ret (v := .tuple #[.agg #[.int .i64 m.C, .int .i64 m.D, .int .i64 m.S, .int .i64 m.M, .int .i64 m.L], .slice A' k c', .int .i64 r, .int .i64 z]) (by simp [results, Try.results67, go_sem, r0, r1, r2, r3, r4]) rfl ⟨m, A', k, c', xs, r, z, rfl, hSm, F7, hk, hkc, hcm, C7⟩
  · have xb : (x == 0) = false := by simpa using hx
    obtain ⟨W, rfl⟩ : ∃ W : World, W = w5 := ⟨_, rfl⟩
    have HH := And.intro H5 (And.intro Y5 (And.intro X5 C5))
    clear H5 Y5 X5 C5
    obtain ⟨H4, Y4, X4, C4⟩ := HH
    obtain ⟨q0, q1, q2, q3, q4⟩ := Y4.out.cells
    have c4s := C4.out.size
    go_wp2_with fail
    refine (l02DrawKey_any m hSm B g A n c _ H4.out (by omega)).mono ?_
    rintro e w7 ⟨A', k, c', xs, rfl, O5, hk, hkc, hcm, S5, g5⟩
    have Y5 := Lib.hid (Y4.out.grown g5 (by intro e; injection e with e; omega))
    have X5 := Lib.hid (X4.out.grown g5 (by intro e; injection e with e; omega))
    have C5 := Lib.hid (below_grown C4.out g5 (fun q e => by injection e with e; omega))
    have F5 := Lib.hid (FarI.of_own O5 (Nat.le_refl _))
    clear q0 q1 q2 q3 q4 H4 Y4 X4 C4 O5 g5
    go_wp2_with fail
    refine (l08DrawNumbers_any B g A n c _ S5).mono ?_
    rintro e w8 ⟨r, z, rfl, h8, g8⟩
    have Y6 := Lib.hid (Y5.out.grown g8 (by intro e; injection e with e; omega))
    have X6 := Lib.hid (X5.out.grown g8 (by intro e; injection e with e; omega))
    have C6 := Lib.hid (below_grown C5.out g8 (fun q e => by injection e with e; omega))
    have F6 := Lib.hid (F5.out.past g8 (fun g' e => by injection e with e; omega))
    clear S5 Y5 X5 C5 F5 g8 h8
    obtain ⟨q0, q1, q2, q3, q4⟩ := Y6.out.cells
    obtain ⟨d0, d1, d2, d3, d4⟩ := X6.out.thawed
    obtain ⟨p0, p1, p2, p3, p4⟩ := X6.out.cells
    have hne : ¬ w.heap.size = w3.heap.size := by omega
    have hne2 : ¬ w3.heap.size = w.heap.size := by omega
    have X7 := X6.out.put m
    have C7 := below_put (b := w.heap.size) C6.out (Nat.le_refl _) m
    have F7 := F6.out.put5 (w := w) (m := m) (by omega)
    unfold put5 at X7 C7 F7
    go_wp2
    generalize hW : ((((((w8.setCell ⟨w.heap.size, 0, none⟩ (.int .i64 m.C)).setCell ⟨w.heap.size, 1, none⟩ (.int .i64 m.D)).setCell ⟨w.heap.size, 2, none⟩ (.int .i64 m.S)).setCell ⟨w.heap.size, 3, none⟩ (.int .i64 m.M)).setCell ⟨w.heap.size, 4, none⟩ (.int .i64 m.L))) = W7 at X7 C7 F7 ⊢
    clear q0 q1 q2 q3 q4 p0 p1 p2 p3 p4 d0 d1 d2 d3 d4 hW Y6 X6 C6 F6
    obtain ⟨r0, r1, r2, r3, r4⟩ := X7.cells
    refine bodyPost_ret (v := .tuple #[.agg #[.int .i64 m.C, .int .i64 m.D, .int .i64 m.S, .int .i64 m.M, .int .i64 m.L], .slice A' k c', .int .i64 r, .int .i64 z]) (by simp [results, Try.results67, go_sem, r0, r1, r2, r3, r4]) rfl ⟨m, A', k, c', xs, r, z, rfl, hSm, F7, hk, hkc, hcm, C7⟩

end Go.Proofs.Ytbfnffecmglgfaa
