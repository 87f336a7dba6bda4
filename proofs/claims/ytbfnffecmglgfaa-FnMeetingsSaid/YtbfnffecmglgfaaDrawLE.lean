/- What the laws draw of makers and locks. -/
import Derived.Test.YtbfnffecmglgfaaDrawLD
namespace Go.Proofs.Ytbfnffecmglgfaa
open Go Go.RowKit

/-- what the draw of a maker and a lock answers -/
def DrawnLM (w : World) (e : Ending) (w' : World) : Prop :=
  ∃ (m : Mk) (V : Option Addr) (k c' : Nat) (zss : List (List Int)), e = .returned (.tuple #[.agg #[.int .i64 m.C, .int .i64 m.D, .int .i64 m.S, .int .i64 m.M, .int .i64 m.L], .agg #[.slice V k c']]) ∧ Small m ∧ Far w' w.heap.size V k c' zss ∧ Few k zss ∧ k ≤ c' ∧ c' ≤ 9223372036854775807 ∧ Below w.heap.size w w'

theorem below_set {W w : World} {B : Nat} (h : Below B W w) {p : Addr} (hb : B ≤ p.block) (u : Value) : Below B W (w.setCell p u) := h.setCell hb u
set_option maxRecDepth 100000 in
set_option maxHeartbeats 4000000 in
theorem drawIsLock_any (B : Nat) (A : Option Addr) (n c : Nat) (w : World) (hb : Bts w B A n) (hB : B ≤ w.heap.size) (hn : n ≤ 4096) :
    Calls Try.prog 22 #[.slice A n c] w (DrawnLM w) := by
  have bA := ((Below.refl w.heap.size w).alloc (Nat.le_refl _) (.cells #[.int .i64 0, .int .i64 0, .int .i64 0, .int .i64 0, .int .i64 0] 25)).alloc (by simp) (.cells #[.slice none 0 0] 30)
  have HB := Lib.hid (hb.keep (fun p hp => Below.cell bA (by omega)))
  have X0 := Lib.hid ((Boxed.new w 25 ⟨0, 0, 0, 0, 0⟩).alloc (.cells #[.slice none 0 0] 30))
  have O0' := Cell1.new (w.alloc (.cells #[.int .i64 0, .int .i64 0, .int .i64 0, .int .i64 0, .int .i64 0] 25)) 30 (.slice none 0 0)
  rw [World.size_alloc] at O0'
  have O0 := Lib.hid O0'
  have BA := Lib.hid bA
  clear hb O0' bA
  go_enter Try.func22, Try.ntmps22
  go_wp2_with fail
  refine (l01From_any B A n c _ HB.out (by simp; omega) hn).mono ?_
  rintro e w1 ⟨g, rfl, hg, hg1, h1, b1⟩
  have X1 := Lib.hid (X0.out.on b1)
  have O1 := Lib.hid (O0.out.on b1)
  have B1 := Lib.hid (below_trans' BA.out b1)
  have z1 : w.heap.size + 2 ≤ w1.heap.size := by have := b1.size; simp at this; omega
  have hgw : w.heap.size + 1 < g := by simp at hg; omega
  clear X0 O0 BA HB b1
  go_wp2_with fail
  refine (l04Draw_any B g A n c _ h1 (by omega)).mono ?_
  rintro e w2 ⟨m, V, k, c', zss, rfl, hSm, hF, hFew, hkc, hcm, h2, g2⟩
  have X2 := X1.out.grown g2 (by intro e; injection e with e; omega)
  have O2 := O1.out.grown g2 (by intro e; injection e with e; omega)
  have B2 := below_grown B1.out g2 (fun q e => by injection e with e; omega)
  obtain ⟨p0, p1, p2, p3, p4⟩ := X2.cells
  have co := O2.cell
  have fo := O2.thawed
  have fx := X2.thawed
  have X7 := Lib.hid ((X2.put m).other (p := ⟨w.heap.size + 1, 0, none⟩) (by show w.heap.size + 1 ≠ w.heap.size; omega) (.slice V k c'))
  have O7 := Lib.hid ((O2.aside5 (b' := w.heap.size) (by omega) m).put (.slice V k c'))
  have F7 := Lib.hid ((hF.aside5 (b := w.heap.size) (by omega) m).aside (p := ⟨w.heap.size + 1, 0, none⟩) (by show w.heap.size + 1 < _; omega) (.slice V k c'))
  have B7 := Lib.hid (below_set (below_put B2 (Nat.le_refl _) m) (p := ⟨w.heap.size + 1, 0, none⟩) (by show w.heap.size ≤ w.heap.size + 1; omega) (.slice V k c'))
  have HW := Lib.hid hFew
  clear X1 O1 B1 X2 O2 B2 hF hFew h1 h2 g2
  go_wp2
  obtain ⟨r0, r1, r2, r3, r4⟩ := X7.out.cells
  have r5 := O7.out.cell
  unfold put5 at X7 O7 F7 B7 r0 r1 r2 r3 r4 r5
  refine bodyPost_ret (v := .tuple #[.agg #[.int .i64 m.C, .int .i64 m.D, .int .i64 m.S, .int .i64 m.M, .int .i64 m.L], .agg #[.slice V k c']]) (by simp [results, Try.results22, go_sem, r0, r1, r2, r3, r4, r5]) rfl ⟨m, V, k, c', zss, rfl, hSm, F7.out.down (by omega), HW.out, hkc, hcm, B7.out⟩

/-- .. and a number -/
def DrawnLMI (w : World) (e : Ending) (w' : World) : Prop :=
  ∃ (m : Mk) (V : Option Addr) (k c' : Nat) (zss : List (List Int)) (r : Int), e = .returned (.tuple #[.agg #[.int .i64 m.C, .int .i64 m.D, .int .i64 m.S, .int .i64 m.M, .int .i64 m.L], .agg #[.slice V k c'], .int .i64 r]) ∧ Small m ∧ Far w' w.heap.size V k c' zss ∧ Few k zss ∧ k ≤ c' ∧ c' ≤ 9223372036854775807 ∧ Below w.heap.size w w'

set_option maxRecDepth 100000 in
set_option maxHeartbeats 4000000 in
theorem drawOpenersOf_any (B : Nat) (A : Option Addr) (n c : Nat) (w : World) (hb : Bts w B A n) (hB : B ≤ w.heap.size) (hn : n ≤ 4096) :
    Calls Try.prog 27 #[.slice A n c] w (DrawnLMI w) := by
  have bA := ((Below.refl w.heap.size w).alloc (Nat.le_refl _) (.cells #[.int .i64 0, .int .i64 0, .int .i64 0, .int .i64 0, .int .i64 0] 25)).alloc (by simp) (.cells #[.slice none 0 0] 30)
  have HB := Lib.hid (hb.keep (fun p hp => Below.cell bA (by omega)))
  have X0 := Lib.hid ((Boxed.new w 25 ⟨0, 0, 0, 0, 0⟩).alloc (.cells #[.slice none 0 0] 30))
  have O0' := Cell1.new (w.alloc (.cells #[.int .i64 0, .int .i64 0, .int .i64 0, .int .i64 0, .int .i64 0] 25)) 30 (.slice none 0 0)
  rw [World.size_alloc] at O0'
  have O0 := Lib.hid O0'
  have BA := Lib.hid bA
  clear hb O0' bA
  go_enter Try.func27, Try.ntmps27
  go_wp2_with fail
  refine (l01From_any B A n c _ HB.out (by simp; omega) hn).mono ?_
  rintro e w1 ⟨g, rfl, hg, hg1, h1, b1⟩
  have X1 := Lib.hid (X0.out.on b1)
  have O1 := Lib.hid (O0.out.on b1)
  have B1 := Lib.hid (below_trans' BA.out b1)
  have z1 : w.heap.size + 2 ≤ w1.heap.size := by have := b1.size; simp at this; omega
  have hgw : w.heap.size + 1 < g := by simp at hg; omega
  clear X0 O0 BA HB b1
  go_wp2_with fail
  refine (l04Draw_any B g A n c _ h1 (by omega)).mono ?_
  rintro e w2 ⟨m, V, k, c', zss, rfl, hSm, hF, hFew, hkc, hcm, h2, g2⟩
  have z2 := g2.size
  have hg2 := h2.lt
  have bB := ((Below.refl w2.heap.size w2).alloc (Nat.le_refl _) (.cells #[.int .i64 m.C, .int .i64 m.D, .int .i64 m.S, .int .i64 m.M, .int .i64 m.L] 25)).alloc (by simp) (.cells #[.slice V k c'] 30)
  have X2 := Lib.hid ((X1.out.grown g2 (by intro e; injection e with e; omega)).on bB)
  have O2 := Lib.hid ((O1.out.grown g2 (by intro e; injection e with e; omega)).on bB)
  have B2 := Lib.hid (below_trans' (below_grown B1.out g2 (fun q e => by injection e with e; omega)) bB)
  have F2 := Lib.hid (hF.on bB)
  have H2 := Lib.hid (h2.on bB (by omega))
  have Y2 := Lib.hid ((Boxed.new w2 25 m).alloc (.cells #[.slice V k c'] 30))
  have L2' := Cell1.new (w2.alloc (.cells #[.int .i64 m.C, .int .i64 m.D, .int .i64 m.S, .int .i64 m.M, .int .i64 m.L] 25)) 30 (.slice V k c')
  rw [World.size_alloc] at L2'
  have L2 := Lib.hid L2'
  have HW := Lib.hid hFew
  clear X1 O1 B1 hF hFew h1 h2 bB L2'
  go_wp2
  obtain ⟨b6, h6⟩ : ∃ b6, b6 = w2.heap.size := ⟨_, rfl⟩
  have hgb : g < b6 := by rw [h6]; exact hg2
  have hwb : w.heap.size + 1 < b6 := by omega
  have hsz : b6 + 1 < ((w2.alloc (.cells #[.int .i64 m.C, .int .i64 m.D, .int .i64 m.S, .int .i64 m.M, .int .i64 m.L] 25)).alloc (.cells #[.slice V k c'] 30)).heap.size := by rw [World.size_alloc, World.size_alloc, h6]; omega
  rw [← h6] at Y2 L2 ⊢
  generalize ((w2.alloc (.cells #[.int .i64 m.C, .int .i64 m.D, .int .i64 m.S, .int .i64 m.M, .int .i64 m.L] 25)).alloc (.cells #[.slice V k c'] 30)) = W at *
  have HI := Lib.hid (ints_new W [0, 1, 2, 10, 300, 301, -1] 2)
  have bC : Below W.heap.size W (W.alloc (.cells ([0, 1, 2, 10, 300, 301, -1].map (Value.int .i64)).toArray 2)).drew := ((Below.refl W.heap.size W).alloc (Nat.le_refl _) (.cells ([0, 1, 2, 10, 300, 301, -1].map (Value.int .i64)).toArray 2)).drew
  have HS := Lib.hid (H2.out.on bC (by omega))
  have X3 := Lib.hid (X2.out.on bC)
  have O3 := Lib.hid (O2.out.on bC)
  have Y3 := Lib.hid (Y2.out.on bC)
  have L3 := Lib.hid (L2.out.on bC)
  have F3 := Lib.hid (F2.out.on bC)
  have B3 := Lib.hid (below_trans' B2.out bC)
  obtain ⟨q0, q1, q2, q3, q4⟩ := Y2.out.cells
  have cl := L2.out.cell
  have CL0 : W.drew.cell? ⟨b6, 0, none⟩ = some (.int .i64 m.C) ∧ W.drew.cell? ⟨b6, 1, none⟩ = some (.int .i64 m.D) ∧ W.drew.cell? ⟨b6, 2, none⟩ = some (.int .i64 m.S) ∧ W.drew.cell? ⟨b6, 3, none⟩ = some (.int .i64 m.M) ∧ W.drew.cell? ⟨b6, 4, none⟩ = some (.int .i64 m.L) ∧ W.drew.cell? ⟨b6 + 1, 0, none⟩ = some (.slice V k c') := ⟨q0, q1, q2, q3, q4, cl⟩
  clear bC X2 O2 F2 H2 B2 h6
  go_region_held3 (fun w' => w'.cell? ⟨b6, 0, none⟩ = some (.int .i64 m.C) ∧ w'.cell? ⟨b6, 1, none⟩ = some (.int .i64 m.D) ∧ w'.cell? ⟨b6, 2, none⟩ = some (.int .i64 m.S) ∧ w'.cell? ⟨b6, 3, none⟩ = some (.int .i64 m.M) ∧ w'.cell? ⟨b6, 4, none⟩ = some (.int .i64 m.L) ∧ w'.cell? ⟨b6 + 1, 0, none⟩ = some (.slice V k c'))
    (first
      | go_keep
      | with_reducible exact CL0
      | with_reducible exact CL4
      | with_reducible exact CL5
      | with_reducible exact CL6)
    (first
      | (go_at_call 106; refine (l01Pick_any B g A n c _ _ _ [0, 1, 2, 10, 300, 301, -1] _ HS.out (show Ints (W.alloc (.cells ([0, 1, 2, 10, 300, 301, -1].map (Value.int .i64)).toArray 2)).drew (W.alloc (.cells ([0, 1, 2, 10, 300, 301, -1].map (Value.int .i64)).toArray 2)).drew.heap.size _ _ _ from HI.out) (fun ad e => by injection e with e; subst e; show W.heap.size ≠ g; omega) (by simp) (by simp)).mono ?_; rintro e w4 ⟨r, rfl, _, _, g4⟩; have X4 := Lib.hid (X3.out.grown g4 (by intro e; injection e with e; omega)); have O4 := Lib.hid (O3.out.grown g4 (by intro e; injection e with e; omega)); have Y4 := Lib.hid (Y3.out.grown g4 (by intro e; injection e with e; omega)); have L4 := Lib.hid (L3.out.grown g4 (by intro e; injection e with e; omega)); have F4 := Lib.hid (F3.out.grown g4 (by omega)); have B4 := Lib.hid (below_grown B3.out g4 (fun q e => by injection e with e; omega)); have Y5 := Lib.hid (Y4.out.put_other (b' := w.heap.size) (by omega) m); have L5 := Lib.hid (L4.out.aside5 (b' := w.heap.size) (by omega) m); have Y6 := Lib.hid (Y5.out.other (p := ⟨w.heap.size + 1, 0, none⟩) (by show w.heap.size + 1 ≠ b6; omega) (.slice V k c')); have L6 := Lib.hid (L5.out.other (p := ⟨w.heap.size + 1, 0, none⟩) (by show b6 + 1 ≠ w.heap.size + 1; omega) (.slice V k c')); have CL4 : w4.cell? ⟨b6, 0, none⟩ = some (.int .i64 m.C) ∧ w4.cell? ⟨b6, 1, none⟩ = some (.int .i64 m.D) ∧ w4.cell? ⟨b6, 2, none⟩ = some (.int .i64 m.S) ∧ w4.cell? ⟨b6, 3, none⟩ = some (.int .i64 m.M) ∧ w4.cell? ⟨b6, 4, none⟩ = some (.int .i64 m.L) ∧ w4.cell? ⟨b6 + 1, 0, none⟩ = some (.slice V k c') := ⟨Y4.out.cells.1, Y4.out.cells.2.1, Y4.out.cells.2.2.1, Y4.out.cells.2.2.2.1, Y4.out.cells.2.2.2.2, L4.out.cell⟩; have CL5 : (((((w4.setCell ⟨w.heap.size, 0, none⟩ (.int .i64 m.C)).setCell ⟨w.heap.size, 1, none⟩ (.int .i64 m.D)).setCell ⟨w.heap.size, 2, none⟩ (.int .i64 m.S)).setCell ⟨w.heap.size, 3, none⟩ (.int .i64 m.M)).setCell ⟨w.heap.size, 4, none⟩ (.int .i64 m.L)).cell? ⟨b6, 0, none⟩ = some (.int .i64 m.C) ∧ (((((w4.setCell ⟨w.heap.size, 0, none⟩ (.int .i64 m.C)).setCell ⟨w.heap.size, 1, none⟩ (.int .i64 m.D)).setCell ⟨w.heap.size, 2, none⟩ (.int .i64 m.S)).setCell ⟨w.heap.size, 3, none⟩ (.int .i64 m.M)).setCell ⟨w.heap.size, 4, none⟩ (.int .i64 m.L)).cell? ⟨b6, 1, none⟩ = some (.int .i64 m.D) ∧ (((((w4.setCell ⟨w.heap.size, 0, none⟩ (.int .i64 m.C)).setCell ⟨w.heap.size, 1, none⟩ (.int .i64 m.D)).setCell ⟨w.heap.size, 2, none⟩ (.int .i64 m.S)).setCell ⟨w.heap.size, 3, none⟩ (.int .i64 m.M)).setCell ⟨w.heap.size, 4, none⟩ (.int .i64 m.L)).cell? ⟨b6, 2, none⟩ = some (.int .i64 m.S) ∧ (((((w4.setCell ⟨w.heap.size, 0, none⟩ (.int .i64 m.C)).setCell ⟨w.heap.size, 1, none⟩ (.int .i64 m.D)).setCell ⟨w.heap.size, 2, none⟩ (.int .i64 m.S)).setCell ⟨w.heap.size, 3, none⟩ (.int .i64 m.M)).setCell ⟨w.heap.size, 4, none⟩ (.int .i64 m.L)).cell? ⟨b6, 3, none⟩ = some (.int .i64 m.M) ∧ (((((w4.setCell ⟨w.heap.size, 0, none⟩ (.int .i64 m.C)).setCell ⟨w.heap.size, 1, none⟩ (.int .i64 m.D)).setCell ⟨w.heap.size, 2, none⟩ (.int .i64 m.S)).setCell ⟨w.heap.size, 3, none⟩ (.int .i64 m.M)).setCell ⟨w.heap.size, 4, none⟩ (.int .i64 m.L)).cell? ⟨b6, 4, none⟩ = some (.int .i64 m.L) ∧ (((((w4.setCell ⟨w.heap.size, 0, none⟩ (.int .i64 m.C)).setCell ⟨w.heap.size, 1, none⟩ (.int .i64 m.D)).setCell ⟨w.heap.size, 2, none⟩ (.int .i64 m.S)).setCell ⟨w.heap.size, 3, none⟩ (.int .i64 m.M)).setCell ⟨w.heap.size, 4, none⟩ (.int .i64 m.L)).cell? ⟨b6 + 1, 0, none⟩ = some (.slice V k c') := ⟨Y5.out.cells.1, Y5.out.cells.2.1, Y5.out.cells.2.2.1, Y5.out.cells.2.2.2.1, Y5.out.cells.2.2.2.2, L5.out.cell⟩; have CL6 : ((((((w4.setCell ⟨w.heap.size, 0, none⟩ (.int .i64 m.C)).setCell ⟨w.heap.size, 1, none⟩ (.int .i64 m.D)).setCell ⟨w.heap.size, 2, none⟩ (.int .i64 m.S)).setCell ⟨w.heap.size, 3, none⟩ (.int .i64 m.M)).setCell ⟨w.heap.size, 4, none⟩ (.int .i64 m.L)).setCell ⟨w.heap.size + 1, 0, none⟩ (.slice V k c')).cell? ⟨b6, 0, none⟩ = some (.int .i64 m.C) ∧ ((((((w4.setCell ⟨w.heap.size, 0, none⟩ (.int .i64 m.C)).setCell ⟨w.heap.size, 1, none⟩ (.int .i64 m.D)).setCell ⟨w.heap.size, 2, none⟩ (.int .i64 m.S)).setCell ⟨w.heap.size, 3, none⟩ (.int .i64 m.M)).setCell ⟨w.heap.size, 4, none⟩ (.int .i64 m.L)).setCell ⟨w.heap.size + 1, 0, none⟩ (.slice V k c')).cell? ⟨b6, 1, none⟩ = some (.int .i64 m.D) ∧ ((((((w4.setCell ⟨w.heap.size, 0, none⟩ (.int .i64 m.C)).setCell ⟨w.heap.size, 1, none⟩ (.int .i64 m.D)).setCell ⟨w.heap.size, 2, none⟩ (.int .i64 m.S)).setCell ⟨w.heap.size, 3, none⟩ (.int .i64 m.M)).setCell ⟨w.heap.size, 4, none⟩ (.int .i64 m.L)).setCell ⟨w.heap.size + 1, 0, none⟩ (.slice V k c')).cell? ⟨b6, 2, none⟩ = some (.int .i64 m.S) ∧ ((((((w4.setCell ⟨w.heap.size, 0, none⟩ (.int .i64 m.C)).setCell ⟨w.heap.size, 1, none⟩ (.int .i64 m.D)).setCell ⟨w.heap.size, 2, none⟩ (.int .i64 m.S)).setCell ⟨w.heap.size, 3, none⟩ (.int .i64 m.M)).setCell ⟨w.heap.size, 4, none⟩ (.int .i64 m.L)).setCell ⟨w.heap.size + 1, 0, none⟩ (.slice V k c')).cell? ⟨b6, 3, none⟩ = some (.int .i64 m.M) ∧ ((((((w4.setCell ⟨w.heap.size, 0, none⟩ (.int .i64 m.C)).setCell ⟨w.heap.size, 1, none⟩ (.int .i64 m.D)).setCell ⟨w.heap.size, 2, none⟩ (.int .i64 m.S)).setCell ⟨w.heap.size, 3, none⟩ (.int .i64 m.M)).setCell ⟨w.heap.size, 4, none⟩ (.int .i64 m.L)).setCell ⟨w.heap.size + 1, 0, none⟩ (.slice V k c')).cell? ⟨b6, 4, none⟩ = some (.int .i64 m.L) ∧ ((((((w4.setCell ⟨w.heap.size, 0, none⟩ (.int .i64 m.C)).setCell ⟨w.heap.size, 1, none⟩ (.int .i64 m.D)).setCell ⟨w.heap.size, 2, none⟩ (.int .i64 m.S)).setCell ⟨w.heap.size, 3, none⟩ (.int .i64 m.M)).setCell ⟨w.heap.size, 4, none⟩ (.int .i64 m.L)).setCell ⟨w.heap.size + 1, 0, none⟩ (.slice V k c')).cell? ⟨b6 + 1, 0, none⟩ = some (.slice V k c') := ⟨Y6.out.cells.1, Y6.out.cells.2.1, Y6.out.cells.2.2.1, Y6.out.cells.2.2.2.1, Y6.out.cells.2.2.2.2, L6.out.cell⟩; obtain ⟨p0, p1, p2, p3, p4⟩ := X4.out.cells; have co := O4.out.cell; have fo := O4.out.thawed; have fx := X4.out.thawed))
  have X7 : Boxed ((((((w4.setCell ⟨w.heap.size, 0, none⟩ (.int .i64 m.C)).setCell ⟨w.heap.size, 1, none⟩ (.int .i64 m.D)).setCell ⟨w.heap.size, 2, none⟩ (.int .i64 m.S)).setCell ⟨w.heap.size, 3, none⟩ (.int .i64 m.M)).setCell ⟨w.heap.size, 4, none⟩ (.int .i64 m.L)).setCell ⟨w.heap.size + 1, 0, none⟩ (.slice V k c')) w.heap.size 25 m := (X4.out.put m).other (p := ⟨w.heap.size + 1, 0, none⟩) (by show w.heap.size + 1 ≠ w.heap.size; omega) (.slice V k c')
  have O7 : Cell1 ((((((w4.setCell ⟨w.heap.size, 0, none⟩ (.int .i64 m.C)).setCell ⟨w.heap.size, 1, none⟩ (.int .i64 m.D)).setCell ⟨w.heap.size, 2, none⟩ (.int .i64 m.S)).setCell ⟨w.heap.size, 3, none⟩ (.int .i64 m.M)).setCell ⟨w.heap.size, 4, none⟩ (.int .i64 m.L)).setCell ⟨w.heap.size + 1, 0, none⟩ (.slice V k c')) (w.heap.size + 1) 30 (.slice V k c') := (O4.out.aside5 (b' := w.heap.size) (by omega) m).put (.slice V k c')
  have F7 : Far ((((((w4.setCell ⟨w.heap.size, 0, none⟩ (.int .i64 m.C)).setCell ⟨w.heap.size, 1, none⟩ (.int .i64 m.D)).setCell ⟨w.heap.size, 2, none⟩ (.int .i64 m.S)).setCell ⟨w.heap.size, 3, none⟩ (.int .i64 m.M)).setCell ⟨w.heap.size, 4, none⟩ (.int .i64 m.L)).setCell ⟨w.heap.size + 1, 0, none⟩ (.slice V k c')) w.heap.size V k c' zss := ((F4.out.aside5 (b := w.heap.size) (by omega) m).aside (p := ⟨w.heap.size + 1, 0, none⟩) (by show w.heap.size + 1 < _; omega) (.slice V k c')).down (by omega)
  have B7 : Below w.heap.size w ((((((w4.setCell ⟨w.heap.size, 0, none⟩ (.int .i64 m.C)).setCell ⟨w.heap.size, 1, none⟩ (.int .i64 m.D)).setCell ⟨w.heap.size, 2, none⟩ (.int .i64 m.S)).setCell ⟨w.heap.size, 3, none⟩ (.int .i64 m.M)).setCell ⟨w.heap.size, 4, none⟩ (.int .i64 m.L)).setCell ⟨w.heap.size + 1, 0, none⟩ (.slice V k c')) := below_set (below_put B4.out (Nat.le_refl _) m) (p := ⟨w.heap.size + 1, 0, none⟩) (by show w.heap.size ≤ w.heap.size + 1; omega) (.slice V k c')
  clear CL4 CL5 CL6 Y5 L5 Y6 L6 X4 O4 Y4 L4 F4 B4 p0 p1 p2 p3 p4 co fo fx q0 q1 q2 q3 q4 cl CL0
  generalize ((((((w4.setCell ⟨w.heap.size, 0, none⟩ (.int .i64 m.C)).setCell ⟨w.heap.size, 1, none⟩ (.int .i64 m.D)).setCell ⟨w.heap.size, 2, none⟩ (.int .i64 m.S)).setCell ⟨w.heap.size, 3, none⟩ (.int .i64 m.M)).setCell ⟨w.heap.size, 4, none⟩ (.int .i64 m.L)).setCell ⟨w.heap.size + 1, 0, none⟩ (.slice V k c')) = W7 at X7 O7 F7 B7 ⊢
  go_wp2
  obtain ⟨r0, r1, r2, r3, r4⟩ := X7.cells
  have r5 := O7.cell
  refine bodyPost_ret (v := .tuple #[.agg #[.int .i64 m.C, .int .i64 m.D, .int .i64 m.S, .int .i64 m.M, .int .i64 m.L], .agg #[.slice V k c'], .int .i64 r]) (by simp [results, Try.results27, go_sem, r0, r1, r2, r3, r4, r5]) rfl ⟨m, V, k, c', zss, r, rfl, hSm, F7, HW.out, hkc, hcm, B7⟩

set_option maxRecDepth 100000 in
set_option maxHeartbeats 4000000 in
theorem drawThinChambers_any (B : Nat) (A : Option Addr) (n c : Nat) (w : World) (hb : Bts w B A n) (hB : B ≤ w.heap.size) (hn : n ≤ 4096) :
    Calls Try.prog 115 #[.slice A n c] w (DrawnLMI w) := by
  have bA := ((Below.refl w.heap.size w).alloc (Nat.le_refl _) (.cells #[.int .i64 0, .int .i64 0, .int .i64 0, .int .i64 0, .int .i64 0] 25)).alloc (by simp) (.cells #[.slice none 0 0] 30)
  have HB := Lib.hid (hb.keep (fun p hp => Below.cell bA (by omega)))
  have X0 := Lib.hid ((Boxed.new w 25 ⟨0, 0, 0, 0, 0⟩).alloc (.cells #[.slice none 0 0] 30))
  have O0' := Cell1.new (w.alloc (.cells #[.int .i64 0, .int .i64 0, .int .i64 0, .int .i64 0, .int .i64 0] 25)) 30 (.slice none 0 0)
  rw [World.size_alloc] at O0'
  have O0 := Lib.hid O0'
  have BA := Lib.hid bA
  clear hb O0' bA
  go_enter Try.func115, Try.ntmps115
  go_wp2_with fail
  refine (l01From_any B A n c _ HB.out (by simp; omega) hn).mono ?_
  rintro e w1 ⟨g, rfl, hg, hg1, h1, b1⟩
  have X1 := Lib.hid (X0.out.on b1)
  have O1 := Lib.hid (O0.out.on b1)
  have B1 := Lib.hid (below_trans' BA.out b1)
  have z1 : w.heap.size + 2 ≤ w1.heap.size := by have := b1.size; simp at this; omega
  have hgw : w.heap.size + 1 < g := by simp at hg; omega
  clear X0 O0 BA HB b1
  go_wp2_with fail
  refine (l04Draw_any B g A n c _ h1 (by omega)).mono ?_
  rintro e w2 ⟨m, V, k, c', zss, rfl, hSm, hF, hFew, hkc, hcm, h2, g2⟩
  have z2 := g2.size
  have hg2 := h2.lt
  have bB := ((Below.refl w2.heap.size w2).alloc (Nat.le_refl _) (.cells #[.int .i64 m.C, .int .i64 m.D, .int .i64 m.S, .int .i64 m.M, .int .i64 m.L] 25)).alloc (by simp) (.cells #[.slice V k c'] 30)
  have X2 := Lib.hid ((X1.out.grown g2 (by intro e; injection e with e; omega)).on bB)
  have O2 := Lib.hid ((O1.out.grown g2 (by intro e; injection e with e; omega)).on bB)
  have B2 := Lib.hid (below_trans' (below_grown B1.out g2 (fun q e => by injection e with e; omega)) bB)
  have F2 := Lib.hid (hF.on bB)
  have H2 := Lib.hid (h2.on bB (by omega))
  have Y2 := Lib.hid ((Boxed.new w2 25 m).alloc (.cells #[.slice V k c'] 30))
  have L2' := Cell1.new (w2.alloc (.cells #[.int .i64 m.C, .int .i64 m.D, .int .i64 m.S, .int .i64 m.M, .int .i64 m.L] 25)) 30 (.slice V k c')
  rw [World.size_alloc] at L2'
  have L2 := Lib.hid L2'
  have HW := Lib.hid hFew
  clear X1 O1 B1 hF hFew h1 h2 bB L2'
  go_wp2
  obtain ⟨b6, h6⟩ : ∃ b6, b6 = w2.heap.size := ⟨_, rfl⟩
  have hgb : g < b6 := by rw [h6]; exact hg2
  have hwb : w.heap.size + 1 < b6 := by omega
  have hsz : b6 + 1 < ((w2.alloc (.cells #[.int .i64 m.C, .int .i64 m.D, .int .i64 m.S, .int .i64 m.M, .int .i64 m.L] 25)).alloc (.cells #[.slice V k c'] 30)).heap.size := by rw [World.size_alloc, World.size_alloc, h6]; omega
  rw [← h6] at Y2 L2 ⊢
  generalize ((w2.alloc (.cells #[.int .i64 m.C, .int .i64 m.D, .int .i64 m.S, .int .i64 m.M, .int .i64 m.L] 25)).alloc (.cells #[.slice V k c'] 30)) = W at *
  have HI := Lib.hid (ints_new W [1, 2, 2, 3, m.D, m.D + 1, 0] 2)
  have bC : Below W.heap.size W (W.alloc (.cells ([1, 2, 2, 3, m.D, m.D + 1, 0].map (Value.int .i64)).toArray 2)).drew := ((Below.refl W.heap.size W).alloc (Nat.le_refl _) (.cells ([1, 2, 2, 3, m.D, m.D + 1, 0].map (Value.int .i64)).toArray 2)).drew
  have HS := Lib.hid (H2.out.on bC (by omega))
  have X3 := Lib.hid (X2.out.on bC)
  have O3 := Lib.hid (O2.out.on bC)
  have Y3 := Lib.hid (Y2.out.on bC)
  have L3 := Lib.hid (L2.out.on bC)
  have F3 := Lib.hid (F2.out.on bC)
  have B3 := Lib.hid (below_trans' B2.out bC)
  obtain ⟨q0, q1, q2, q3, q4⟩ := Y2.out.cells
  have cl := L2.out.cell
  have CL0 : W.drew.cell? ⟨b6, 0, none⟩ = some (.int .i64 m.C) ∧ W.drew.cell? ⟨b6, 1, none⟩ = some (.int .i64 m.D) ∧ W.drew.cell? ⟨b6, 2, none⟩ = some (.int .i64 m.S) ∧ W.drew.cell? ⟨b6, 3, none⟩ = some (.int .i64 m.M) ∧ W.drew.cell? ⟨b6, 4, none⟩ = some (.int .i64 m.L) ∧ W.drew.cell? ⟨b6 + 1, 0, none⟩ = some (.slice V k c') := ⟨q0, q1, q2, q3, q4, cl⟩
  have ew : IntKind.i64.wrap (m.D + 1) = m.D + 1 := wrap_small (by have := hSm.2.2.1; omega) (by have := hSm.2.2.2.1; omega)
  clear bC X2 O2 F2 H2 B2 h6
  go_region_held3 (fun w' => w'.cell? ⟨b6, 0, none⟩ = some (.int .i64 m.C) ∧ w'.cell? ⟨b6, 1, none⟩ = some (.int .i64 m.D) ∧ w'.cell? ⟨b6, 2, none⟩ = some (.int .i64 m.S) ∧ w'.cell? ⟨b6, 3, none⟩ = some (.int .i64 m.M) ∧ w'.cell? ⟨b6, 4, none⟩ = some (.int .i64 m.L) ∧ w'.cell? ⟨b6 + 1, 0, none⟩ = some (.slice V k c'))
    (first
      | go_keep
      | with_reducible exact CL0
      | with_reducible exact CL4
      | with_reducible exact CL5
      | with_reducible exact CL6)
    (first
      | (go_at_call 106; refine (l01Pick_any B g A n c _ _ _ [1, 2, 2, 3, m.D, m.D + 1, 0] _ HS.out (show Ints (W.alloc (.cells ([1, 2, 2, 3, m.D, m.D + 1, 0].map (Value.int .i64)).toArray 2)).drew (W.alloc (.cells ([1, 2, 2, 3, m.D, m.D + 1, 0].map (Value.int .i64)).toArray 2)).drew.heap.size _ _ _ from HI.out) (fun ad e => by injection e with e; subst e; show W.heap.size ≠ g; omega) (by simp) (by simp)).mono ?_; rintro e w4 ⟨r, rfl, _, _, g4⟩; have X4 := Lib.hid (X3.out.grown g4 (by intro e; injection e with e; omega)); have O4 := Lib.hid (O3.out.grown g4 (by intro e; injection e with e; omega)); have Y4 := Lib.hid (Y3.out.grown g4 (by intro e; injection e with e; omega)); have L4 := Lib.hid (L3.out.grown g4 (by intro e; injection e with e; omega)); have F4 := Lib.hid (F3.out.grown g4 (by omega)); have B4 := Lib.hid (below_grown B3.out g4 (fun q e => by injection e with e; omega)); have Y5 := Lib.hid (Y4.out.put_other (b' := w.heap.size) (by omega) m); have L5 := Lib.hid (L4.out.aside5 (b' := w.heap.size) (by omega) m); have Y6 := Lib.hid (Y5.out.other (p := ⟨w.heap.size + 1, 0, none⟩) (by show w.heap.size + 1 ≠ b6; omega) (.slice V k c')); have L6 := Lib.hid (L5.out.other (p := ⟨w.heap.size + 1, 0, none⟩) (by show b6 + 1 ≠ w.heap.size + 1; omega) (.slice V k c')); have CL4 : w4.cell? ⟨b6, 0, none⟩ = some (.int .i64 m.C) ∧ w4.cell? ⟨b6, 1, none⟩ = some (.int .i64 m.D) ∧ w4.cell? ⟨b6, 2, none⟩ = some (.int .i64 m.S) ∧ w4.cell? ⟨b6, 3, none⟩ = some (.int .i64 m.M) ∧ w4.cell? ⟨b6, 4, none⟩ = some (.int .i64 m.L) ∧ w4.cell? ⟨b6 + 1, 0, none⟩ = some (.slice V k c') := ⟨Y4.out.cells.1, Y4.out.cells.2.1, Y4.out.cells.2.2.1, Y4.out.cells.2.2.2.1, Y4.out.cells.2.2.2.2, L4.out.cell⟩; have CL5 : (((((w4.setCell ⟨w.heap.size, 0, none⟩ (.int .i64 m.C)).setCell ⟨w.heap.size, 1, none⟩ (.int .i64 m.D)).setCell ⟨w.heap.size, 2, none⟩ (.int .i64 m.S)).setCell ⟨w.heap.size, 3, none⟩ (.int .i64 m.M)).setCell ⟨w.heap.size, 4, none⟩ (.int .i64 m.L)).cell? ⟨b6, 0, none⟩ = some (.int .i64 m.C) ∧ (((((w4.setCell ⟨w.heap.size, 0, none⟩ (.int .i64 m.C)).setCell ⟨w.heap.size, 1, none⟩ (.int .i64 m.D)).setCell ⟨w.heap.size, 2, none⟩ (.int .i64 m.S)).setCell ⟨w.heap.size, 3, none⟩ (.int .i64 m.M)).setCell ⟨w.heap.size, 4, none⟩ (.int .i64 m.L)).cell? ⟨b6, 1, none⟩ = some (.int .i64 m.D) ∧ (((((w4.setCell ⟨w.heap.size, 0, none⟩ (.int .i64 m.C)).setCell ⟨w.heap.size, 1, none⟩ (.int .i64 m.D)).setCell ⟨w.heap.size, 2, none⟩ (.int .i64 m.S)).setCell ⟨w.heap.size, 3, none⟩ (.int .i64 m.M)).setCell ⟨w.heap.size, 4, none⟩ (.int .i64 m.L)).cell? ⟨b6, 2, none⟩ = some (.int .i64 m.S) ∧ (((((w4.setCell ⟨w.heap.size, 0, none⟩ (.int .i64 m.C)).setCell ⟨w.heap.size, 1, none⟩ (.int .i64 m.D)).setCell ⟨w.heap.size, 2, none⟩ (.int .i64 m.S)).setCell ⟨w.heap.size, 3, none⟩ (.int .i64 m.M)).setCell ⟨w.heap.size, 4, none⟩ (.int .i64 m.L)).cell? ⟨b6, 3, none⟩ = some (.int .i64 m.M) ∧ (((((w4.setCell ⟨w.heap.size, 0, none⟩ (.int .i64 m.C)).setCell ⟨w.heap.size, 1, none⟩ (.int .i64 m.D)).setCell ⟨w.heap.size, 2, none⟩ (.int .i64 m.S)).setCell ⟨w.heap.size, 3, none⟩ (.int .i64 m.M)).setCell ⟨w.heap.size, 4, none⟩ (.int .i64 m.L)).cell? ⟨b6, 4, none⟩ = some (.int .i64 m.L) ∧ (((((w4.setCell ⟨w.heap.size, 0, none⟩ (.int .i64 m.C)).setCell ⟨w.heap.size, 1, none⟩ (.int .i64 m.D)).setCell ⟨w.heap.size, 2, none⟩ (.int .i64 m.S)).setCell ⟨w.heap.size, 3, none⟩ (.int .i64 m.M)).setCell ⟨w.heap.size, 4, none⟩ (.int .i64 m.L)).cell? ⟨b6 + 1, 0, none⟩ = some (.slice V k c') := ⟨Y5.out.cells.1, Y5.out.cells.2.1, Y5.out.cells.2.2.1, Y5.out.cells.2.2.2.1, Y5.out.cells.2.2.2.2, L5.out.cell⟩; have CL6 : ((((((w4.setCell ⟨w.heap.size, 0, none⟩ (.int .i64 m.C)).setCell ⟨w.heap.size, 1, none⟩ (.int .i64 m.D)).setCell ⟨w.heap.size, 2, none⟩ (.int .i64 m.S)).setCell ⟨w.heap.size, 3, none⟩ (.int .i64 m.M)).setCell ⟨w.heap.size, 4, none⟩ (.int .i64 m.L)).setCell ⟨w.heap.size + 1, 0, none⟩ (.slice V k c')).cell? ⟨b6, 0, none⟩ = some (.int .i64 m.C) ∧ ((((((w4.setCell ⟨w.heap.size, 0, none⟩ (.int .i64 m.C)).setCell ⟨w.heap.size, 1, none⟩ (.int .i64 m.D)).setCell ⟨w.heap.size, 2, none⟩ (.int .i64 m.S)).setCell ⟨w.heap.size, 3, none⟩ (.int .i64 m.M)).setCell ⟨w.heap.size, 4, none⟩ (.int .i64 m.L)).setCell ⟨w.heap.size + 1, 0, none⟩ (.slice V k c')).cell? ⟨b6, 1, none⟩ = some (.int .i64 m.D) ∧ ((((((w4.setCell ⟨w.heap.size, 0, none⟩ (.int .i64 m.C)).setCell ⟨w.heap.size, 1, none⟩ (.int .i64 m.D)).setCell ⟨w.heap.size, 2, none⟩ (.int .i64 m.S)).setCell ⟨w.heap.size, 3, none⟩ (.int .i64 m.M)).setCell ⟨w.heap.size, 4, none⟩ (.int .i64 m.L)).setCell ⟨w.heap.size + 1, 0, none⟩ (.slice V k c')).cell? ⟨b6, 2, none⟩ = some (.int .i64 m.S) ∧ ((((((w4.setCell ⟨w.heap.size, 0, none⟩ (.int .i64 m.C)).setCell ⟨w.heap.size, 1, none⟩ (.int .i64 m.D)).setCell ⟨w.heap.size, 2, none⟩ (.int .i64 m.S)).setCell ⟨w.heap.size, 3, none⟩ (.int .i64 m.M)).setCell ⟨w.heap.size, 4, none⟩ (.int .i64 m.L)).setCell ⟨w.heap.size + 1, 0, none⟩ (.slice V k c')).cell? ⟨b6, 3, none⟩ = some (.int .i64 m.M) ∧ ((((((w4.setCell ⟨w.heap.size, 0, none⟩ (.int .i64 m.C)).setCell ⟨w.heap.size, 1, none⟩ (.int .i64 m.D)).setCell ⟨w.heap.size, 2, none⟩ (.int .i64 m.S)).setCell ⟨w.heap.size, 3, none⟩ (.int .i64 m.M)).setCell ⟨w.heap.size, 4, none⟩ (.int .i64 m.L)).setCell ⟨w.heap.size + 1, 0, none⟩ (.slice V k c')).cell? ⟨b6, 4, none⟩ = some (.int .i64 m.L) ∧ ((((((w4.setCell ⟨w.heap.size, 0, none⟩ (.int .i64 m.C)).setCell ⟨w.heap.size, 1, none⟩ (.int .i64 m.D)).setCell ⟨w.heap.size, 2, none⟩ (.int .i64 m.S)).setCell ⟨w.heap.size, 3, none⟩ (.int .i64 m.M)).setCell ⟨w.heap.size, 4, none⟩ (.int .i64 m.L)).setCell ⟨w.heap.size + 1, 0, none⟩ (.slice V k c')).cell? ⟨b6 + 1, 0, none⟩ = some (.slice V k c') := ⟨Y6.out.cells.1, Y6.out.cells.2.1, Y6.out.cells.2.2.1, Y6.out.cells.2.2.2.1, Y6.out.cells.2.2.2.2, L6.out.cell⟩; obtain ⟨p0, p1, p2, p3, p4⟩ := X4.out.cells; have co := O4.out.cell; have fo := O4.out.thawed; have fx := X4.out.thawed))
  have X7 : Boxed ((((((w4.setCell ⟨w.heap.size, 0, none⟩ (.int .i64 m.C)).setCell ⟨w.heap.size, 1, none⟩ (.int .i64 m.D)).setCell ⟨w.heap.size, 2, none⟩ (.int .i64 m.S)).setCell ⟨w.heap.size, 3, none⟩ (.int .i64 m.M)).setCell ⟨w.heap.size, 4, none⟩ (.int .i64 m.L)).setCell ⟨w.heap.size + 1, 0, none⟩ (.slice V k c')) w.heap.size 25 m := (X4.out.put m).other (p := ⟨w.heap.size + 1, 0, none⟩) (by show w.heap.size + 1 ≠ w.heap.size; omega) (.slice V k c')
  have O7 : Cell1 ((((((w4.setCell ⟨w.heap.size, 0, none⟩ (.int .i64 m.C)).setCell ⟨w.heap.size, 1, none⟩ (.int .i64 m.D)).setCell ⟨w.heap.size, 2, none⟩ (.int .i64 m.S)).setCell ⟨w.heap.size, 3, none⟩ (.int .i64 m.M)).setCell ⟨w.heap.size, 4, none⟩ (.int .i64 m.L)).setCell ⟨w.heap.size + 1, 0, none⟩ (.slice V k c')) (w.heap.size + 1) 30 (.slice V k c') := (O4.out.aside5 (b' := w.heap.size) (by omega) m).put (.slice V k c')
  have F7 : Far ((((((w4.setCell ⟨w.heap.size, 0, none⟩ (.int .i64 m.C)).setCell ⟨w.heap.size, 1, none⟩ (.int .i64 m.D)).setCell ⟨w.heap.size, 2, none⟩ (.int .i64 m.S)).setCell ⟨w.heap.size, 3, none⟩ (.int .i64 m.M)).setCell ⟨w.heap.size, 4, none⟩ (.int .i64 m.L)).setCell ⟨w.heap.size + 1, 0, none⟩ (.slice V k c')) w.heap.size V k c' zss := ((F4.out.aside5 (b := w.heap.size) (by omega) m).aside (p := ⟨w.heap.size + 1, 0, none⟩) (by show w.heap.size + 1 < _; omega) (.slice V k c')).down (by omega)
  have B7 : Below w.heap.size w ((((((w4.setCell ⟨w.heap.size, 0, none⟩ (.int .i64 m.C)).setCell ⟨w.heap.size, 1, none⟩ (.int .i64 m.D)).setCell ⟨w.heap.size, 2, none⟩ (.int .i64 m.S)).setCell ⟨w.heap.size, 3, none⟩ (.int .i64 m.M)).setCell ⟨w.heap.size, 4, none⟩ (.int .i64 m.L)).setCell ⟨w.heap.size + 1, 0, none⟩ (.slice V k c')) := below_set (below_put B4.out (Nat.le_refl _) m) (p := ⟨w.heap.size + 1, 0, none⟩) (by show w.heap.size ≤ w.heap.size + 1; omega) (.slice V k c')
  clear CL4 CL5 CL6 Y5 L5 Y6 L6 X4 O4 Y4 L4 F4 B4 p0 p1 p2 p3 p4 co fo fx q0 q1 q2 q3 q4 cl CL0
  generalize ((((((w4.setCell ⟨w.heap.size, 0, none⟩ (.int .i64 m.C)).setCell ⟨w.heap.size, 1, none⟩ (.int .i64 m.D)).setCell ⟨w.heap.size, 2, none⟩ (.int .i64 m.S)).setCell ⟨w.heap.size, 3, none⟩ (.int .i64 m.M)).setCell ⟨w.heap.size, 4, none⟩ (.int .i64 m.L)).setCell ⟨w.heap.size + 1, 0, none⟩ (.slice V k c')) = W7 at X7 O7 F7 B7 ⊢
  go_wp2
  obtain ⟨r0, r1, r2, r3, r4⟩ := X7.cells
  have r5 := O7.cell
  refine bodyPost_ret (v := .tuple #[.agg #[.int .i64 m.C, .int .i64 m.D, .int .i64 m.S, .int .i64 m.M, .int .i64 m.L], .agg #[.slice V k c'], .int .i64 r]) (by simp [results, Try.results115, go_sem, r0, r1, r2, r3, r4, r5]) rfl ⟨m, V, k, c', zss, r, rfl, hSm, F7, HW.out, hkc, hcm, B7⟩

set_option maxRecDepth 100000 in
set_option maxHeartbeats 4000000 in
theorem drawThickenLock_any (B : Nat) (A : Option Addr) (n c : Nat) (w : World) (hb : Bts w B A n) (hB : B ≤ w.heap.size) (hn : n ≤ 4096) :
    Calls Try.prog 42 #[.slice A n c] w (DrawnLMI w) := by
  have bA := ((Below.refl w.heap.size w).alloc (Nat.le_refl _) (.cells #[.int .i64 0, .int .i64 0, .int .i64 0, .int .i64 0, .int .i64 0] 25)).alloc (by simp) (.cells #[.slice none 0 0] 30)
  have HB := Lib.hid (hb.keep (fun p hp => Below.cell bA (by omega)))
  have X0 := Lib.hid ((Boxed.new w 25 ⟨0, 0, 0, 0, 0⟩).alloc (.cells #[.slice none 0 0] 30))
  have O0' := Cell1.new (w.alloc (.cells #[.int .i64 0, .int .i64 0, .int .i64 0, .int .i64 0, .int .i64 0] 25)) 30 (.slice none 0 0)
  rw [World.size_alloc] at O0'
  have O0 := Lib.hid O0'
  have BA := Lib.hid bA
  clear hb O0' bA
  go_enter Try.func42, Try.ntmps42
  go_wp2_with fail
  refine (drawThinChambers_any B A n c _ HB.out (by simp; omega) hn).mono ?_
  rintro e w2 ⟨m, V, k, c', zss, r, rfl, hSm, hF, hFew, hkc, hcm, b2⟩
  have hF' := hF.down (lo' := w.heap.size + 2) (by rw [World.size_alloc, World.size_alloc]; omega)
  have X2 := X0.out.on b2
  have O2 := O0.out.on b2
  have B2 := below_trans' BA.out b2
  obtain ⟨p0, p1, p2, p3, p4⟩ := X2.cells
  have co := O2.cell
  have fo := O2.thawed
  have fx := X2.thawed
  have X7 := Lib.hid ((X2.put m).other (p := ⟨w.heap.size + 1, 0, none⟩) (by show w.heap.size + 1 ≠ w.heap.size; omega) (.slice V k c'))
  have O7 := Lib.hid ((O2.aside5 (b' := w.heap.size) (by omega) m).put (.slice V k c'))
  have F7 := Lib.hid ((hF'.aside5 (b := w.heap.size) (by omega) m).aside (p := ⟨w.heap.size + 1, 0, none⟩) (by show w.heap.size + 1 < _; omega) (.slice V k c'))
  have B7 := Lib.hid (below_set (below_put B2 (Nat.le_refl _) m) (p := ⟨w.heap.size + 1, 0, none⟩) (by show w.heap.size ≤ w.heap.size + 1; omega) (.slice V k c'))
  have HW := Lib.hid hFew
  clear X0 O0 BA X2 O2 B2 hF hF' hFew b2
  go_wp2
  obtain ⟨r0, r1, r2, r3, r4⟩ := X7.out.cells
  have r5 := O7.out.cell
  unfold put5 at X7 O7 F7 B7 r0 r1 r2 r3 r4 r5
  refine bodyPost_ret (v := .tuple #[.agg #[.int .i64 m.C, .int .i64 m.D, .int .i64 m.S, .int .i64 m.M, .int .i64 m.L], .agg #[.slice V k c'], .int .i64 r]) (by simp [results, Try.results42, go_sem, r0, r1, r2, r3, r4, r5]) rfl ⟨m, V, k, c', zss, r, rfl, hSm, F7.out.down (by omega), HW.out, hkc, hcm, B7.out⟩

end Go.Proofs.Ytbfnffecmglgfaa
