/- What the laws of chapter 8 draw of makers, locks, keys and numbers. -/
import Derived.Test.YtbfnffecmglgfaaDrawO
namespace Go.Proofs.Ytbfnffecmglgfaa
open Go Go.RowKit

theorem FarI.drew {w : World} {lo q : Nat} {A : Option Addr} {xs : List Int} (h : FarI w lo A q xs) : FarI w.drew lo A q xs := h.on (below_drewN (Below.refl w.heap.size w) 1)
/-- a maker, a lock, a list and two numbers -/
def DrawnLMK2 (w : World) (e : Ending) (w' : World) : Prop :=
  ∃ (m : Mk) (V : Option Addr) (k c' : Nat) (zss : List (List Int)) (A1 : Option Addr) (q d : Nat) (xs : List Int) (r z : Int), e = .returned (.tuple #[.agg #[.int .i64 m.C, .int .i64 m.D, .int .i64 m.S, .int .i64 m.M, .int .i64 m.L], .agg #[.slice V k c'], .slice A1 q d, .int .i64 r, .int .i64 z]) ∧ Small m ∧ Far w' w.heap.size V k c' zss ∧ Few k zss ∧ k ≤ c' ∧ c' ≤ 9223372036854775807 ∧ FarI w' w.heap.size A1 q xs ∧ q ≤ 1048576 ∧ q ≤ d ∧ d ≤ 9223372036854775807 ∧ Below w.heap.size w w'

set_option maxRecDepth 100000 in
set_option maxHeartbeats 4000000 in
theorem drawMayOpen_any (B : Nat) (A : Option Addr) (n c : Nat) (w : World) (hb : Bts w B A n) (hB : B ≤ w.heap.size) (hn : n ≤ 4096) :
    Calls Try.prog 52 #[.slice A n c] w (DrawnLMK2 w) := by
  have bA := ((Below.refl w.heap.size w).alloc (Nat.le_refl _) (.cells #[.int .i64 0, .int .i64 0, .int .i64 0, .int .i64 0, .int .i64 0] 25)).alloc (by simp) (.cells #[.slice none 0 0] 30)
  have HB := Lib.hid (hb.keep (fun p hp => Below.cell bA (by omega)))
  have X0 := Lib.hid ((Boxed.new w 25 ⟨0, 0, 0, 0, 0⟩).alloc (.cells #[.slice none 0 0] 30))
  have O0' := Cell1.new (w.alloc (.cells #[.int .i64 0, .int .i64 0, .int .i64 0, .int .i64 0, .int .i64 0] 25)) 30 (.slice none 0 0)
  rw [World.size_alloc] at O0'
  have O0 := Lib.hid O0'
  have BA := Lib.hid bA
  clear hb O0' bA
  go_enter Try.func52, Try.ntmps52
  go_wp2_with fail
  refine (l01From_any B A n c _ HB.out (by simp; omega) hn).mono ?_
  rintro e w1 ⟨g, rfl, hg, hg1, h1, b1⟩
  have HB1 := Lib.hid (HB.out.keep (fun p hp => Below.cell b1 (by simp; omega)))
  have X1 := Lib.hid (X0.out.on b1)
  have O1 := Lib.hid (O0.out.on b1)
  have B1 := Lib.hid (below_trans' BA.out b1)
  have hgw : w.heap.size + 1 < g := by simp at hg; omega
  have hB1 : B ≤ w1.heap.size := Nat.le_trans hB B1.out.size
  clear X0 O0 BA HB b1
  go_wp2_with fail
  refine (drawOpens_any B A n c _ HB1.out hB1 hn).mono ?_
  rintro e w2 ⟨m, V, k, c', zss, A5, q5, d5, xs5, rfl, hSm, hF, hFew, hkc, hcm, hI, hq5, hqd5, hd5, b2⟩
  have K2 : Hid (DL w ((w2.alloc (.cells #[.int .i64 m.C, .int .i64 m.D, .int .i64 m.S, .int .i64 m.M, .int .i64 m.L] 25)).alloc (.cells #[.slice V k c'] 30)) B g A n c m w2.heap.size w1.heap.size V k c' zss) := Lib.hid (DL.start (X1.out.on b2) (O1.out.on b2) hF (h1.on b2 hB1) (below_trans' B1.out b2) hB hgw hg1 b2.size)
  have F2 := Lib.hid (hI.on (((Below.refl w2.heap.size w2).alloc (Nat.le_refl _) (.cells #[.int .i64 m.C, .int .i64 m.D, .int .i64 m.S, .int .i64 m.M, .int .i64 m.L] 25)).alloc (by simp) (.cells #[.slice V k c'] 30)))
  have HW := Lib.hid hFew
  have hlo : w.heap.size + 1 < w1.heap.size := by omega
  obtain ⟨b6, h6⟩ : ∃ b6, b6 = w2.heap.size := ⟨_, rfl⟩
  clear X1 O1 B1 hF hI hFew h1 b2 HB1
  go_wp2_with fail
  refine (l08DrawNumbers_any B g A n c _ K2.out.h).mono ?_
  rintro e w4 ⟨r, z, rfl, h4, g4⟩
  have K4 := K2.out.grown g4 h4
  have F4 := Lib.hid (F2.out.past g4 (fun g' e => by injection e with e; omega))
  rw [← h6] at K4
  have K4 := Lib.hid K4
  clear K2 F2 h4 g4
  rw [← h6]
  clear h6
  obtain ⟨q0, q1, q2, q3, q4, cl⟩ := K4.out.cells
  obtain ⟨p0, p1, p2, p3, p4⟩ := K4.out.x.cells
  have co := K4.out.o.cell
  have fo := K4.out.o.thawed
  have fx := K4.out.x.thawed
  have hwb : w.heap.size + 1 < b6 := by have h1 := K4.out.hg; have h2 := K4.out.hl; have h3 := K4.out.hm; omega
  go_wp2
  go_region
  have F7 := (F4.out.put6 (m := m) (V := V) (k := k) (c' := c') hlo).drew
  have HZ := K4.out.last.drew
  generalize hW : (((((((w4.setCell ⟨w.heap.size, 0, none⟩ (.int .i64 m.C)).setCell ⟨w.heap.size, 1, none⟩ (.int .i64 m.D)).setCell ⟨w.heap.size, 2, none⟩ (.int .i64 m.S)).setCell ⟨w.heap.size, 3, none⟩ (.int .i64 m.M)).setCell ⟨w.heap.size, 4, none⟩ (.int .i64 m.L)).setCell ⟨w.heap.size + 1, 0, none⟩ (.slice V k c'))).drew = W7 at F7 HZ ⊢
  have F7 := Lib.hid F7
  have HZ := Lib.hid HZ
  clear q0 q1 q2 q3 q4 p0 p1 p2 p3 p4 cl co fo fx hW K4 F4
  go_wp2
  obtain ⟨r0, r1, r2, r3, r4⟩ := HZ.out.x.cells
  have r5 := HZ.out.o.cell
  refine bodyPost_ret (v := .tuple #[.agg #[.int .i64 m.C, .int .i64 m.D, .int .i64 m.S, .int .i64 m.M, .int .i64 m.L], .agg #[.slice V k c'], .slice A5 q5 d5, .int .i64 r, .int .i64 z]) (by simp [results, Try.results52, go_sem, r0, r1, r2, r3, r4, r5]) rfl ⟨m, V, k, c', zss, A5, q5, d5, xs5, r, z, rfl, hSm, HZ.out.f, HW.out, hkc, hcm, F7.out, hq5, hqd5, hd5, HZ.out.c⟩

/-- a maker, a lock, a list and a number -/
def DrawnLMK1 (w : World) (e : Ending) (w' : World) : Prop :=
  ∃ (m : Mk) (V : Option Addr) (k c' : Nat) (zss : List (List Int)) (A1 : Option Addr) (q d : Nat) (xs : List Int) (z : Int), e = .returned (.tuple #[.agg #[.int .i64 m.C, .int .i64 m.D, .int .i64 m.S, .int .i64 m.M, .int .i64 m.L], .agg #[.slice V k c'], .slice A1 q d, .int .i64 z]) ∧ Small m ∧ Far w' w.heap.size V k c' zss ∧ Few k zss ∧ k ≤ c' ∧ c' ≤ 9223372036854775807 ∧ FarI w' w.heap.size A1 q xs ∧ q ≤ 1048576 ∧ q ≤ d ∧ d ≤ 9223372036854775807 ∧ Below w.heap.size w w'

set_option maxRecDepth 100000 in
set_option maxHeartbeats 4000000 in
theorem drawWearLimit_any (B : Nat) (A : Option Addr) (n c : Nat) (w : World) (hb : Bts w B A n) (hB : B ≤ w.heap.size) (hn : n ≤ 4096) :
    Calls Try.prog 58 #[.slice A n c] w (DrawnLMK1 w) := by
  have bA := ((Below.refl w.heap.size w).alloc (Nat.le_refl _) (.cells #[.int .i64 0, .int .i64 0, .int .i64 0, .int .i64 0, .int .i64 0] 25)).alloc (by simp) (.cells #[.slice none 0 0] 30)
  have HB := Lib.hid (hb.keep (fun p hp => Below.cell bA (by omega)))
  have X0 := Lib.hid ((Boxed.new w 25 ⟨0, 0, 0, 0, 0⟩).alloc (.cells #[.slice none 0 0] 30))
  have O0' := Cell1.new (w.alloc (.cells #[.int .i64 0, .int .i64 0, .int .i64 0, .int .i64 0, .int .i64 0] 25)) 30 (.slice none 0 0)
  rw [World.size_alloc] at O0'
  have O0 := Lib.hid O0'
  have BA := Lib.hid bA
  clear hb O0' bA
  go_enter Try.func58, Try.ntmps58
  go_wp2_with fail
  refine (drawMayOpen_any B A n c _ HB.out (by simp; omega) hn).mono ?_
  rintro e w2 ⟨m, V, k, c', zss, A5, q5, d5, xs5, r, z, rfl, hSm, hF, hFew, hkc, hcm, hI, hq5, hqd5, hd5, b2⟩
  have hF2 := hF.down (lo' := w.heap.size + 2) (by rw [World.size_alloc, World.size_alloc]; omega)
  have hI2 := hI.down (lo' := w.heap.size + 2) (by rw [World.size_alloc, World.size_alloc]; omega)
  have bB := ((Below.refl w2.heap.size w2).alloc (Nat.le_refl _) (.cells #[.int .i64 m.C, .int .i64 m.D, .int .i64 m.S, .int .i64 m.M, .int .i64 m.L] 25)).alloc (by simp) (.cells #[.slice V k c'] 30)
  have l2 := Cell1.new (w2.alloc (.cells #[.int .i64 m.C, .int .i64 m.D, .int .i64 m.S, .int .i64 m.M, .int .i64 m.L] 25)) 30 (.slice V k c')
  rw [World.size_alloc] at l2
  have hwb : w.heap.size + 1 < w2.heap.size := by have := b2.size; rw [World.size_alloc, World.size_alloc] at this; omega
  have X3 := (X0.out.on b2).on bB
  have O3 := (O0.out.on b2).on bB
  have Y3 := (Boxed.new w2 25 m).alloc (.cells #[.slice V k c'] 30)
  have F3 := hF2.on bB
  have I3 := hI2.on bB
  have B3 := below_trans' (below_trans' BA.out b2) bB
  obtain ⟨b6, h6⟩ : ∃ b6, b6 = w2.heap.size := ⟨_, rfl⟩
  obtain ⟨w4, h7⟩ : ∃ w4, w4 = ((w2.alloc (.cells #[.int .i64 m.C, .int .i64 m.D, .int .i64 m.S, .int .i64 m.M, .int .i64 m.L] 25)).alloc (.cells #[.slice V k c'] 30)) := ⟨_, rfl⟩
  obtain ⟨q0, q1, q2, q3, q4⟩ := Y3.cells
  have cl := l2.cell
  obtain ⟨p0, p1, p2, p3, p4⟩ := X3.cells
  have co := O3.cell
  have fo := O3.thawed
  have fx := X3.thawed
  have X7 := ((X3.put m).other (p := ⟨w.heap.size + 1, 0, none⟩) (by show w.heap.size + 1 ≠ w.heap.size; omega) (.slice V k c'))
  have O7 := ((O3.aside5 (b' := w.heap.size) (by omega) m).put (.slice V k c'))
  have F7 := ((F3.aside5 (b := w.heap.size) (by omega) m).aside (p := ⟨w.heap.size + 1, 0, none⟩) (by show w.heap.size + 1 < _; omega) (.slice V k c'))
  have B7 := (below_set (below_put B3 (Nat.le_refl _) m) (p := ⟨w.heap.size + 1, 0, none⟩) (by show w.heap.size ≤ w.heap.size + 1; omega) (.slice V k c'))
  have I7 := (I3.put6 (w := w) (m := m) (V := V) (k := k) (c' := c') (by omega)).drew
  unfold put5 at X7 O7 F7 B7
  have bD : ∀ W : World, Below W.heap.size W W.drew := fun W => below_drewN (Below.refl W.heap.size W) 1
  have X7 := X7.on (bD _)
  have O7 := O7.on (bD _)
  have F7 := (F7.on (bD _)).down (lo' := w.heap.size) (by omega)
  have B7 := below_trans' B7 (bD _)
  rw [← h7] at q0 q1 q2 q3 q4 cl p0 p1 p2 p3 p4 co fo fx X7 O7 F7 B7 I7
  rw [← h6] at q0 q1 q2 q3 q4 cl hwb
  have HW := Lib.hid hFew
  have X7 := Lib.hid X7
  have O7 := Lib.hid O7
  have F7 := Lib.hid F7
  have B7 := Lib.hid B7
  have I7 := Lib.hid I7
  clear X0 O0 BA X3 O3 Y3 F3 I3 B3 l2 bB hF hF2 hI hI2 hFew b2 bD
  go_wp2
  rw [← h7, ← h6]
  clear h7 h6
  go_region
  generalize hW : (((((((w4.setCell ⟨w.heap.size, 0, none⟩ (.int .i64 m.C)).setCell ⟨w.heap.size, 1, none⟩ (.int .i64 m.D)).setCell ⟨w.heap.size, 2, none⟩ (.int .i64 m.S)).setCell ⟨w.heap.size, 3, none⟩ (.int .i64 m.M)).setCell ⟨w.heap.size, 4, none⟩ (.int .i64 m.L)).setCell ⟨w.heap.size + 1, 0, none⟩ (.slice V k c'))).drew = W7 at X7 O7 F7 B7 I7 ⊢
  clear q0 q1 q2 q3 q4 p0 p1 p2 p3 p4 cl co fo fx hW
  go_wp2
  obtain ⟨r0, r1, r2, r3, r4⟩ := X7.out.cells
  have r5 := O7.out.cell
  refine bodyPost_ret (v := .tuple #[.agg #[.int .i64 m.C, .int .i64 m.D, .int .i64 m.S, .int .i64 m.M, .int .i64 m.L], .agg #[.slice V k c'], .slice A5 q5 d5, .int .i64 z]) (by simp [results, Try.results58, go_sem, r0, r1, r2, r3, r4, r5]) rfl ⟨m, V, k, c', zss, A5, q5, d5, xs5, z, rfl, hSm, F7.out, HW.out, hkc, hcm, I7.out, hq5, hqd5, hd5, B7.out⟩

end Go.Proofs.Ytbfnffecmglgfaa
