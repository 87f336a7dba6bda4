/- What the law FnPlaces draws of makers, locks and chambers. -/
import Derived.Test.YtbfnffecmglgfaaDrawO
import Derived.Lib.MinMax
namespace Go.Proofs.Ytbfnffecmglgfaa
open Go Go.RowKit

set_option maxRecDepth 100000 in
set_option maxHeartbeats 8000000 in
theorem drawFreePlaces_any (B : Nat) (A : Option Addr) (n c : Nat) (w : World) (hb : Bts w B A n) (hB : B ≤ w.heap.size) (hn : n ≤ 4096) :
    Calls Try.prog 64 #[.slice A n c] w (DrawnLM2 w) := by
  have bA := ((Below.refl w.heap.size w).alloc (Nat.le_refl _) (.cells #[.int .i64 0, .int .i64 0, .int .i64 0, .int .i64 0, .int .i64 0] 25)).alloc (by simp) (.cells #[.slice none 0 0] 30)
  have HB := Lib.hid (hb.keep (fun p hp => Below.cell bA (by omega)))
  have X0 := Lib.hid ((Boxed.new w 25 ⟨0, 0, 0, 0, 0⟩).alloc (.cells #[.slice none 0 0] 30))
  have O0' := Cell1.new (w.alloc (.cells #[.int .i64 0, .int .i64 0, .int .i64 0, .int .i64 0, .int .i64 0] 25)) 30 (.slice none 0 0)
  rw [World.size_alloc] at O0'
  have O0 := Lib.hid O0'
  have BA := Lib.hid bA
  clear hb O0' bA
  go_enter Try.func64, Try.ntmps64
  go_wp2_with fail
  refine (l01From_any B A n c _ HB.out (by simp; omega) hn).mono ?_
  rintro e w1 ⟨g, rfl, hg, hg1, h1, b1⟩
  have X1 := Lib.hid (X0.out.on b1)
  have O1 := Lib.hid (O0.out.on b1)
  have B1 := Lib.hid (below_trans' BA.out b1)
  have hgw : w.heap.size + 1 < g := by simp at hg; omega
  clear X0 O0 BA HB b1
  go_wp2_with fail
  refine (l04Draw_any B g A n c _ h1 (by have := B1.out.size; omega)).mono ?_
  rintro e w2 ⟨m, V, k, c', zss, rfl, hSm, hF, hFew, hkc, hcm, h2, g2⟩
  have K2 : Hid (DL w ((w2.alloc (.cells #[.int .i64 m.C, .int .i64 m.D, .int .i64 m.S, .int .i64 m.M, .int .i64 m.L] 25)).alloc (.cells #[.slice V k c'] 30)) B g A n c m w2.heap.size w1.heap.size V k c' zss) := Lib.hid (DL.start (X1.out.grown g2 (by intro e; injection e with e; omega)) (O1.out.grown g2 (by intro e; injection e with e; omega)) hF h2 (below_grown B1.out g2 (fun q e => by injection e with e; omega)) hB hgw hg1 g2.size)
  have HW := Lib.hid hFew
  obtain ⟨b6, h6⟩ : ∃ b6, b6 = w2.heap.size := ⟨_, rfl⟩
  clear X1 O1 B1 hF hFew h1 h2 g2
  go_wp2_with fail
  refine (l08DrawNumbers_any B g A n c _ K2.out.h).mono ?_
  rintro e w4 ⟨r, z, rfl, h4, g4⟩
  have K4 := K2.out.grown g4 h4
  rw [← h6] at K4
  have K4 := Lib.hid K4
  clear K2 h4 g4
  rw [← h6]
  clear h6
  obtain ⟨q0, q1, q2, q3, q4, cl⟩ := K4.out.cells
  have hwb : w.heap.size + 1 < b6 := by have h1 := K4.out.hg; have h2 := K4.out.hl; have h3 := K4.out.hm; omega
  have cC : 1 ≤ m.C ∧ m.C ≤ 7 := ⟨hSm.1, hSm.2.1⟩
  have v1 : IntKind.i64.wrap (m.C + 1) = m.C + 1 := by rw [IntKind.wrap_i64]; omega
  have v2 : max 1 (m.C + 1) = m.C + 1 := by omega
  go_wp2
  go_region_held3 (fun w' => w'.cell? ⟨b6, 0, none⟩ = some (.int .i64 m.C) ∧ w'.cell? ⟨b6, 1, none⟩ = some (.int .i64 m.D) ∧ w'.cell? ⟨b6, 2, none⟩ = some (.int .i64 m.S) ∧ w'.cell? ⟨b6, 3, none⟩ = some (.int .i64 m.M) ∧ w'.cell? ⟨b6, 4, none⟩ = some (.int .i64 m.L) ∧ w'.cell? ⟨b6 + 1, 0, none⟩ = some (.slice V k c'))
    (first
      | go_keep
      | with_reducible exact K4.out.drew.cells
      | with_reducible exact K6.out.cells
      | with_reducible exact K7.out.cells
      | with_reducible exact K7.out.s5
      | with_reducible exact K7.out.s6)
    (first
      | (go_at_call 89; refine (l01Next_any B g A n c _ _ K4.out.drew.h (by omega)).mono ?_; rintro e w6 ⟨x, rfl, x0, x9, h6, g6⟩; have K6 := Lib.hid (K4.out.drew.grown g6 h6))
      | (go_at_call 89; refine (l01Next_any B g A n c _ _ K6.out.h (by omega)).mono ?_; rintro e w7 ⟨y, rfl, y0, y9, h7, g7⟩; have u1 : y.tdiv 19 = y / 19 := Int.tdiv_eq_ediv_of_nonneg (by omega); have v3 : IntKind.i64.wrap (y / 19) = y / 19 := (by rw [IntKind.wrap_i64]; omega); have v4 : IntKind.i64.wrap (y.tdiv 19) = y / 19 := (by rw [u1]; exact v3); have v5 : IntKind.i64.wrap (x - y / 19) = x - y / 19 := (by rw [IntKind.wrap_i64]; omega); have K7 := Lib.hid (K6.out.grown g7 h7); obtain ⟨p0, p1, p2, p3, p4⟩ := K7.out.x.cells; have co := K7.out.o.cell; have fo := K7.out.o.thawed; have fx := K7.out.x.thawed))
  have HZ := Lib.hid (K7.out.last)
  generalize hW : ((((((w7.setCell ⟨w.heap.size, 0, none⟩ (.int .i64 m.C)).setCell ⟨w.heap.size, 1, none⟩ (.int .i64 m.D)).setCell ⟨w.heap.size, 2, none⟩ (.int .i64 m.S)).setCell ⟨w.heap.size, 3, none⟩ (.int .i64 m.M)).setCell ⟨w.heap.size, 4, none⟩ (.int .i64 m.L)).setCell ⟨w.heap.size + 1, 0, none⟩ (.slice V k c')) = W7 at HZ ⊢
  clear q0 q1 q2 q3 q4 p0 p1 p2 p3 p4 cl co fo fx hW K4 K6 K7 h6 h7 g6 g7
  go_wp2
  obtain ⟨r0, r1, r2, r3, r4⟩ := HZ.out.x.cells
  have r5 := HZ.out.o.cell
  refine bodyPost_ret (v := .tuple #[.agg #[.int .i64 m.C, .int .i64 m.D, .int .i64 m.S, .int .i64 m.M, .int .i64 m.L], .agg #[.slice V k c'], .int .i64 (x - y / 19), .int .i64 z]) (by simp [results, Try.results64, go_sem, r0, r1, r2, r3, r4, r5]) rfl ⟨m, V, k, c', zss, _, z, rfl, hSm, HZ.out.f, HW.out, hkc, hcm, HZ.out.c⟩

end Go.Proofs.Ytbfnffecmglgfaa
