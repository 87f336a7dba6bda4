/- The draw of a maker and a rank. -/
import Derived.Test.YtbadahnhlehidaaDrawKey
import Derived.Test.YtbadahnhlehidaaDrawFirst
import Derived.Test.YtbadahnhlehidaaSCount
namespace Go.Proofs.Ytbadahnhlehidaa
open Go Go.RowKit

set_option maxRecDepth 100000 in
set_option maxHeartbeats 8000000 in
theorem drawKeyAt_any (B : Nat) (A : Option Addr) (n c : Nat) (w : World) (hb : Bts w B A n) (hB : B ≤ w.heap.size) (hn : n ≤ 4096) :
    Calls Try.prog 71 #[.slice A n c] w (DrawnMN w) := by
  have HB := Lib.hid (hb.keep (fun p hp => Below.cell ((Below.refl w.heap.size w).alloc (Nat.le_refl _) (.cells #[.int .i64 0, .int .i64 0, .int .i64 0, .int .i64 0, .int .i64 0] 29)) (by omega)))
  have x1 := Boxed.new w 29 ⟨0, 0, 0, 0, 0⟩
  have b1 := (Below.refl w.heap.size w).alloc (Nat.le_refl _) (.cells #[.int .i64 0, .int .i64 0, .int .i64 0, .int .i64 0, .int .i64 0] 29)
  clear hb
  go_enter Try.func71, Try.ntmps71
  go_wp2_with fail
  refine (l01From_any B A n c _ HB.out (by simp; omega) hn).mono ?_
  rintro e w2 ⟨g, rfl, hg, hg1, h2, b2⟩
  have x2 := x1.on b2
  have c2 := b1.trans (b2.mono (by simp))
  have hgw : w.heap.size < g := by simp at hg; omega
  clear x1 b1 b2 HB
  go_wp2_with fail
  refine (l02Draw_any B g A n c _ h2).mono ?_
  rintro e w3 ⟨m, rfl, hSm, h3, g3⟩
  have x3 := x2.grown g3 (by intro e; injection e with e; omega)
  have c3 := below_grown c2 g3 (fun q e => by injection e with e; omega)
  have s3 : g < w3.heap.size := h3.lt
  clear h2 x2 c2 g3 hg1
  have H4 := Lib.hid (h3.alloc (.cells #[.int .i64 m.C, .int .i64 m.D, .int .i64 m.S, .int .i64 m.M, .int .i64 m.L] 29))
  have Y4 := Lib.hid (Boxed.new w3 29 m)
  have X4 := Lib.hid (x3.alloc (.cells #[.int .i64 m.C, .int .i64 m.D, .int .i64 m.S, .int .i64 m.M, .int .i64 m.L] 29))
  have C4 := Lib.hid (c3.alloc (Nat.le_trans (by omega) (Nat.le_of_lt s3)) (.cells #[.int .i64 m.C, .int .i64 m.D, .int .i64 m.S, .int .i64 m.M, .int .i64 m.L] 29))
  clear h3 x3 c3
  have gW0 := H4.out.lt
  have c40 := C4.out.size
  generalize hW3 : (w3.alloc (.cells #[.int .i64 m.C, .int .i64 m.D, .int .i64 m.S, .int .i64 m.M, .int .i64 m.L] 29)) = W3 at *
  rcases hm : m.ok with _ | _
  · obtain ⟨q0, q1, q2, q3, q4⟩ := Y4.out.cells
    have HM := Lib.hid hm
    clear hm
    go_wp2_with fail
    refine (specIsMaker_any m _).mono ?_
    rw [HM.out]
    rintro e W ⟨rfl, b5⟩
    clear q0 q1 q2 q3 q4
    have Y5 := Y4.out.on b5
    have X5 := X4.out.on b5
    have C5 := below_trans' C4.out b5
    clear Y4 X4 C4 H4 b5
    obtain ⟨q0, q1, q2, q3, q4⟩ := Y5.cells
    obtain ⟨d0, d1, d2, d3, d4⟩ := X5.thawed
    obtain ⟨p0, p1, p2, p3, p4⟩ := X5.cells
    obtain ⟨r0, r1, r2, r3, r4⟩ := (X5.put m).cells
    unfold put5 at r0 r1 r2 r3 r4
    have C9 := Lib.hid (below_put (b := w.heap.size) C5 (Nat.le_refl _) m)
    clear Y5 X5 C5
    go_wp2
    have OC := C9.out
    unfold put5 at OC
    clear C9
    generalize hW : (World.setCell _ { block := w.heap.size, off := 4 } (Value.int IntKind.i64 m.L)) = Z at *
    clear hW
    refine bodyPost_ret (v := .tuple #[.agg #[.int .i64 m.C, .int .i64 m.D, .int .i64 m.S, .int .i64 m.M, .int .i64 m.L], .int .i64 0]) ?_ rfl ⟨m, 0, rfl, hSm, OC⟩
    simp [results, Try.results71, go_sem, r0, r1, r2, r3, r4]
  · obtain ⟨q0, q1, q2, q3, q4⟩ := Y4.out.cells
    have HM := Lib.hid hm
    obtain ⟨m1, m2, m3, m4, _⟩ := Mk.ok_true hm
    have hK : (keysFrom m m.C.toNat []).length ≤ 262144 := Nat.le_trans (keys_count m4 m.C.toNat []) (pow8 (by omega))
    obtain ⟨K, eK⟩ : ∃ K : Nat, (keysFrom m m.C.toNat []).length = K := ⟨_, rfl⟩
    rw [eK] at hK
    have EK := Lib.hid eK
    have hCn : ((0 + m.C.toNat : Nat) : Int) = m.C := by omega
    clear hm eK m1 m2 m3 m4
    go_wp2_with fail
    refine (specIsMaker_any m _).mono ?_
    rw [HM.out]
    rintro e W ⟨rfl, b5⟩
    clear q0 q1 q2 q3 q4
    have hs5 := b5.size
    have Y5 := Lib.hid (Y4.out.on b5)
    have X5 := Lib.hid (X4.out.on b5)
    have C5 := Lib.hid (below_trans' C4.out b5)
    have H5 := Lib.hid (H4.out.on b5 (by omega))
    clear Y4 X4 C4 H4 b5 hW3
    obtain ⟨q0, q1, q2, q3, q4⟩ := Y5.out.cells
    have c4s := C5.out.size
    have gW := H5.out.lt
    have hne : ¬ w.heap.size = w3.heap.size := by omega
    have hne2 : ¬ w3.heap.size = w.heap.size := by omega
    have v1 : IntKind.i64.wrap ((K : Int) + 2) = (K : Int) + 2 := by rw [IntKind.wrap_i64]; omega
    go_wp2
    go_region_held3 (fun w' => w'.cell? ⟨w3.heap.size, 0, none⟩ = some (.int .i64 m.C) ∧ w'.cell? ⟨w3.heap.size, 1, none⟩ = some (.int .i64 m.D) ∧ w'.cell? ⟨w3.heap.size, 2, none⟩ = some (.int .i64 m.S) ∧ w'.cell? ⟨w3.heap.size, 3, none⟩ = some (.int .i64 m.M) ∧ w'.cell? ⟨w3.heap.size, 4, none⟩ = some (.int .i64 m.L))
      (first
        | go_keep
        | with_reducible exact Y6.out.cells
        | with_reducible exact Y7.out.cells
        | with_reducible exact HPU)
      (first
        | (go_at_call 114; refine (l02Count_any m HM.out m.C.toNat none 0 0 [] _ hCn ⟨rfl, fun h => absurd h (by omega)⟩ (by omega) (by omega) (fun _ => ⟨rfl, rfl⟩) rfl).mono ?_; rw [EK.out]; rintro e w5 ⟨rfl, b6⟩; have Y6 := Lib.hid (Boxed.on (w := W.drew) Y5.out b6); have X6 := Lib.hid (Boxed.on (w := W.drew) X5.out b6); have C6 := Lib.hid (below_trans' (b := W.drew) C5.out.drew b6); have H6 := Lib.hid (Src.on (w := W.drew) H5.out b6 (show B ≤ W.heap.size by omega)))
        | (go_at_call 104; refine (l01Next_any B g A n c _ _ H6.out (by omega)).mono ?_; rintro e w6 ⟨x, rfl, x0, x9, S7, g7⟩; have v3 : IntKind.i64.wrap (x - 1) = x - 1 := (by rw [IntKind.wrap_i64]; omega); have Y7 := Lib.hid (Boxed.grown Y6.out g7 (by intro e; injection e with e; omega)); have X7 := Lib.hid (Boxed.grown X6.out g7 (by intro e; injection e with e; omega)); have C7 := Lib.hid (below_grown C6.out g7 (fun q e => by injection e with e; omega)); obtain ⟨d0, d1, d2, d3, d4⟩ := X7.out.thawed; obtain ⟨p0, p1, p2, p3, p4⟩ := X7.out.cells; have HPU := (Y7.out.put_other (b' := w.heap.size) (by omega) m).cells; unfold put5 at HPU))
    all_goals
      clear q0 q1 q2 q3 q4 d0 d1 d2 d3 d4 p0 p1 p2 p3 p4 HPU
      obtain ⟨r0, r1, r2, r3, r4⟩ := (X7.out.put m).cells
      unfold put5 at r0 r1 r2 r3 r4
      have OC := below_put (b := w.heap.size) C7.out (Nat.le_refl _) m
      go_wp2
      unfold put5 at OC
      generalize hW : (World.setCell _ { block := w.heap.size, off := 4 } (Value.int IntKind.i64 m.L)) = Z at *
      clear hW
      refine bodyPost_ret (v := .tuple #[.agg #[.int .i64 m.C, .int .i64 m.D, .int .i64 m.S, .int .i64 m.M, .int .i64 m.L], .int .i64 (x - 1)]) ?_ rfl ⟨m, x - 1, rfl, hSm, OC⟩
      simp [results, Try.results71, go_sem, r0, r1, r2, r3, r4]

end Go.Proofs.Ytbadahnhlehidaa
