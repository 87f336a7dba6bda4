/- The draws for ProductOf, SumOf, ListText and PowerOf. -/
import Derived.Test.YtnonmjllopcaeaaDraw3
namespace Go.Proofs.Ytnonmjllopcaeaa
open Go.RowKit

/-- what the draw of a list answers, its source made anew -/
def DrawnL (w : World) (e : Ending) (w' : World) : Prop :=
  ∃ A m c xs, e = .returned (.slice A m c) ∧ Own w' w.heap.size w'.heap.size A m xs ∧ m ≤ 101 ∧ m ≤ c ∧ Below w.heap.size w w'

theorem drawProd_any (B : Nat) (A : Option Addr) (n c : Nat) (w : World) (hb : Bts w B A n) (hB : B ≤ w.heap.size) (hn : n ≤ 4096) :
    Calls Try.prog 7 #[.slice A n c] w (DrawnL w) := by
  have HB := Lib.hid hb
  clear hb
  go_enter Try.func7, Try.ntmps7
  go_wp2_with fail
  refine (l01From_any B A n c _ HB.out hB hn).mono ?_
  rintro e w1 ⟨g, rfl, hg, hg1, h1, b1⟩
  have s1 := b1.size
  go_wp2_with fail
  refine (drawList_any B g A n c _ h1).mono ?_
  rintro e w2 ⟨D, m, d, xs, rfl, ho, hm, hmd, h2, g2⟩
  have b2 := below_grown b1 g2 (fun q e => by injection e with e; omega)
  have HO := Lib.hid (ho.more s1 (Nat.le_refl _) (Nat.le_refl _))
  clear ho b1 h1
  go_wp2
  go_ret
  exact ⟨D, m, d, xs, rfl, HO.out, hm, hmd, b2⟩

theorem drawSum_any (B : Nat) (A : Option Addr) (n c : Nat) (w : World) (hb : Bts w B A n) (hB : B ≤ w.heap.size) (hn : n ≤ 4096) :
    Calls Try.prog 13 #[.slice A n c] w (DrawnL w) := by
  have HB := Lib.hid hb
  clear hb
  go_enter Try.func13, Try.ntmps13
  go_wp2_with fail
  refine (l01From_any B A n c _ HB.out hB hn).mono ?_
  rintro e w1 ⟨g, rfl, hg, hg1, h1, b1⟩
  have s1 := b1.size
  go_wp2_with fail
  refine (drawList_any B g A n c _ h1).mono ?_
  rintro e w2 ⟨D, m, d, xs, rfl, ho, hm, hmd, h2, g2⟩
  have b2 := below_grown b1 g2 (fun q e => by injection e with e; omega)
  have HO := Lib.hid (ho.more s1 (Nat.le_refl _) (Nat.le_refl _))
  clear ho b1 h1
  go_wp2
  go_ret
  exact ⟨D, m, d, xs, rfl, HO.out, hm, hmd, b2⟩

set_option maxHeartbeats 1000000 in
theorem drawPower_any (B : Nat) (A : Option Addr) (n c : Nat) (w : World) (hb : Bts w B A n) (hB : B ≤ w.heap.size) (hn : n ≤ 4096) :
    Calls Try.prog 10 #[.slice A n c] w (DrawnTwo w (-1) 1000000000001 (-1) 61) := by
  have HB := Lib.hid hb
  clear hb
  go_enter Try.func10, Try.ntmps10
  go_wp2_with fail
  refine (l01From_any B A n c _ HB.out hB hn).mono ?_
  rintro e w1 ⟨g, rfl, hg, hg1, h1, b1⟩
  have s1 := b1.size
  go_wp2_with fail
  refine (drawNumber_any B g A n c _ h1).mono ?_
  rintro e w2 ⟨r, rfl, r0, r1, h2, g2⟩
  have b2 := below_grown b1 g2 (fun q e => by injection e with e; omega)
  have s2 := b2.size
  have HI := Lib.hid (ints_new w2 [0, 1, 2, 3, r, 10] 2)
  have HS := Lib.hid (h2.alloc (.cells ([0, 1, 2, 3, r, 10].map (Value.int .i64)).toArray 2))
  have HB2 := Lib.hid (b2.alloc s2 (.cells ([0, 1, 2, 3, r, 10].map (Value.int .i64)).toArray 2))
  have hgl := h2.lt
  clear h1 b1 g2 h2 b2
  go_wp2_with fail
  refine (l01Pick_any B g A n c _ _ _ _ _ HS.out HI.out (fun ad e => by injection e with e; subst e; simp; omega) (by simp) (by simp)).mono ?_
  rintro e w3 ⟨x, rfl, hx, h3, g3⟩
  have b3 := below_grown HB2.out g3 (fun q e => by injection e with e; omega)
  have x0 : -1 ≤ x ∧ x ≤ 1000000000001 := by
    simp only [List.mem_cons, List.mem_nil_iff, or_false] at hx
    omega
  obtain ⟨x0, x1⟩ := x0
  have s3 := b3.size
  clear HI HS HB2 g3 hx
  go_wp2_with fail
  refine (l01Next_any B g A n c _ _ h3 (by omega)).mono ?_
  rintro e w4 ⟨q, rfl, q0, q1, h4, g4⟩
  have q2 : q ≤ 13 := by omega
  have b4 := below_grown b3 g4 (fun q e => by injection e with e; omega)
  have s4 := b4.size
  have HI := Lib.hid (ints_new w4 [0, 1, 2, q, 39, 40, 60, 61, -1] 2)
  have HS := Lib.hid (h4.alloc (.cells ([0, 1, 2, q, 39, 40, 60, 61, -1].map (Value.int .i64)).toArray 2))
  have HB4 := Lib.hid (b4.alloc s4 (.cells ([0, 1, 2, q, 39, 40, 60, 61, -1].map (Value.int .i64)).toArray 2))
  have hgl4 := h4.lt
  clear h3 b3 g4 h4 b4 q1
  go_wp2_with fail
  refine (l01Pick_any B g A n c _ _ _ _ _ HS.out HI.out (fun ad e => by injection e with e; subst e; simp; omega) (by simp) (by simp)).mono ?_
  rintro e w5 ⟨y, rfl, hy, h5, g5⟩
  have b5 := below_grown HB4.out g5 (fun q e => by injection e with e; omega)
  have y0 : -1 ≤ y ∧ y ≤ 61 := by
    simp only [List.mem_cons, List.mem_nil_iff, or_false] at hy
    omega
  obtain ⟨y0, y1⟩ := y0
  clear HI HS HB4 g5 hy
  go_wp2
  go_ret2
  exact ⟨x, y, rfl, x0, x1, y0, y1, b5⟩

end Go.Proofs.Ytnonmjllopcaeaa
