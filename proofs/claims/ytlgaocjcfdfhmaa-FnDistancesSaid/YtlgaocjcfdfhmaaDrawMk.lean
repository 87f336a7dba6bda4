/- The draws of makers. -/
import Derived.Test.YtlgaocjcfdfhmaaDraw3
import Derived.Test.YtlgaocjcfdfhmaaMk2
import Derived.Deep.MidRow
namespace Go.Proofs.Ytlgaocjcfdfhmaa
open Go.RowKit

theorem Boxed.frozen {w : World} {b : Nat} {t : TypeId} {m : Mk} (h : Boxed w b t m) (i : Nat) : w.frozen? ⟨b, i, none⟩ = false := by
  unfold Boxed at h; simp [World.frozen?, h]
theorem Boxed.thawed {w : World} {b : Nat} {t : TypeId} {m : Mk} (h : Boxed w b t m) : w.frozen? ⟨b, 0, none⟩ = false ∧ w.frozen? ⟨b, 1, none⟩ = false ∧ w.frozen? ⟨b, 2, none⟩ = false ∧ w.frozen? ⟨b, 3, none⟩ = false ∧ w.frozen? ⟨b, 4, none⟩ = false :=
  ⟨h.frozen 0, h.frozen 1, h.frozen 2, h.frozen 3, h.frozen 4⟩
theorem Boxed.set0 {w : World} {b : Nat} {t : TypeId} {m : Mk} (h : Boxed w b t m) (x : Int) : Boxed (w.setCell ⟨b, 0, none⟩ (.int .i64 x)) b t { m with C := x } := by
  unfold Boxed at *; simp [World.setCell, Array.getElem?_modify, h]
theorem Boxed.set1 {w : World} {b : Nat} {t : TypeId} {m : Mk} (h : Boxed w b t m) (x : Int) : Boxed (w.setCell ⟨b, 1, none⟩ (.int .i64 x)) b t { m with D := x } := by
  unfold Boxed at *; simp [World.setCell, Array.getElem?_modify, h]
theorem Boxed.set2 {w : World} {b : Nat} {t : TypeId} {m : Mk} (h : Boxed w b t m) (x : Int) : Boxed (w.setCell ⟨b, 2, none⟩ (.int .i64 x)) b t { m with S := x } := by
  unfold Boxed at *; simp [World.setCell, Array.getElem?_modify, h]
theorem Boxed.set3 {w : World} {b : Nat} {t : TypeId} {m : Mk} (h : Boxed w b t m) (x : Int) : Boxed (w.setCell ⟨b, 3, none⟩ (.int .i64 x)) b t { m with M := x } := by
  unfold Boxed at *; simp [World.setCell, Array.getElem?_modify, h]
theorem Boxed.set4 {w : World} {b : Nat} {t : TypeId} {m : Mk} (h : Boxed w b t m) (x : Int) : Boxed (w.setCell ⟨b, 4, none⟩ (.int .i64 x)) b t { m with L := x } := by
  unfold Boxed at *; simp [World.setCell, Array.getElem?_modify, h]
theorem Boxed.other {w : World} {b : Nat} {t : TypeId} {m : Mk} (h : Boxed w b t m) {p : Addr} (hp : p.block ≠ b) (v : Value) : Boxed (w.setCell p v) b t m :=
by
  unfold Boxed at *; rw [← h]; simp [World.setCell, Array.getElem?_modify, hp]
/-- a cell of a new block is written -/
theorem set_new {w w' : World} {B g n c : Nat} {A : Option Addr} (h : Src w' B g A n c) (k : w.grownBy w' (some g)) {p : Addr} (hp : w.heap.size ≤ p.block) (hg : g < p.block) (v : Value) : Src (w'.setCell p v) B g A n c ∧ w.grownBy (w'.setCell p v) (some g) := by
  have k2 : w'.grownBy (w'.setCell p v) (some p.block) := grown_set (World.grownBy.refl _ _) rfl v
  exact ⟨h.apart k2 (fun q e => by injection e with e; omega), grown_own k k2 (fun q e => by injection e with e; omega)⟩

/-- a maker is stored -/
def put5 (w : World) (b : Nat) (m : Mk) : World :=
  ((((w.setCell ⟨b, 0, none⟩ (.int .i64 m.C)).setCell ⟨b, 1, none⟩ (.int .i64 m.D)).setCell ⟨b, 2, none⟩ (.int .i64 m.S)).setCell ⟨b, 3, none⟩ (.int .i64 m.M)).setCell ⟨b, 4, none⟩ (.int .i64 m.L)
theorem Boxed.put {w : World} {b : Nat} {t : TypeId} {m : Mk} (h : Boxed w b t m) (m' : Mk) : Boxed (put5 w b m') b t m' :=
  ((((h.set0 m'.C).set1 m'.D).set2 m'.S).set3 m'.M).set4 m'.L
theorem Boxed.put_other {w : World} {b b' : Nat} {t : TypeId} {m : Mk} (h : Boxed w b t m) (hb : b' ≠ b) (m' : Mk) : Boxed (put5 w b' m') b t m :=
  ((((h.other (p := ⟨b', 0, none⟩) hb _).other (p := ⟨b', 1, none⟩) hb _).other (p := ⟨b', 2, none⟩) hb _).other (p := ⟨b', 3, none⟩) hb _).other (p := ⟨b', 4, none⟩) hb _
theorem put_new {w w' : World} {B g n c : Nat} {A : Option Addr} (h : Src w' B g A n c) (k : w.grownBy w' (some g)) {b : Nat} (hp : w.heap.size ≤ b) (hg : g < b) (m : Mk) : Src (put5 w' b m) B g A n c ∧ w.grownBy (put5 w' b m) (some g) := by
  obtain ⟨h0, k0⟩ := set_new h k (p := ⟨b, 0, none⟩) hp hg (.int .i64 m.C)
  obtain ⟨h1, k1⟩ := set_new h0 k0 (p := ⟨b, 1, none⟩) hp hg (.int .i64 m.D)
  obtain ⟨h2, k2⟩ := set_new h1 k1 (p := ⟨b, 2, none⟩) hp hg (.int .i64 m.S)
  obtain ⟨h3, k3⟩ := set_new h2 k2 (p := ⟨b, 3, none⟩) hp hg (.int .i64 m.M)
  exact set_new h3 k3 (p := ⟨b, 4, none⟩) hp hg (.int .i64 m.L)

/-- what a draw of a maker answers -/
def DrawnMk (w : World) (B g : Nat) (A : Option Addr) (n c : Nat) (P : Mk → Prop) (e : Ending) (w' : World) : Prop :=
  ∃ m : Mk, e = .returned (.agg #[.int .i64 m.C, .int .i64 m.D, .int .i64 m.S, .int .i64 m.M, .int .i64 m.L]) ∧ P m ∧ Src w' B g A n c ∧ w.grownBy w' (some g)

set_option maxRecDepth 100000 in
set_option maxHeartbeats 4000000 in
theorem l02Valid_any (B g : Nat) (A : Option Addr) (n c : Nat) (w : World) (h : Src w B g A n c) :
    Calls Try.prog 73 #[.pointer (some ⟨g, 0, none⟩)] w (DrawnMk w B g A n c (fun m => m.ok = true ∧ m.C ≤ 4 ∧ m.D ≤ 4)) := by
  have hg1 := h.lt
  have h1 := h.alloc (.cells #[.int .i64 0, .int .i64 0, .int .i64 0, .int .i64 0, .int .i64 0] 25)
  have x1 := Boxed.new w 25 ⟨0, 0, 0, 0, 0⟩
  have k1 := grown_alloc (World.grownBy.refl w (some g)) (.cells #[.int .i64 0, .int .i64 0, .int .i64 0, .int .i64 0, .int .i64 0] 25)
  clear h
  go_enter Try.func73, Try.ntmps73
  go_wp2_with fail
  refine (l01Next_any B g A n c _ _ h1 (by omega)).mono ?_
  rintro e w2 ⟨x, rfl, x0, x9, h2, g2⟩
  have x2 := x1.grown g2 (by intro e; injection e with e; omega)
  have k2 := grown_trans' k1 g2
  have s2 : w.heap.size < w2.heap.size := by have := g2.size; simp at this; omega
  have x9 : x ≤ 2 := by omega
  clear h1 x1 k1 g2
  go_wp2_with fail
  refine (l01Next_any B g A n c _ _ h2 (by omega)).mono ?_
  rintro e w3 ⟨y, rfl, y0, y9, h3, g3⟩
  have x3 := x2.grown g3 (by intro e; injection e with e; omega)
  have k3 := grown_trans' k2 g3
  have b3 : w.heap.size < w3.heap.size := by have := g3.size; omega
  have y9 : y ≤ 2 := by omega
  clear h2 x2 k2 g3
  go_wp2_with fail
  have y3 := Boxed.new w3 25 ⟨2 + x, 2 + y, 0, 0, 0⟩
  refine (l01Next_any B g A n c _ _ (h3.alloc _) (by omega)).mono ?_
  rintro e w4 ⟨z, rfl, z0, z9, h4, g4⟩
  have x4 := (x3.alloc _).grown g4 (by intro e; injection e with e; omega)
  have y4 := y3.grown g4 (by intro e; injection e with e; omega)
  have k4 := grown_trans' (grown_alloc k3 _) g4
  have z9 : z ≤ y := by omega
  clear h3 x3 y3 k3 g4
  obtain ⟨q0, q1, q2, q3, q4⟩ := y4.cells
  obtain ⟨f0, f1, f2, f3, f4⟩ := y4.thawed
  go_wp2_with fail
  obtain ⟨h5, k5⟩ := set_new h4 k4 (p := ⟨w3.heap.size, 2, none⟩) (by show w.heap.size ≤ w3.heap.size; omega) (by show g < w3.heap.size; omega) (.int .i64 (1 + z))
  have x5 := x4.other (p := ⟨w3.heap.size, 2, none⟩) (by simp; omega) (.int .i64 (1 + z))
  have y5 := y4.set2 (1 + z)
  clear q0 q1 q2 q3 q4 f0 f1 f2 f3 f4 h4 k4 x4 y4
  refine (l01Next_any B g A n c _ _ h5 (by omega)).mono ?_
  rintro e w6 ⟨t, rfl, t0, t9, h6, g6⟩
  have x6 := x5.grown g6 (by intro e; injection e with e; omega)
  have y6 := y5.grown g6 (by intro e; injection e with e; omega)
  have k6 := grown_trans' k5 g6
  have t9 : t ≤ 1 + x := by omega
  clear h5 x5 y5 k5 g6
  obtain ⟨q0, q1, q2, q3, q4⟩ := y6.cells
  obtain ⟨f0, f1, f2, f3, f4⟩ := y6.thawed
  go_wp2_with fail
  obtain ⟨h7, k7⟩ := set_new h6 k6 (p := ⟨w3.heap.size, 3, none⟩) (by show w.heap.size ≤ w3.heap.size; omega) (by show g < w3.heap.size; omega) (.int .i64 (1 + t))
  have x7 := x6.other (p := ⟨w3.heap.size, 3, none⟩) (by simp; omega) (.int .i64 (1 + t))
  have y7 := y6.set3 (1 + t)
  clear q0 q1 q2 q3 q4 f0 f1 f2 f3 f4 h6 k6 x6 y6
  refine (l01Next_any B g A n c _ _ h7 (by omega)).mono ?_
  rintro e w8 ⟨u, rfl, u0, u9, h8, g8⟩
  have x8 := x7.grown g8 (by intro e; injection e with e; omega)
  have y8 := y7.grown g8 (by intro e; injection e with e; omega)
  have k8 := grown_trans' k7 g8
  have u9 : u ≤ 1 := by omega
  clear h7 x7 y7 k7 g8
  obtain ⟨h9, k9⟩ := set_new h8 k8 (p := ⟨w3.heap.size, 4, none⟩) (by show w.heap.size ≤ w3.heap.size; omega) (by show g < w3.heap.size; omega) (.int .i64 (1 + u))
  have x9 := x8.other (p := ⟨w3.heap.size, 4, none⟩) (by simp; omega) (.int .i64 (1 + u))
  have y9 := y8.set4 (1 + u)
  obtain ⟨f0, f1, f2, f3, f4⟩ := y8.thawed
  obtain ⟨q0, q1, q2, q3, q4⟩ := y8.cells
  obtain ⟨d0, d1, d2, d3, d4⟩ := x8.thawed
  obtain ⟨p0, p1, p2, p3, p4⟩ := x8.cells
  clear h8 x8 y8 k8
  go_wp2
  clear q0 q1 q2 q3 q4 f0 f1 f2 f3 f4 d0 d1 d2 d3 d4 p0 p1 p2 p3 p4
  obtain ⟨h10, k10⟩ := put_new h9 k9 (b := w.heap.size) (Nat.le_refl _) hg1 ⟨2 + x, 2 + y, 1 + z, 1 + t, 1 + u⟩
  obtain ⟨r0, r1, r2, r3, r4⟩ := (x9.put ⟨2 + x, 2 + y, 1 + z, 1 + t, 1 + u⟩).cells
  unfold put5 at r0 r1 r2 r3 r4
  refine bodyPost_ret (v := .agg #[.int .i64 (2 + x), .int .i64 (2 + y), .int .i64 (1 + z), .int .i64 (1 + t), .int .i64 (1 + u)]) (by simp [results, Try.results73, go_sem, r0, r1, r2, r3, r4]) rfl ⟨⟨2 + x, 2 + y, 1 + z, 1 + t, 1 + u⟩, rfl, ⟨?_, ?_, ?_⟩, h10, k10⟩
  · unfold Mk.ok inB
    simp
    omega
  · show 2 + x ≤ 4; omega
  · show 2 + y ≤ 4; omega

end Go.Proofs.Ytlgaocjcfdfhmaa
