/- The draws of makers. The draw of a maker. The draw of cuts. The draws for KeyFault. -/
import Derived.Test.YtbfnffecmglgfaaDraw
import Derived.Test.YtbfnffecmglgfaaMk
import Derived.Deep.MidRow
import Derived.Deep.RegionHeld3
namespace Go.Proofs.Ytbfnffecmglgfaa
open Go.RowKit

theorem Boxed.frozen {w : World} {b : Nat} {t : TypeId} {m : Mk} (h : Boxed w b t m) (i : Nat) : w.frozen? ⟨b, i, none⟩ = false := by
  unfold Boxed at h; simp [World.frozen?, h]
theorem Boxed.thawed {w : World} {b : Nat} {t : TypeId} {m : Mk} (h : Boxed w b t m) : w.frozen? ⟨b, 0, none⟩ = false ∧ w.frozen? ⟨b, 1, none⟩ = false ∧ w.frozen? ⟨b, 2, none⟩ = false ∧ w.frozen? ⟨b, 3, none⟩ = false ∧ w.frozen? ⟨b, 4, none⟩ = false :=
  ⟨h.frozen 0, h.frozen 1, h.frozen 2, h.frozen 3, h.frozen 4⟩
theorem Boxed.set0 {w : World} {b : Nat} {t : TypeId} {m : Mk} (h : Boxed w b t m) (x : Int) : Boxed (w.setCell ⟨b, 0, none⟩ (.int .i64 x)) b t { m with C := x } := by
  unfold Boxed at *; simp [World.setCell, Array.getElem?_modify, h]
theorem Boxed.set1 {w : World} {b : Nat} {t : TypeId} {m : Mk} (h : Boxed w b t m) (x : Int) : Boxed (w.setCell ⟨b, 1, none⟩ (.int .i64 x)) b t { m with D := x } := by
  unfold Boxed at *; simp [World.setCell, Array.getElem?_modify, h]
theorem Boxed.set2 {w : World} {b : Nat} {t : TypeId} {m : Mk} (h : Boxed w b t m) (x : Int) : Boxed (w.setCell ⟨b, 2, none⟩ (.int .i64 x)) b t { m with S := x } := by
  unfold Boxed at *; simp [World.setCell, Array.getElem?_modify, h]
theorem Boxed.set3 {w : World} {b : Nat} {t : TypeId} {m : Mk} (h : Boxed w b t m) (x : Int) : Boxed (w.setCell ⟨b, 3, none⟩ (.int .i64 x)) b t { m with M := x } := by
  unfold Boxed at *; simp [World.setCell, Array.getElem?_modify, h]
theorem Boxed.set4 {w : World} {b : Nat} {t : TypeId} {m : Mk} (h : Boxed w b t m) (x : Int) : Boxed (w.setCell ⟨b, 4, none⟩ (.int .i64 x)) b t { m with L := x } := by
  unfold Boxed at *; simp [World.setCell, Array.getElem?_modify, h]
theorem Boxed.other {w : World} {b : Nat} {t : TypeId} {m : Mk} (h : Boxed w b t m) {p : Addr} (hp : p.block ≠ b) (v : Value) : Boxed (w.setCell p v) b t m :=
by
  unfold Boxed at *; rw [← h]; simp [World.setCell, Array.getElem?_modify, hp]
/-- a cell of a new block is written -/
theorem set_new {w w' : World} {B g n c : Nat} {A : Option Addr} (h : Src w' B g A n c) (k : w.grownBy w' (some g)) {p : Addr} (hp : w.heap.size ≤ p.block) (hg : g < p.block) (v : Value) : Src (w'.setCell p v) B g A n c ∧ w.grownBy (w'.setCell p v) (some g) := by
  have k2 : w'.grownBy (w'.setCell p v) (some p.block) := grown_set (World.grownBy.refl _ _) rfl v
  exact ⟨h.apart k2 (fun q e => by injection e with e; omega), grown_own k k2 (fun q e => by injection e with e; omega)⟩

/-- a maker is stored -/
def put5 (w : World) (b : Nat) (m : Mk) : World :=
  ((((w.setCell ⟨b, 0, none⟩ (.int .i64 m.C)).setCell ⟨b, 1, none⟩ (.int .i64 m.D)).setCell ⟨b, 2, none⟩ (.int .i64 m.S)).setCell ⟨b, 3, none⟩ (.int .i64 m.M)).setCell ⟨b, 4, none⟩ (.int .i64 m.L)
theorem Boxed.put {w : World} {b : Nat} {t : TypeId} {m : Mk} (h : Boxed w b t m) (m' : Mk) : Boxed (put5 w b m') b t m' :=
  ((((h.set0 m'.C).set1 m'.D).set2 m'.S).set3 m'.M).set4 m'.L
theorem Boxed.put_other {w : World} {b b' : Nat} {t : TypeId} {m : Mk} (h : Boxed w b t m) (hb : b' ≠ b) (m' : Mk) : Boxed (put5 w b' m') b t m :=
  ((((h.other (p := ⟨b', 0, none⟩) hb _).other (p := ⟨b', 1, none⟩) hb _).other (p := ⟨b', 2, none⟩) hb _).other (p := ⟨b', 3, none⟩) hb _).other (p := ⟨b', 4, none⟩) hb _
theorem put_new {w w' : World} {B g n c : Nat} {A : Option Addr} (h : Src w' B g A n c) (k : w.grownBy w' (some g)) {b : Nat} (hp : w.heap.size ≤ b) (hg : g < b) (m : Mk) : Src (put5 w' b m) B g A n c ∧ w.grownBy (put5 w' b m) (some g) := by
  obtain ⟨h0, k0⟩ := set_new h k (p := ⟨b, 0, none⟩) hp hg (.int .i64 m.C)
  obtain ⟨h1, k1⟩ := set_new h0 k0 (p := ⟨b, 1, none⟩) hp hg (.int .i64 m.D)
  obtain ⟨h2, k2⟩ := set_new h1 k1 (p := ⟨b, 2, none⟩) hp hg (.int .i64 m.S)
  obtain ⟨h3, k3⟩ := set_new h2 k2 (p := ⟨b, 3, none⟩) hp hg (.int .i64 m.M)
  exact set_new h3 k3 (p := ⟨b, 4, none⟩) hp hg (.int .i64 m.L)

/-- what a draw of a maker answers -/
def DrawnMk (w : World) (B g : Nat) (A : Option Addr) (n c : Nat) (P : Mk → Prop) (e : Ending) (w' : World) : Prop :=
  ∃ m : Mk, e = .returned (.agg #[.int .i64 m.C, .int .i64 m.D, .int .i64 m.S, .int .i64 m.M, .int .i64 m.L]) ∧ P m ∧ Src w' B g A n c ∧ w.grownBy w' (some g)

set_option maxRecDepth 100000 in
set_option maxHeartbeats 4000000 in
theorem l02Valid_any (B g : Nat) (A : Option Addr) (n c : Nat) (w : World) (h : Src w B g A n c) :
    Calls Try.prog 134 #[.pointer (some ⟨g, 0, none⟩)] w (DrawnMk w B g A n c (fun m => m.ok = true ∧ m.C ≤ 4 ∧ m.D ≤ 4)) := by
  have hg1 := h.lt
  have h1 := h.alloc (.cells #[.int .i64 0, .int .i64 0, .int .i64 0, .int .i64 0, .int .i64 0] 25)
  have x1 := Boxed.new w 25 ⟨0, 0, 0, 0, 0⟩
  have k1 := grown_alloc (World.grownBy.refl w (some g)) (.cells #[.int .i64 0, .int .i64 0, .int .i64 0, .int .i64 0, .int .i64 0] 25)
  clear h
  go_enter Try.func134, Try.ntmps134
  go_wp2_with fail
  refine (l01Next_any B g A n c _ _ h1 (by omega)).mono ?_
  rintro e w2 ⟨x, rfl, x0, x9, h2, g2⟩
  have x2 := x1.grown g2 (by intro e; injection e with e; omega)
  have k2 := grown_trans' k1 g2
  have s2 : w.heap.size < w2.heap.size := by have := g2.size; simp at this; omega
  have x9 : x ≤ 2 := by omega
  clear h1 x1 k1 g2
  go_wp2_with fail
  refine (l01Next_any B g A n c _ _ h2 (by omega)).mono ?_
  rintro e w3 ⟨y, rfl, y0, y9, h3, g3⟩
  have x3 := x2.grown g3 (by intro e; injection e with e; omega)
  have k3 := grown_trans' k2 g3
  have b3 : w.heap.size < w3.heap.size := by have := g3.size; omega
  have y9 : y ≤ 2 := by omega
  clear h2 x2 k2 g3
  go_wp2_with fail
  have y3 := Boxed.new w3 25 ⟨2 + x, 2 + y, 0, 0, 0⟩
  refine (l01Next_any B g A n c _ _ (h3.alloc _) (by omega)).mono ?_
  rintro e w4 ⟨z, rfl, z0, z9, h4, g4⟩
  have x4 := (x3.alloc _).grown g4 (by intro e; injection e with e; omega)
  have y4 := y3.grown g4 (by intro e; injection e with e; omega)
  have k4 := grown_trans' (grown_alloc k3 _) g4
  have z9 : z ≤ y := by omega
  clear h3 x3 y3 k3 g4
  obtain ⟨q0, q1, q2, q3, q4⟩ := y4.cells
  obtain ⟨f0, f1, f2, f3, f4⟩ := y4.thawed
  go_wp2_with fail
  obtain ⟨h5, k5⟩ := set_new h4 k4 (p := ⟨w3.heap.size, 2, none⟩) (by show w.heap.size ≤ w3.heap.size; omega) (by show g < w3.heap.size; omega) (.int .i64 (1 + z))
  have x5 := x4.other (p := ⟨w3.heap.size, 2, none⟩) (by simp; omega) (.int .i64 (1 + z))
  have y5 := y4.set2 (1 + z)
  clear q0 q1 q2 q3 q4 f0 f1 f2 f3 f4 h4 k4 x4 y4
  refine (l01Next_any B g A n c _ _ h5 (by omega)).mono ?_
  rintro e w6 ⟨t, rfl, t0, t9, h6, g6⟩
  have x6 := x5.grown g6 (by intro e; injection e with e; omega)
  have y6 := y5.grown g6 (by intro e; injection e with e; omega)
  have k6 := grown_trans' k5 g6
  have t9 : t ≤ 1 + x := by omega
  clear h5 x5 y5 k5 g6
  obtain ⟨q0, q1, q2, q3, q4⟩ := y6.cells
  obtain ⟨f0, f1, f2, f3, f4⟩ := y6.thawed
  go_wp2_with fail
  obtain ⟨h7, k7⟩ := set_new h6 k6 (p := ⟨w3.heap.size, 3, none⟩) (by show w.heap.size ≤ w3.heap.size; omega) (by show g < w3.heap.size; omega) (.int .i64 (1 + t))
  have x7 := x6.other (p := ⟨w3.heap.size, 3, none⟩) (by simp; omega) (.int .i64 (1 + t))
  have y7 := y6.set3 (1 + t)
  clear q0 q1 q2 q3 q4 f0 f1 f2 f3 f4 h6 k6 x6 y6
  refine (l01Next_any B g A n c _ _ h7 (by omega)).mono ?_
  rintro e w8 ⟨u, rfl, u0, u9, h8, g8⟩
  have x8 := x7.grown g8 (by intro e; injection e with e; omega)
  have y8 := y7.grown g8 (by intro e; injection e with e; omega)
  have k8 := grown_trans' k7 g8
  have u9 : u ≤ 1 := by omega
  clear h7 x7 y7 k7 g8
  obtain ⟨h9, k9⟩ := set_new h8 k8 (p := ⟨w3.heap.size, 4, none⟩) (by show w.heap.size ≤ w3.heap.size; omega) (by show g < w3.heap.size; omega) (.int .i64 (1 + u))
  have x9 := x8.other (p := ⟨w3.heap.size, 4, none⟩) (by simp; omega) (.int .i64 (1 + u))
  have y9 := y8.set4 (1 + u)
  obtain ⟨f0, f1, f2, f3, f4⟩ := y8.thawed
  obtain ⟨q0, q1, q2, q3, q4⟩ := y8.cells
  obtain ⟨d0, d1, d2, d3, d4⟩ := x8.thawed
  obtain ⟨p0, p1, p2, p3, p4⟩ := x8.cells
  clear h8 x8 y8 k8
  go_wp2
  clear q0 q1 q2 q3 q4 f0 f1 f2 f3 f4 d0 d1 d2 d3 d4 p0 p1 p2 p3 p4
  obtain ⟨h10, k10⟩ := put_new h9 k9 (b := w.heap.size) (Nat.le_refl _) hg1 ⟨2 + x, 2 + y, 1 + z, 1 + t, 1 + u⟩
  obtain ⟨r0, r1, r2, r3, r4⟩ := (x9.put ⟨2 + x, 2 + y, 1 + z, 1 + t, 1 + u⟩).cells
  unfold put5 at r0 r1 r2 r3 r4
  refine bodyPost_ret (v := .agg #[.int .i64 (2 + x), .int .i64 (2 + y), .int .i64 (1 + z), .int .i64 (1 + t), .int .i64 (1 + u)]) (by simp [results, Try.results134, go_sem, r0, r1, r2, r3, r4]) rfl ⟨⟨2 + x, 2 + y, 1 + z, 1 + t, 1 + u⟩, rfl, ⟨?_, ?_, ?_⟩, h10, k10⟩
  · unfold Mk.ok inB
    simp
    omega
  · show 2 + x ≤ 4; omega
  · show 2 + y ≤ 4; omega

end Go.Proofs.Ytbfnffecmglgfaa

namespace Go.Proofs.Ytbfnffecmglgfaa
open Go.RowKit

/-- how great a drawn maker's numbers are -/
def Small (m : Mk) : Prop := 1 ≤ m.C ∧ m.C ≤ 7 ∧ 1 ≤ m.D ∧ m.D ≤ 9 ∧ 0 ≤ m.S ∧ m.S ≤ 9 ∧ 0 ≤ m.M ∧ m.M ≤ 9 ∧ 0 ≤ m.L ∧ m.L ≤ 9

set_option maxRecDepth 100000 in
set_option maxHeartbeats 8000000 in
theorem l02Draw_any (B g : Nat) (A : Option Addr) (n c : Nat) (w : World) (h : Src w B g A n c) :
    Calls Try.prog 88 #[.pointer (some ⟨g, 0, none⟩)] w (DrawnMk w B g A n c Small) := by
  have hg1 := h.lt
  have h1 := h.alloc (.cells #[.int .i64 0, .int .i64 0, .int .i64 0, .int .i64 0, .int .i64 0] 25)
  have x1 := Boxed.new w 25 ⟨0, 0, 0, 0, 0⟩
  have k1 := grown_alloc (World.grownBy.refl w (some g)) (.cells #[.int .i64 0, .int .i64 0, .int .i64 0, .int .i64 0, .int .i64 0] 25)
  clear h
  go_enter Try.func88, Try.ntmps88
  go_wp2_with fail
  refine (l02Valid_any B g A n c _ h1).mono ?_
  rintro e w2 ⟨m, rfl, ⟨mok, mC, mD⟩, h2, g2⟩
  obtain ⟨m1, m2, m3, m4, m5, m6, m7, m8, m9, m10, m11⟩ := Mk.ok_true mok
  have x2 := x1.grown g2 (by intro e; injection e with e; omega)
  have k2 := grown_trans' k1 g2
  have s2 : w.heap.size < w2.heap.size := by have := g2.size; simp at this; omega
  clear h1 x1 k1 g2 mok
  go_wp2_with fail
  have y2 := Boxed.new w2 25 m
  refine (l01Next_any B g A n c _ _ (h2.alloc _) (by omega)).mono ?_
  rintro e w3 ⟨k, rfl, k0, k9, h3, g3⟩
  have x3 := (x2.alloc _).grown g3 (by intro e; injection e with e; omega)
  have y3 := y2.grown g3 (by intro e; injection e with e; omega)
  have k3 := grown_trans' (grown_alloc k2 _) g3
  have s3 : w2.heap.size < w3.heap.size := by have := g3.size; simp at this; omega
  clear h2 x2 y2 k2 g3
  obtain ⟨q0, q1, q2, q3, q4⟩ := y3.cells
  obtain ⟨f0, f1, f2, f3, f4⟩ := y3.thawed
  by_cases n0 : k = 0
  · subst n0
    have HI := Lib.hid (ints_new w3 [1, 6, 7] 2)
    go_wp2_with fail
    refine (l01Pick_any B g A n c _ _ _ _ _ (h3.alloc _) HI.out (fun ad e => by injection e with e; subst e; show w3.heap.size ≠ g; omega) (by simp) (by simp)).mono ?_
    rintro e w4 ⟨r, rfl, hr, h4, g4⟩
    simp only [List.mem_cons, List.not_mem_nil, or_false] at hr
    have x4 := (x3.alloc _).grown g4 (by intro e; injection e with e; omega)
    have y4 := (y3.alloc _).grown g4 (by intro e; injection e with e; omega)
    have k4 := grown_trans' (grown_alloc k3 _) g4
    clear h3 x3 y3 k3 g4 q0 q1 q2 q3 q4 f0 f1 f2 f3 f4
    obtain ⟨h5, k5⟩ := set_new h4 k4 (p := ⟨w2.heap.size, 0, none⟩) (by show w.heap.size ≤ w2.heap.size; omega) (by show g < w2.heap.size; omega) (.int .i64 r)
    have x5 := x4.other (p := ⟨w2.heap.size, 0, none⟩) (by simp; omega) (.int .i64 r)
    have y5 := y4.set0 r
    obtain ⟨f0, f1, f2, f3, f4⟩ := y4.thawed
    obtain ⟨q0, q1, q2, q3, q4⟩ := y4.cells
    obtain ⟨d0, d1, d2, d3, d4⟩ := x4.thawed
    obtain ⟨p0, p1, p2, p3, p4⟩ := x4.cells
    clear h4 x4 y4 k4
    go_wp2
    obtain ⟨h10, k10⟩ := put_new h5 k5 (b := w.heap.size) (Nat.le_refl _) hg1 ⟨r, m.D, m.S, m.M, m.L⟩
    obtain ⟨r0, r1, r2, r3, r4⟩ := (x5.put ⟨r, m.D, m.S, m.M, m.L⟩).cells
    unfold put5 at r0 r1 r2 r3 r4
    refine bodyPost_ret (v := .agg #[.int .i64 (⟨r, m.D, m.S, m.M, m.L⟩ : Mk).C, .int .i64 (⟨r, m.D, m.S, m.M, m.L⟩ : Mk).D, .int .i64 (⟨r, m.D, m.S, m.M, m.L⟩ : Mk).S, .int .i64 (⟨r, m.D, m.S, m.M, m.L⟩ : Mk).M, .int .i64 (⟨r, m.D, m.S, m.M, m.L⟩ : Mk).L]) (by simp [results, Try.results88, go_sem, r0, r1, r2, r3, r4]) rfl ⟨⟨r, m.D, m.S, m.M, m.L⟩, rfl, (by unfold Small; dsimp only; omega), h10, k10⟩
  by_cases n1 : k = 1
  · subst n1
    have HI := Lib.hid (ints_new w3 [1, 8, 9] 2)
    go_wp2_with fail
    refine (l01Pick_any B g A n c _ _ _ _ _ (h3.alloc _) HI.out (fun ad e => by injection e with e; subst e; show w3.heap.size ≠ g; omega) (by simp) (by simp)).mono ?_
    rintro e w4 ⟨r, rfl, hr, h4, g4⟩
    simp only [List.mem_cons, List.not_mem_nil, or_false] at hr
    have x4 := (x3.alloc _).grown g4 (by intro e; injection e with e; omega)
    have y4 := (y3.alloc _).grown g4 (by intro e; injection e with e; omega)
    have k4 := grown_trans' (grown_alloc k3 _) g4
    clear h3 x3 y3 k3 g4 q0 q1 q2 q3 q4 f0 f1 f2 f3 f4
    obtain ⟨h5, k5⟩ := set_new h4 k4 (p := ⟨w2.heap.size, 1, none⟩) (by show w.heap.size ≤ w2.heap.size; omega) (by show g < w2.heap.size; omega) (.int .i64 r)
    have x5 := x4.other (p := ⟨w2.heap.size, 1, none⟩) (by simp; omega) (.int .i64 r)
    have y5 := y4.set1 r
    obtain ⟨f0, f1, f2, f3, f4⟩ := y4.thawed
    obtain ⟨q0, q1, q2, q3, q4⟩ := y4.cells
    obtain ⟨d0, d1, d2, d3, d4⟩ := x4.thawed
    obtain ⟨p0, p1, p2, p3, p4⟩ := x4.cells
    clear h4 x4 y4 k4
    go_wp2
    obtain ⟨h10, k10⟩ := put_new h5 k5 (b := w.heap.size) (Nat.le_refl _) hg1 ⟨m.C, r, m.S, m.M, m.L⟩
    obtain ⟨r0, r1, r2, r3, r4⟩ := (x5.put ⟨m.C, r, m.S, m.M, m.L⟩).cells
    unfold put5 at r0 r1 r2 r3 r4
    refine bodyPost_ret (v := .agg #[.int .i64 (⟨m.C, r, m.S, m.M, m.L⟩ : Mk).C, .int .i64 (⟨m.C, r, m.S, m.M, m.L⟩ : Mk).D, .int .i64 (⟨m.C, r, m.S, m.M, m.L⟩ : Mk).S, .int .i64 (⟨m.C, r, m.S, m.M, m.L⟩ : Mk).M, .int .i64 (⟨m.C, r, m.S, m.M, m.L⟩ : Mk).L]) (by simp [results, Try.results88, go_sem, r0, r1, r2, r3, r4]) rfl ⟨⟨m.C, r, m.S, m.M, m.L⟩, rfl, (by unfold Small; dsimp only; omega), h10, k10⟩
  by_cases n2 : k = 2
  · subst n2
    have HI := Lib.hid (ints_new w3 [0, m.D - 1, m.D] 2)
    go_wp2_with fail
    refine (l01Pick_any B g A n c _ _ _ _ _ (h3.alloc _) HI.out (fun ad e => by injection e with e; subst e; show w3.heap.size ≠ g; omega) (by simp) (by simp)).mono ?_
    rintro e w4 ⟨r, rfl, hr, h4, g4⟩
    simp only [List.mem_cons, List.not_mem_nil, or_false] at hr
    have x4 := (x3.alloc _).grown g4 (by intro e; injection e with e; omega)
    have y4 := (y3.alloc _).grown g4 (by intro e; injection e with e; omega)
    have k4 := grown_trans' (grown_alloc k3 _) g4
    clear h3 x3 y3 k3 g4 q0 q1 q2 q3 q4 f0 f1 f2 f3 f4
    obtain ⟨h5, k5⟩ := set_new h4 k4 (p := ⟨w2.heap.size, 2, none⟩) (by show w.heap.size ≤ w2.heap.size; omega) (by show g < w2.heap.size; omega) (.int .i64 r)
    have x5 := x4.other (p := ⟨w2.heap.size, 2, none⟩) (by simp; omega) (.int .i64 r)
    have y5 := y4.set2 r
    obtain ⟨f0, f1, f2, f3, f4⟩ := y4.thawed
    obtain ⟨q0, q1, q2, q3, q4⟩ := y4.cells
    obtain ⟨d0, d1, d2, d3, d4⟩ := x4.thawed
    obtain ⟨p0, p1, p2, p3, p4⟩ := x4.cells
    clear h4 x4 y4 k4
    go_wp2
    obtain ⟨h10, k10⟩ := put_new h5 k5 (b := w.heap.size) (Nat.le_refl _) hg1 ⟨m.C, m.D, r, m.M, m.L⟩
    obtain ⟨r0, r1, r2, r3, r4⟩ := (x5.put ⟨m.C, m.D, r, m.M, m.L⟩).cells
    unfold put5 at r0 r1 r2 r3 r4
    refine bodyPost_ret (v := .agg #[.int .i64 (⟨m.C, m.D, r, m.M, m.L⟩ : Mk).C, .int .i64 (⟨m.C, m.D, r, m.M, m.L⟩ : Mk).D, .int .i64 (⟨m.C, m.D, r, m.M, m.L⟩ : Mk).S, .int .i64 (⟨m.C, m.D, r, m.M, m.L⟩ : Mk).M, .int .i64 (⟨m.C, m.D, r, m.M, m.L⟩ : Mk).L]) (by simp [results, Try.results88, go_sem, r0, r1, r2, r3, r4]) rfl ⟨⟨m.C, m.D, r, m.M, m.L⟩, rfl, (by unfold Small; dsimp only; omega), h10, k10⟩
  by_cases n3 : k = 3
  · subst n3
    have HI := Lib.hid (ints_new w3 [0, m.C, m.C + 1] 2)
    go_wp2_with fail
    refine (l01Pick_any B g A n c _ _ _ _ _ (h3.alloc _) HI.out (fun ad e => by injection e with e; subst e; show w3.heap.size ≠ g; omega) (by simp) (by simp)).mono ?_
    rintro e w4 ⟨r, rfl, hr, h4, g4⟩
    simp only [List.mem_cons, List.not_mem_nil, or_false] at hr
    have x4 := (x3.alloc _).grown g4 (by intro e; injection e with e; omega)
    have y4 := (y3.alloc _).grown g4 (by intro e; injection e with e; omega)
    have k4 := grown_trans' (grown_alloc k3 _) g4
    clear h3 x3 y3 k3 g4 q0 q1 q2 q3 q4 f0 f1 f2 f3 f4
    obtain ⟨h5, k5⟩ := set_new h4 k4 (p := ⟨w2.heap.size, 3, none⟩) (by show w.heap.size ≤ w2.heap.size; omega) (by show g < w2.heap.size; omega) (.int .i64 r)
    have x5 := x4.other (p := ⟨w2.heap.size, 3, none⟩) (by simp; omega) (.int .i64 r)
    have y5 := y4.set3 r
    obtain ⟨f0, f1, f2, f3, f4⟩ := y4.thawed
    obtain ⟨q0, q1, q2, q3, q4⟩ := y4.cells
    obtain ⟨d0, d1, d2, d3, d4⟩ := x4.thawed
    obtain ⟨p0, p1, p2, p3, p4⟩ := x4.cells
    clear h4 x4 y4 k4
    go_wp2
    obtain ⟨h10, k10⟩ := put_new h5 k5 (b := w.heap.size) (Nat.le_refl _) hg1 ⟨m.C, m.D, m.S, r, m.L⟩
    obtain ⟨r0, r1, r2, r3, r4⟩ := (x5.put ⟨m.C, m.D, m.S, r, m.L⟩).cells
    unfold put5 at r0 r1 r2 r3 r4
    refine bodyPost_ret (v := .agg #[.int .i64 (⟨m.C, m.D, m.S, r, m.L⟩ : Mk).C, .int .i64 (⟨m.C, m.D, m.S, r, m.L⟩ : Mk).D, .int .i64 (⟨m.C, m.D, m.S, r, m.L⟩ : Mk).S, .int .i64 (⟨m.C, m.D, m.S, r, m.L⟩ : Mk).M, .int .i64 (⟨m.C, m.D, m.S, r, m.L⟩ : Mk).L]) (by simp [results, Try.results88, go_sem, r0, r1, r2, r3, r4]) rfl ⟨⟨m.C, m.D, m.S, r, m.L⟩, rfl, (by unfold Small; dsimp only; omega), h10, k10⟩
  by_cases n4 : k = 4
  · subst n4
    by_cases hcd : m.D < m.C
    · have hcb : (m.D < m.C) = True := by simpa using hcd
      have HI := Lib.hid (ints_new w3 [0, m.D, m.D + 1] 2)
      go_wp2_with fail
      refine (l01Pick_any B g A n c _ _ _ _ _ (h3.alloc _) HI.out (fun ad e => by injection e with e; subst e; show w3.heap.size ≠ g; omega) (by simp) (by simp)).mono ?_
      rintro e w4 ⟨r, rfl, hr, h4, g4⟩
      simp only [List.mem_cons, List.not_mem_nil, or_false] at hr
      have x4 := (x3.alloc _).grown g4 (by intro e; injection e with e; omega)
      have y4 := (y3.alloc _).grown g4 (by intro e; injection e with e; omega)
      have k4 := grown_trans' (grown_alloc k3 _) g4
      clear h3 x3 y3 k3 g4 q0 q1 q2 q3 q4 f0 f1 f2 f3 f4
      obtain ⟨h5, k5⟩ := set_new h4 k4 (p := ⟨w2.heap.size, 4, none⟩) (by show w.heap.size ≤ w2.heap.size; omega) (by show g < w2.heap.size; omega) (.int .i64 r)
      have x5 := x4.other (p := ⟨w2.heap.size, 4, none⟩) (by simp; omega) (.int .i64 r)
      have y5 := y4.set4 r
      obtain ⟨f0, f1, f2, f3, f4⟩ := y4.thawed
      obtain ⟨q0, q1, q2, q3, q4⟩ := y4.cells
      obtain ⟨d0, d1, d2, d3, d4⟩ := x4.thawed
      obtain ⟨p0, p1, p2, p3, p4⟩ := x4.cells
      clear h4 x4 y4 k4
      go_wp2
      obtain ⟨h10, k10⟩ := put_new h5 k5 (b := w.heap.size) (Nat.le_refl _) hg1 ⟨m.C, m.D, m.S, m.M, r⟩
      obtain ⟨r0, r1, r2, r3, r4⟩ := (x5.put ⟨m.C, m.D, m.S, m.M, r⟩).cells
      unfold put5 at r0 r1 r2 r3 r4
      refine bodyPost_ret (v := .agg #[.int .i64 (⟨m.C, m.D, m.S, m.M, r⟩ : Mk).C, .int .i64 (⟨m.C, m.D, m.S, m.M, r⟩ : Mk).D, .int .i64 (⟨m.C, m.D, m.S, m.M, r⟩ : Mk).S, .int .i64 (⟨m.C, m.D, m.S, m.M, r⟩ : Mk).M, .int .i64 (⟨m.C, m.D, m.S, m.M, r⟩ : Mk).L]) (by simp [results, Try.results88, go_sem, r0, r1, r2, r3, r4]) rfl ⟨⟨m.C, m.D, m.S, m.M, r⟩, rfl, (by unfold Small; dsimp only; omega), h10, k10⟩
    have HI := Lib.hid (ints_new w3 [0, m.C, m.C + 1] 2)
    go_wp2_with fail
    refine (l01Pick_any B g A n c _ _ _ _ _ (h3.alloc _) HI.out (fun ad e => by injection e with e; subst e; show w3.heap.size ≠ g; omega) (by simp) (by simp)).mono ?_
    rintro e w4 ⟨r, rfl, hr, h4, g4⟩
    simp only [List.mem_cons, List.not_mem_nil, or_false] at hr
    have x4 := (x3.alloc _).grown g4 (by intro e; injection e with e; omega)
    have y4 := (y3.alloc _).grown g4 (by intro e; injection e with e; omega)
    have k4 := grown_trans' (grown_alloc k3 _) g4
    clear h3 x3 y3 k3 g4 q0 q1 q2 q3 q4 f0 f1 f2 f3 f4
    obtain ⟨h5, k5⟩ := set_new h4 k4 (p := ⟨w2.heap.size, 4, none⟩) (by show w.heap.size ≤ w2.heap.size; omega) (by show g < w2.heap.size; omega) (.int .i64 r)
    have x5 := x4.other (p := ⟨w2.heap.size, 4, none⟩) (by simp; omega) (.int .i64 r)
    have y5 := y4.set4 r
    obtain ⟨f0, f1, f2, f3, f4⟩ := y4.thawed
    obtain ⟨q0, q1, q2, q3, q4⟩ := y4.cells
    obtain ⟨d0, d1, d2, d3, d4⟩ := x4.thawed
    obtain ⟨p0, p1, p2, p3, p4⟩ := x4.cells
    clear h4 x4 y4 k4
    go_wp2
    obtain ⟨h10, k10⟩ := put_new h5 k5 (b := w.heap.size) (Nat.le_refl _) hg1 ⟨m.C, m.D, m.S, m.M, r⟩
    obtain ⟨r0, r1, r2, r3, r4⟩ := (x5.put ⟨m.C, m.D, m.S, m.M, r⟩).cells
    unfold put5 at r0 r1 r2 r3 r4
    refine bodyPost_ret (v := .agg #[.int .i64 (⟨m.C, m.D, m.S, m.M, r⟩ : Mk).C, .int .i64 (⟨m.C, m.D, m.S, m.M, r⟩ : Mk).D, .int .i64 (⟨m.C, m.D, m.S, m.M, r⟩ : Mk).S, .int .i64 (⟨m.C, m.D, m.S, m.M, r⟩ : Mk).M, .int .i64 (⟨m.C, m.D, m.S, m.M, r⟩ : Mk).L]) (by simp [results, Try.results88, go_sem, r0, r1, r2, r3, r4]) rfl ⟨⟨m.C, m.D, m.S, m.M, r⟩, rfl, (by unfold Small; dsimp only; omega), h10, k10⟩
  by_cases n5 : k = 5
  · subst n5
    go_wp2_with fail
    refine (l01Next_any B g A n c _ _ h3 (by omega)).mono ?_
    rintro e w4 ⟨r, rfl, r0, r9, h4, g4⟩
    have x4 := x3.grown g4 (by intro e; injection e with e; omega)
    have k4 := grown_trans' k3 g4
    have r9 : r ≤ 1 := by omega
    clear h3 x3 y3 k3 g4 q0 q1 q2 q3 q4 f0 f1 f2 f3 f4
    go_wp2_with fail
    refine (l01Next_any B g A n c _ _ h4 (by omega)).mono ?_
    rintro e w5 ⟨s, rfl, s0, s9, h5, g5⟩
    have x5 := x4.grown g5 (by intro e; injection e with e; omega)
    have k5 := grown_trans' k4 g5
    have s9 : s ≤ 1 := by omega
    clear h4 x4 k4 g5
    obtain ⟨d0, d1, d2, d3, d4⟩ := x5.thawed
    obtain ⟨p0, p1, p2, p3, p4⟩ := x5.cells
    go_wp2
    obtain ⟨h10, k10⟩ := put_new h5 k5 (b := w.heap.size) (Nat.le_refl _) hg1 ⟨6, 4 + r, 2 + s, 2, 3⟩
    obtain ⟨r0, r1, r2, r3, r4⟩ := (x5.put ⟨6, 4 + r, 2 + s, 2, 3⟩).cells
    unfold put5 at r0 r1 r2 r3 r4
    refine bodyPost_ret (v := .agg #[.int .i64 (⟨6, 4 + r, 2 + s, 2, 3⟩ : Mk).C, .int .i64 (⟨6, 4 + r, 2 + s, 2, 3⟩ : Mk).D, .int .i64 (⟨6, 4 + r, 2 + s, 2, 3⟩ : Mk).S, .int .i64 (⟨6, 4 + r, 2 + s, 2, 3⟩ : Mk).M, .int .i64 (⟨6, 4 + r, 2 + s, 2, 3⟩ : Mk).L]) (by simp [results, Try.results88, go_sem, r0, r1, r2, r3, r4]) rfl ⟨⟨6, 4 + r, 2 + s, 2, 3⟩, rfl, (by unfold Small; dsimp only; omega), h10, k10⟩
  have e0 : (k == 0) = false := by simpa using n0
  have e1 : (k == 1) = false := by simpa using n1
  have e2 : (k == 2) = false := by simpa using n2
  have e3 : (k == 3) = false := by simpa using n3
  have e4 : (k == 4) = false := by simpa using n4
  have e5 : (k == 5) = false := by simpa using n5
  obtain ⟨d0, d1, d2, d3, d4⟩ := x3.thawed
  obtain ⟨p0, p1, p2, p3, p4⟩ := x3.cells
  go_wp2
  obtain ⟨h10, k10⟩ := put_new h3 k3 (b := w.heap.size) (Nat.le_refl _) hg1 m
  obtain ⟨r0, r1, r2, r3, r4⟩ := (x3.put m).cells
  unfold put5 at r0 r1 r2 r3 r4
  refine bodyPost_ret (v := .agg #[.int .i64 (m : Mk).C, .int .i64 (m : Mk).D, .int .i64 (m : Mk).S, .int .i64 (m : Mk).M, .int .i64 (m : Mk).L]) (by simp [results, Try.results88, go_sem, r0, r1, r2, r3, r4]) rfl ⟨m, rfl, (by unfold Small; omega), h10, k10⟩

end Go.Proofs.Ytbfnffecmglgfaa

namespace Go.Proofs.Ytbfnffecmglgfaa
open Go.RowKit

theorem row_full {w : World} {base t n : Nat} {v : Value} {xs : List Int} (h : w.ownsRow base t 1 v n (listI xs)) (hl : xs.length = n) : ∃ A c, v = .slice A n c ∧ Own w base w.heap.size A n xs ∧ n ≤ c ∧ c ≤ 9223372036854775807 := by
  obtain ⟨A, c, rfl, ho⟩ := row_ints h hl
  refine ⟨A, c, rfl, ho, row_cap h, ?_⟩
  rcases h.2 with ⟨e, _⟩ | ⟨g, cap, cur, e, hb, hg, hnc, hcm, hcs, htk⟩
  · injection e with _ _ e3; omega
  · injection e with _ _ e3
    unfold maxLen at hcm; omega
theorem row_begins {w : World} {t : TypeId} (o : Obj) : ((w.alloc o).alloc (.cells #[] t)).ownsRow (w.heap.size + 1) t 1 (.slice (some ⟨w.heap.size + 1, 0, none⟩) 0 0) 0 (listI []) := by
  have := row_empty (w := w.alloc o) (base := w.heap.size + 1) (t := t) (by simp)
  rwa [show (w.alloc o).heap.size = w.heap.size + 1 by simp] at this

theorem wrap_small {x : Int} (h : -1000000 ≤ x) (h2 : x ≤ 1000000) : IntKind.i64.wrap x = x := by rw [IntKind.wrap_i64]; omega
theorem Src.drewN {w : World} {B g n c : Nat} {A : Option Addr} (h : Src w B g A n c) (q : Nat) : Src (w.drewN q) B g A n c := h

/-- what a draw of cuts answers -/
def DrawnCuts (w : World) (B g : Nat) (A : Option Addr) (n c : Nat) (e : Ending) (w' : World) : Prop :=
  ∃ A' k c' xs, e = .returned (.slice A' k c') ∧ Own w' w.heap.size w'.heap.size A' k xs ∧ k ≤ 10 ∧ k ≤ c' ∧ c' ≤ 9223372036854775807 ∧ Src w' B g A n c ∧ w.grownBy w' (some g)

set_option maxRecDepth 100000 in
set_option maxHeartbeats 8000000 in
theorem l02DrawCuts_any (m : Mk) (hm : Small m) (B g : Nat) (A : Option Addr) (n c : Nat) (w : World) (h : Src w B g A n c) :
    Calls Try.prog 144 #[.pointer (some ⟨g, 0, none⟩), .agg #[.int .i64 m.C, .int .i64 m.D, .int .i64 m.S, .int .i64 m.M, .int .i64 m.L]] w (DrawnCuts w B g A n c) := by
  have hg1 := h.lt
  obtain ⟨c1, c2, d1, d2, s1, s2, _⟩ := hm
  obtain ⟨i0, hi, hz0, hz1, hz2⟩ := info_parts Try.info2'
  have HI := Lib.hid (And.intro hi (And.intro hz0 (And.intro hz1 hz2)))
  clear hi hz0 hz1 hz2
  have H1 := Lib.hid ((h.alloc (.cells #[.int .i64 m.C, .int .i64 m.D, .int .i64 m.S, .int .i64 m.M, .int .i64 m.L] 25)).alloc (.cells #[] 2))
  have X1 := Lib.hid ((Boxed.new w 25 m).alloc (.cells #[] 2))
  have R1 := Lib.hid (row_begins (w := w) (t := 2) (.cells #[.int .i64 m.C, .int .i64 m.D, .int .i64 m.S, .int .i64 m.M, .int .i64 m.L] 25))
  have G1 := Lib.hid (grown_alloc (grown_alloc (World.grownBy.refl w (some g)) (.cells #[.int .i64 m.C, .int .i64 m.D, .int .i64 m.S, .int .i64 m.M, .int .i64 m.L] 25)) (.cells #[] 2))
  clear h
  have hmx1 : (if 1 < m.D then m.D else 1) = m.D := by split <;> omega
  have hmx0 : (if 0 < m.S then m.S else 0) = m.S := by split <;> omega
  go_enter Try.func144, Try.ntmps144
  go_wp2_with fail
  refine (l01Next_any B g A n c _ _ H1.out (by omega)).mono ?_
  rintro e w2 ⟨x, rfl, x0, x9, h2, g2⟩
  have X2 := Lib.hid (X1.out.grown g2 (by intro e; injection e with e; omega))
  have R2 := Lib.hid (row_apart R1.out g2 (by omega))
  have G2 := Lib.hid (grown_trans' G1.out g2)
  have H2 := Lib.hid h2
  have z2 : w.heap.size + 2 ≤ w2.heap.size := by have := g2.size; simp at this; omega
  have x9 : x ≤ 9 := by omega
  clear H1 X1 R1 G1 g2 h2
  go_wp2_with fail
  go_loopw [5, 6, 7] (fun v a i wr => ∃ (k : Nat) (xs : List Int) (at_ : Int), k ≤ 8 ∧ (k : Int) ≤ m.C ∧ Hid (xs.length = k) ∧ i = .int .i64 k ∧ a = .int .i64 at_ ∧ -9 * (k : Int) ≤ at_ ∧ at_ ≤ 9 + 9 * (k : Int) ∧
      Hid (wr.ownsRow (w.heap.size + 1) 2 1 v k (listI xs)) ∧ Hid (Src wr B g A n c) ∧ Hid (w.grownBy wr (some g)) ∧ Hid (Boxed wr w.heap.size 25 m) ∧ w.heap.size + 2 ≤ wr.heap.size) (fun _ _ i _ => 9 - (intOf i).toNat)
  case atStart => exact ⟨0, [], x, by omega, by omega, Lib.hid rfl, rfl, rfl, by omega, by omega, R2, H2, G2, X2, z2⟩
  case round =>
    clear R2 H2 G2 X2
    obtain ⟨k, xs, at_, hk, hkC, HX, rfl, rfl, a0, a1, HO, HS, HG, HB, hz⟩ := hrel
    obtain ⟨q0, q1, q2, q3, q4⟩ := HB.out.cells
    by_cases hlt : (k : Int) < m.C
    · have hsl := HS.out.lt
      go_wp2_with (at_builtin; refine wpList_append_lies _ rfl _ _ 39 rfl (w.heap.size + 1) 2 i0 _ 1 8 Try.underlying39 HI.out.1 HI.out.2.1 HI.out.2.2.1 HI.out.2.2.2 rfl (by omega) _ k _ rfl (HO.out.alloc _) ⟨wr.heap.size, 0, none⟩ 1 1 [.int .i64 at_] rfl rfl (World.news_of_block (cs := #[.int .i64 at_]) (t := 2) (fr := (0, 0)) (heap_alloc_new wr _)) (by simp [Value.oneCell']) (by omega) (by unfold maxLen; omega) (by omega) (by simp; omega) (wr.heap.size + 1) (by simp) ?_; intro gg cap w5 hown1 hgrow hat hlt3)
      have R5 := Lib.hid hown1
      have S5 := Lib.hid ((HS.out.alloc (.cells #[.int .i64 at_] 2)).apart hgrow (fun q e => by have := row_base HO.out q e; omega))
      have X5 := Lib.hid ((HB.out.alloc (.cells #[.int .i64 at_] 2)).grown hgrow (by intro e; have := row_base HO.out _ e.symm; omega))
      have G5 := Lib.hid (grown_own (grown_alloc HG.out (.cells #[.int .i64 at_] 2)) hgrow (fun q e => by have := row_base HO.out q e; omega))
      have Z5 : w.heap.size + 2 ≤ w5.heap.size := by have := hgrow.size; simp at this; omega
      clear hown1 hgrow hat hlt3 HO HS HB HG hz hsl q0 q1 q2 q3 q4
      obtain ⟨q0, q1, q2, q3, q4⟩ := X5.out.cells
      have e1 : IntKind.i64.wrap (2 * m.S) = 2 * m.S := by rw [IntKind.wrap_i64]; omega
      have e2 : IntKind.i64.wrap (2 * m.S + 1) = 2 * m.S + 1 := by rw [IntKind.wrap_i64]; omega
      go_region_held3 (fun w' => w'.cell? ⟨w.heap.size, 0, none⟩ = some (.int .i64 m.C) ∧ w'.cell? ⟨w.heap.size, 1, none⟩ = some (.int .i64 m.D) ∧ w'.cell? ⟨w.heap.size, 2, none⟩ = some (.int .i64 m.S) ∧ w'.cell? ⟨w.heap.size, 3, none⟩ = some (.int .i64 m.M) ∧ w'.cell? ⟨w.heap.size, 4, none⟩ = some (.int .i64 m.L))
        (first
          | go_keep
          | exact X6.out.cells)
        (first
          | (go_at_call 89; refine (l01Next_any B g A n c _ _ (S5.out.drewN 1) (by omega)).mono ?_; rintro e w6 ⟨p, rfl, p0, p1, S6, g6⟩; have p9 : p ≤ 18 := (by omega); have e3 : IntKind.i64.wrap (at_ + p) = at_ + p := (wrap_small (by omega) (by omega)); have e4 : IntKind.i64.wrap (at_ + p - m.S) = at_ + p - m.S := (wrap_small (by omega) (by omega)); have X6 := Lib.hid ((X5.out.drewN 1).grown g6 (by intro e; injection e with e; omega))))
      have R6 := Lib.hid (row_apart (w := w5.drewN 1) R5.out g6 (by omega))
      have G6 := Lib.hid (grown_trans' (grown_drewN G5.out 1) g6)
      have H6 := Lib.hid S6
      have z6 : w.heap.size + 2 ≤ w6.heap.size := by have := g6.size; simp at this; omega
      have y0 : -9 * ((k + 1 : Nat) : Int) ≤ at_ + p - m.S := by omega
      have y1 : at_ + p - m.S ≤ 9 + 9 * ((k + 1 : Nat) : Int) := by omega
      clear R5 S5 X5 G5 Z5 g6 S6 q0 q1 q2 q3 q4 e1 e2 e3 e4 p1
      generalize at_ + p - m.S = y at *
      go_wp2_with fail
      refine (l01Next_any B g A n c _ _ H6.out (by omega)).mono ?_
      rintro e w7 ⟨t, rfl, t0, t9, h7, g7⟩
      have R7 := Lib.hid (row_apart R6.out g7 (by omega))
      have G7 := Lib.hid (grown_trans' G6.out g7)
      have X7 := Lib.hid (X6.out.grown g7 (by intro e; injection e with e; omega))
      have H7 := Lib.hid h7
      have z7 : w.heap.size + 2 ≤ w7.heap.size := by have := g7.size; omega
      clear R6 G6 X6 H6 g7 h7 t9
      by_cases ht : 0 < t
      · obtain ⟨z, hz, hz0, hz1⟩ : ∃ z : Int, (if 0 < (if y < m.D - 1 then y else m.D - 1) then (if y < m.D - 1 then y else m.D - 1) else 0) = z ∧ 0 ≤ z ∧ z ≤ 9 := ⟨_, rfl, by split <;> omega, by split <;> split <;> omega⟩
        obtain ⟨q0, q1, q2, q3, q4⟩ := X7.out.cells
        go_wp2
        go_roundw
        case rel => exact ⟨k + 1, xs ++ [at_], z, by omega, by omega, Lib.hid (by rw [List.length_append, HX.out]; rfl), by go_num, by go_num, by omega, by omega, Lib.hid (by rw [← listI_snoc]; exact R7.out), H7, G7, X7, z7⟩
        case measure => simp [intOf]; omega
      · go_wp2
        go_roundw
        case rel => exact ⟨k + 1, xs ++ [at_], y, by omega, by omega, Lib.hid (by rw [List.length_append, HX.out]; rfl), by go_num, by go_num, by omega, by omega, Lib.hid (by rw [← listI_snoc]; exact R7.out), H7, G7, X7, z7⟩
        case measure => simp [intOf]; omega
    · have hsl := HS.out.lt
      go_wp2_with fail
      clear q0 q1 q2 q3 q4
      refine (l01Next_any B g A n c _ _ HS.out (by omega)).mono ?_
      rintro e w7 ⟨t, rfl, t0, t9, h7, g7⟩
      have R7 := Lib.hid (row_apart HO.out g7 (by omega))
      have G7 := Lib.hid (grown_trans' HG.out g7)
      have H7 := Lib.hid h7
      have z7 : w.heap.size + 2 ≤ w7.heap.size := by have := g7.size; omega
      have hg7 := h7.lt
      clear HO HG HS HB g7 h7 t9 hsl
      by_cases ht : t = 0
      · subst ht
        go_wp2_with (at_builtin; refine wpList_append_lies _ rfl _ _ 39 rfl (w.heap.size + 1) 2 i0 _ 1 8 Try.underlying39 HI.out.1 HI.out.2.1 HI.out.2.2.1 HI.out.2.2.2 rfl (by omega) _ k _ rfl (R7.out.alloc _) ⟨w7.heap.size, 0, none⟩ 1 1 [.int .i64 0] rfl rfl (World.news_of_block (cs := #[.int .i64 0]) (t := 2) (fr := (0, 0)) (heap_alloc_new w7 _)) (by simp [Value.oneCell']) (by omega) (by unfold maxLen; omega) (by omega) (by simp; omega) (w7.heap.size + 1) (by simp) ?_; intro gg cap w5 hown1 hgrow hat hlt3)
        have S5 := Lib.hid ((H7.out.alloc (.cells #[.int .i64 0] 2)).apart hgrow (fun q e => by have := row_base R7.out q e; omega))
        have G5 := Lib.hid (grown_own (grown_alloc G7.out (.cells #[.int .i64 0] 2)) hgrow (fun q e => by have := row_base R7.out q e; omega))
        rw [listI_snoc] at hown1
        obtain ⟨A5, c5, e5, ho5, hk5, hc5⟩ := row_full hown1 (by rw [List.length_append, HX.out]; rfl)
        injection e5 with e6 e7 e8
        subst e6; subst e8
        have HO5 := Lib.hid ho5
        clear hown1 hgrow hat hlt3 ho5 R7 G7 H7
        go_wp2
        go_ret
        exact ⟨_, k + 1, cap, _, rfl, HO5.out.more (by omega) (Nat.le_refl _) (Nat.le_refl _), by omega, hk5, hc5, S5.out, G5.out⟩
      · have tb : (t == 0) = false := by simpa using ht
        obtain ⟨A5, c5, rfl, ho5, hk5, hc5⟩ := row_full R7.out HX.out
        have HO5 := Lib.hid ho5
        clear ho5
        go_wp2
        go_ret
        exact ⟨_, k, _, _, rfl, HO5.out.more (by omega) (Nat.le_refl _) (Nat.le_refl _), by omega, hk5, hc5, H7.out, G7.out⟩

end Go.Proofs.Ytbfnffecmglgfaa

namespace Go.Proofs.Ytbfnffecmglgfaa
open Go.RowKit

/-- what a draw of a maker and cuts answers -/
def DrawnMC (w : World) (e : Ending) (w' : World) : Prop :=
  ∃ (m : Mk) (A : Option Addr) (k c : Nat) (xs : List Int), e = .returned (.tuple #[.agg #[.int .i64 m.C, .int .i64 m.D, .int .i64 m.S, .int .i64 m.M, .int .i64 m.L], .slice A k c]) ∧ Small m ∧ Ints w' w'.heap.size A k xs ∧ k ≤ 10 ∧ k ≤ c ∧ c ≤ 9223372036854775807 ∧ Below w.heap.size w w'

theorem below_put {W w : World} {B b : Nat} (h : Below B W w) (hb : B ≤ b) (m : Mk) : Below B W (put5 w b m) :=
  ((((h.setCell (p := ⟨b, 0, none⟩) hb _).setCell (p := ⟨b, 1, none⟩) hb _).setCell (p := ⟨b, 2, none⟩) hb _).setCell (p := ⟨b, 3, none⟩) hb _).setCell (p := ⟨b, 4, none⟩) hb _
theorem Own.put5 {w : World} {lo hi n : Nat} {A : Option Addr} {xs : List Int} (h : Own w lo hi A n xs) {b : Nat} (hb : b < lo) (m : Mk) : Own (put5 w b m) lo hi A n xs := by
  have k : ∀ (w : World) (i : Nat) (v : Value), Own w lo hi A n xs → Own (w.setCell ⟨b, i, none⟩ v) lo hi A n xs := fun w i v h =>
    h.apart (grown_set (p := ⟨b, i, none⟩) (World.grownBy.refl w (some b)) rfl v) (fun g e => by injection e with e; omega)
  exact k _ _ _ (k _ _ _ (k _ _ _ (k _ _ _ (k _ _ _ h))))

end Go.Proofs.Ytbfnffecmglgfaa
